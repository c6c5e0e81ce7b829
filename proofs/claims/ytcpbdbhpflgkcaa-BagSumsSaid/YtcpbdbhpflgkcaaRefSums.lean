/-
  Sum, Minus and Times of the document, and Times of package bag, as contracts.
-/
import Derived.Test.YtcpbdbhpflgkcaaPlus
namespace Go.Proofs.Ytcpbdbhpflgkcaa
open Go.RowKit

set_option maxRecDepth 100000 in
theorem refSum_any (p q : Option Addr) (rs ss : List ItR) (c d : Nat) (hm1 : rs.length ≤ 60) (hm2 : ss.length ≤ 60) (w : World) (hX : ItemsIn w p rs) (hzp : p = none → c = 0) (hZ : ItemsIn w q ss) :
    Calls Try.prog 23 #[.slice p rs.length c, .slice q ss.length d] w (BagPost w.heap.size w (combVal (fun x y => x + y) (vals rs) (vals ss)) (combErr (fun x y => x + y) (vals rs) (vals ss))) := by
  have h1 := refBagValid_any p rs c (by omega) w hX
  have h2 := fun W (h : Below w.heap.size w W) => refBagValid_any q ss d (by omega) W (hZ.belowV h)
  cases q1 : validBag (vals rs) with
  | false =>
    have e1 : combErr (fun x y => x + y) (vals rs) (vals ss) = 1 := by unfold combErr; rw [q1]; rfl
    have e2 : combVal (fun x y => x + y) (vals rs) (vals ss) = [] := by unfold combVal; rw [q1]; rfl
    rw [e1, e2]
    rw [q1] at h1
    have H1 := Lib.hid h1
    clear h1 h2 q1 hX hZ e1 e2
    go_enter Try.func23, Try.ntmps23
    go_wp2_with fail
    refine H1.out.mono ?_
    rintro e w1 ⟨rfl, hb1⟩
    go_wp2_with fail
    go_ret2
    exact bagPost_nil hb1
  | true =>
    cases q2 : validBag (vals ss) with
    | false =>
      have e1 : combErr (fun x y => x + y) (vals rs) (vals ss) = 1 := by unfold combErr; rw [q1, q2]; rfl
      have e2 : combVal (fun x y => x + y) (vals rs) (vals ss) = [] := by unfold combVal; rw [q1, q2]; rfl
      rw [e1, e2]
      rw [q1] at h1
      rw [q2] at h2
      have H1 := Lib.hid h1
      have H2 := Lib.hid h2
      clear h1 h2 q1 q2 hX hZ e1 e2
      go_enter Try.func23, Try.ntmps23
      go_wp2_with fail
      refine H1.out.mono ?_
      rintro e w1 ⟨rfl, hb1⟩
      go_wp2_with fail
      refine (H2.out _ hb1).mono ?_
      rintro e w2 ⟨rfl, hb2⟩
      go_wp2_with fail
      go_ret2
      exact bagPost_nil (hb1.trans (hb2.mono hb1.size))
    | true =>
      have e1 : combErr (fun x y => x + y) (vals rs) (vals ss) = toldErr (plus (vals rs) (vals ss) (1)) := by unfold combErr; rw [if_pos ⟨q1, q2⟩, plus_comb _ (asc_of_valid q1) (asc_of_valid q2)]; congr 2; funext x y; omega
      have e2 : combVal (fun x y => x + y) (vals rs) (vals ss) = toldVal (plus (vals rs) (vals ss) (1)) := by unfold combVal; rw [if_pos ⟨q1, q2⟩, plus_comb _ (asc_of_valid q1) (asc_of_valid q2)]; congr 2; funext x y; omega
      rw [e1, e2]
      have hp := fun W (h : Below w.heap.size w W) => Plus_any p q rs ss c d (1) ⟨by decide, by decide⟩ (by omega) (by omega) W (hX.belowV h) hzp (hZ.belowV h) (asc_of_valid q1) (bd_of_valid q1) q2
      rw [q1] at h1
      rw [q2] at h2
      have H1 := Lib.hid h1
      have H2 := Lib.hid h2
      have HP := Lib.hid hp
      clear h1 h2 hp q1 q2 hX hZ e1 e2
      generalize plus (vals rs) (vals ss) (1) = pl at *
      go_enter Try.func23, Try.ntmps23
      go_wp2_with fail
      refine H1.out.mono ?_
      rintro e w1 ⟨rfl, hb1⟩
      go_wp2_with fail
      refine (H2.out _ hb1).mono ?_
      rintro e w2 ⟨rfl, hb2⟩
      have hB2 : Below w.heap.size w w2 := hb1.trans (hb2.mono hb1.size)
      clear hb1 hb2
      go_wp2_with fail
      refine (HP.out _ hB2).mono ?_
      rintro e w3 ⟨p3, o3, c3, rfl, hv3, hc3, hl3, hi3, _, hb3⟩
      have ht := told_any p3 o3 c3 hc3 (by omega) w3 hi3
      rw [hv3] at ht
      have HT := Lib.hid ht
      have hB3 : Below w.heap.size w w3 := hB2.trans (hb3.mono hB2.size)
      clear ht hb3 hB2 hi3 hv3
      go_wp2_with fail
      refine HT.out.mono ?_
      rintro e w4 ⟨p4, o4, c4, rfl, hv4, hc4, hl4, hi4, hb4⟩
      have HV4 := Lib.hid hv4
      clear hv4
      go_wp2_with fail
      go_ret2
      exact ⟨p4, o4, c4, rfl, HV4.out, hc4, hl4, hi4, hB3.trans (hb4.mono hB3.size)⟩

set_option maxRecDepth 100000 in
theorem refMinus_any (p q : Option Addr) (rs ss : List ItR) (c d : Nat) (hm1 : rs.length ≤ 60) (hm2 : ss.length ≤ 60) (w : World) (hX : ItemsIn w p rs) (hzp : p = none → c = 0) (hZ : ItemsIn w q ss) :
    Calls Try.prog 25 #[.slice p rs.length c, .slice q ss.length d] w (BagPost w.heap.size w (combVal (fun x y => x - y) (vals rs) (vals ss)) (combErr (fun x y => x - y) (vals rs) (vals ss))) := by
  have h1 := refBagValid_any p rs c (by omega) w hX
  have h2 := fun W (h : Below w.heap.size w W) => refBagValid_any q ss d (by omega) W (hZ.belowV h)
  cases q1 : validBag (vals rs) with
  | false =>
    have e1 : combErr (fun x y => x - y) (vals rs) (vals ss) = 1 := by unfold combErr; rw [q1]; rfl
    have e2 : combVal (fun x y => x - y) (vals rs) (vals ss) = [] := by unfold combVal; rw [q1]; rfl
    rw [e1, e2]
    rw [q1] at h1
    have H1 := Lib.hid h1
    clear h1 h2 q1 hX hZ e1 e2
    go_enter Try.func25, Try.ntmps25
    go_wp2_with fail
    refine H1.out.mono ?_
    rintro e w1 ⟨rfl, hb1⟩
    go_wp2_with fail
    go_ret2
    exact bagPost_nil hb1
  | true =>
    cases q2 : validBag (vals ss) with
    | false =>
      have e1 : combErr (fun x y => x - y) (vals rs) (vals ss) = 1 := by unfold combErr; rw [q1, q2]; rfl
      have e2 : combVal (fun x y => x - y) (vals rs) (vals ss) = [] := by unfold combVal; rw [q1, q2]; rfl
      rw [e1, e2]
      rw [q1] at h1
      rw [q2] at h2
      have H1 := Lib.hid h1
      have H2 := Lib.hid h2
      clear h1 h2 q1 q2 hX hZ e1 e2
      go_enter Try.func25, Try.ntmps25
      go_wp2_with fail
      refine H1.out.mono ?_
      rintro e w1 ⟨rfl, hb1⟩
      go_wp2_with fail
      refine (H2.out _ hb1).mono ?_
      rintro e w2 ⟨rfl, hb2⟩
      go_wp2_with fail
      go_ret2
      exact bagPost_nil (hb1.trans (hb2.mono hb1.size))
    | true =>
      have e1 : combErr (fun x y => x - y) (vals rs) (vals ss) = toldErr (plus (vals rs) (vals ss) (-1)) := by unfold combErr; rw [if_pos ⟨q1, q2⟩, plus_comb _ (asc_of_valid q1) (asc_of_valid q2)]; congr 2; funext x y; omega
      have e2 : combVal (fun x y => x - y) (vals rs) (vals ss) = toldVal (plus (vals rs) (vals ss) (-1)) := by unfold combVal; rw [if_pos ⟨q1, q2⟩, plus_comb _ (asc_of_valid q1) (asc_of_valid q2)]; congr 2; funext x y; omega
      rw [e1, e2]
      have hp := fun W (h : Below w.heap.size w W) => Plus_any p q rs ss c d (-1) ⟨by decide, by decide⟩ (by omega) (by omega) W (hX.belowV h) hzp (hZ.belowV h) (asc_of_valid q1) (bd_of_valid q1) q2
      rw [q1] at h1
      rw [q2] at h2
      have H1 := Lib.hid h1
      have H2 := Lib.hid h2
      have HP := Lib.hid hp
      clear h1 h2 hp q1 q2 hX hZ e1 e2
      generalize plus (vals rs) (vals ss) (-1) = pl at *
      go_enter Try.func25, Try.ntmps25
      go_wp2_with fail
      refine H1.out.mono ?_
      rintro e w1 ⟨rfl, hb1⟩
      go_wp2_with fail
      refine (H2.out _ hb1).mono ?_
      rintro e w2 ⟨rfl, hb2⟩
      have hB2 : Below w.heap.size w w2 := hb1.trans (hb2.mono hb1.size)
      clear hb1 hb2
      go_wp2_with fail
      refine (HP.out _ hB2).mono ?_
      rintro e w3 ⟨p3, o3, c3, rfl, hv3, hc3, hl3, hi3, _, hb3⟩
      have ht := told_any p3 o3 c3 hc3 (by omega) w3 hi3
      rw [hv3] at ht
      have HT := Lib.hid ht
      have hB3 : Below w.heap.size w w3 := hB2.trans (hb3.mono hB2.size)
      clear ht hb3 hB2 hi3 hv3
      go_wp2_with fail
      refine HT.out.mono ?_
      rintro e w4 ⟨p4, o4, c4, rfl, hv4, hc4, hl4, hi4, hb4⟩
      have HV4 := Lib.hid hv4
      clear hv4
      go_wp2_with fail
      go_ret2
      exact ⟨p4, o4, c4, rfl, HV4.out, hc4, hl4, hi4, hB3.trans (hb4.mono hB3.size)⟩

instance (n : Int) : Decidable (small n) := by unfold small; infer_instance
def tmErr (b : List It) (n : Int) : Int := if validBag b = true then (if small n then toldErr (plus [] b n) else 7) else 1
def tmVal (b : List It) (n : Int) : List It := if validBag b = true then (if small n then toldVal (plus [] b n) else []) else []
theorem tm_comb {b : List It} (n : Int) (hb : Asc b) : comb (fun x _ => x * n) b [] = plus [] b n := by
  rw [plus_comb n nil_asc hb]
  refine bag_ext (comb_asc _ hb nil_asc) (comb_asc _ nil_asc hb) fun r => ?_
  rw [comb_cnt (by simp) hb nil_asc, comb_cnt (by simp) nil_asc hb]
  simp [cnt, Int.mul_comm]

set_option maxRecDepth 100000 in
theorem refTimes_any (q : Option Addr) (ss : List ItR) (d : Nat) (n : Int) (hm2 : ss.length ≤ 60) (w : World) (hZ : ItemsIn w q ss) :
    Calls Try.prog 27 #[.slice q ss.length d, .int .i64 n] w (BagPost w.heap.size w (tmVal (vals ss) n) (tmErr (vals ss) n)) := by
  have h2 := refBagValid_any q ss d (by omega) w hZ
  cases q2 : validBag (vals ss) with
  | false =>
    have e1 : tmErr (vals ss) n = 1 := by unfold tmErr; rw [q2]; rfl
    have e2 : tmVal (vals ss) n = [] := by unfold tmVal; rw [q2]; rfl
    rw [e1, e2]
    rw [q2] at h2
    have H2 := Lib.hid h2
    clear h2 q2 hZ e1 e2
    go_enter Try.func27, Try.ntmps27
    go_wp2_with fail
    refine H2.out.mono ?_
    rintro e w1 ⟨rfl, hb1⟩
    go_wp2_with fail
    go_ret2
    exact bagPost_nil hb1
  | true =>
    rw [q2] at h2
    have H2 := Lib.hid h2
    have hw := fun W => refWithin_any n (-1000000) 1000000 W
    by_cases hs : small n
    · have e1 : tmErr (vals ss) n = toldErr (plus [] (vals ss) n) := by unfold tmErr; rw [if_pos q2, if_pos hs]
      have e2 : tmVal (vals ss) n = toldVal (plus [] (vals ss) n) := by unfold tmVal; rw [if_pos q2, if_pos hs]
      rw [e1, e2]
      rw [decide_eq_true (p := -1000000 ≤ n ∧ n ≤ 1000000) hs] at hw
      have HW := Lib.hid hw
      have hp := fun W (h : Below w.heap.size w W) => Plus_any none q [] ss 0 d n hs (by simp) (by omega) W (fun h => absurd h (by simp)) (fun _ => rfl) (hZ.belowV h) nil_asc (fun x hx => by cases hx) q2
      have HP := Lib.hid hp
      clear h2 hw hp q2 hZ e1 e2 hs
      rw [show vals ([] : List ItR) = [] from rfl] at HP
      generalize plus [] (vals ss) n = pl at *
      go_enter Try.func27, Try.ntmps27
      go_wp2_with fail
      refine H2.out.mono ?_
      rintro e w2 ⟨rfl, hB2⟩
      go_wp2_with fail
      refine (HW.out _).mono ?_
      rintro e w2' ⟨rfl, rfl⟩
      go_wp2_with fail
      refine (HP.out _ hB2).mono ?_
      rintro e w3 ⟨p3, o3, c3, rfl, hv3, hc3, hl3, hi3, _, hb3⟩
      have ht := told_any p3 o3 c3 hc3 (by omega) w3 hi3
      rw [hv3] at ht
      have HT := Lib.hid ht
      have hB3 : Below w.heap.size w w3 := hB2.trans (hb3.mono hB2.size)
      clear ht hb3 hB2 hi3 hv3
      go_wp2_with fail
      refine HT.out.mono ?_
      rintro e w4 ⟨p4, o4, c4, rfl, hv4, hc4, hl4, hi4, hb4⟩
      have HV4 := Lib.hid hv4
      clear hv4
      go_wp2_with fail
      go_ret2
      exact ⟨p4, o4, c4, rfl, HV4.out, hc4, hl4, hi4, hB3.trans (hb4.mono hB3.size)⟩
    · have e1 : tmErr (vals ss) n = 7 := by unfold tmErr; rw [if_pos q2, if_neg hs]
      have e2 : tmVal (vals ss) n = [] := by unfold tmVal; rw [if_pos q2, if_neg hs]
      rw [e1, e2]
      rw [decide_eq_false (p := -1000000 ≤ n ∧ n ≤ 1000000) hs] at hw
      have HW := Lib.hid hw
      clear h2 hw q2 hZ e1 e2 hs
      go_enter Try.func27, Try.ntmps27
      go_wp2_with fail
      refine H2.out.mono ?_
      rintro e w2 ⟨rfl, hB2⟩
      go_wp2_with fail
      refine (HW.out _).mono ?_
      rintro e w2' ⟨rfl, rfl⟩
      go_wp2_with fail
      go_ret2
      exact bagPost_nil hB2

theorem becomes_times (w : World) (B : Nat) (n : Int) (hB : B < w.heap.size) (hc : w.cell? ⟨B, 0, none⟩ = some (.int .i64 n)) : Becomes w 62 #[.pointer (some ⟨B, 0, none⟩)] (fun x _ => wrap64 (x * n)) :=
  ⟨enters_of Try.func62 (by kernel_rfl) rfl, fun x y W hb => by
    show Calls _ _ #[.int .i64 x, .int .i64 y, .pointer (some ⟨B, 0, none⟩)] _ _
    have c0 := (hb.cell (p := ⟨B, 0, none⟩) hB).trans hc
    go_enter Try.func62, Try.ntmps62
    go_wp2
    go_ret
    exact ⟨rfl, rfl⟩⟩

set_option maxRecDepth 100000 in
theorem Times_any (q : Option Addr) (ss : List ItR) (d : Nat) (n : Int) (hm2 : ss.length ≤ 60) (hd : ss.length ≤ d) (w : World) (hZ : ItemsIn w q ss) :
    Calls Try.prog 26 #[.slice q ss.length d, .int .i64 n] w (BagPost w.heap.size w (tmVal (vals ss) n) (tmErr (vals ss) n)) := by
  have hbA : Below w.heap.size w (w.alloc (.cells #[.int .i64 n] 3)) := (Below.refl _ _).alloc (Nat.le_refl _) _
  have h2 := bagValid_any q ss d (by omega) hd (w.alloc (.cells #[.int .i64 n] 3)) (hZ.belowV hbA)
  have KN := Lib.hid (Blk.new w 3 #[.int .i64 n])
  have KS : w.heap.size < (w.alloc (.cells #[.int .i64 n] 3)).heap.size := by simp
  cases q2 : validBag (vals ss) with
  | false =>
    have e1 : tmErr (vals ss) n = 1 := by unfold tmErr; rw [q2]; rfl
    have e2 : tmVal (vals ss) n = [] := by unfold tmVal; rw [q2]; rfl
    rw [e1, e2]
    rw [q2] at h2
    have H2 := Lib.hid h2
    clear h2 q2 hZ e1 e2
    go_enter Try.func26, Try.ntmps26
    go_wp2_with fail
    refine H2.out.mono ?_
    rintro e w1 ⟨rfl, hb1⟩
    go_wp2_with fail
    go_ret2
    exact bagPost_nil (hbA.trans (hb1.mono hbA.size))
  | true =>
    rw [q2] at h2
    have H2 := Lib.hid h2
    by_cases hs : small n
    · have hw : ∀ x y : Int, small x → small y → wrap64 (x * n) = x * n := fun x y hx hy => by
        have := mul_bound hx hs
        exact IntWalk.wrap64_in _ (by omega)
      have e0 : ∀ f : Int → Int → Int, combVal f (vals ss) (vals ([] : List ItR)) = toldVal (comb f (vals ss) []) := fun f => by unfold combVal; rw [if_pos ⟨q2, by decide⟩]; rfl
      have e0' : ∀ f : Int → Int → Int, combErr f (vals ss) (vals ([] : List ItR)) = toldErr (comb f (vals ss) []) := fun f => by unfold combErr; rw [if_pos ⟨q2, by decide⟩]; rfl
      have e1 : tmErr (vals ss) n = combErr (fun x _ => wrap64 (x * n)) (vals ss) (vals ([] : List ItR)) := by rw [combErr_small hw, e0']; unfold tmErr; rw [if_pos q2, if_pos hs, tm_comb n (asc_of_valid q2)]
      have e2 : tmVal (vals ss) n = combVal (fun x _ => wrap64 (x * n)) (vals ss) (vals ([] : List ItR)) := by rw [combVal_small hw, e0]; unfold tmVal; rw [if_pos q2, if_pos hs, tm_comb n (asc_of_valid q2)]
      rw [e1, e2]
      obtain ⟨hs1, hs2⟩ := hs
      have HC := Lib.hid fun W (h : Below w.heap.size w W) (hl : w.heap.size < W.heap.size) (hk : W.cell? ⟨w.heap.size, 0, none⟩ = some (.int .i64 n)) => combined_any q none ss [] d 0 (by omega) (by simp) hd (Nat.le_refl _) 62 _ _ W (hZ.belowV h) (fun h => absurd h (by simp)) (becomes_times W w.heap.size n hl hk)
      clear h2 q2 hZ e1 e2 hw e0 e0'
      go_enter Try.func26, Try.ntmps26
      go_wp2_with fail
      refine H2.out.mono ?_
      rintro e w1 ⟨rfl, hb1⟩
      have hB1 : Below w.heap.size w w1 := hbA.trans (hb1.mono hbA.size)
      have K1 := KN.out.belowV hb1 KS
      have k1 : w1.cell? ⟨w.heap.size, 0, none⟩ = some (.int .i64 n) := K1.cell 0
      have HCC := Lib.hid (HC.out w1 hB1 (by have := hb1.size; omega) k1)
      clear hb1 K1
      go_wp2_with fail
      refine HCC.out.mono ?_
      rintro e w2 ⟨p2, o2, c2, rfl, hv2, hc2, hl2, hi2, hb2⟩
      have HV2 := Lib.hid hv2
      clear hv2
      go_wp2_with fail
      go_ret2
      exact ⟨p2, o2, c2, rfl, HV2.out, hc2, hl2, hi2, hB1.trans (hb2.mono hB1.size)⟩
    · have e1 : tmErr (vals ss) n = 7 := by unfold tmErr; rw [if_pos q2, if_neg hs]
      have e2 : tmVal (vals ss) n = [] := by unfold tmVal; rw [if_pos q2, if_neg hs]
      rw [e1, e2]
      clear h2 q2 hZ e1 e2
      have hss : n < -1000000 ∨ 1000000 < n := by unfold small at hs; omega
      clear hs
      rcases hss with hs | hs
      · go_enter Try.func26, Try.ntmps26
        go_wp2_with fail
        refine H2.out.mono ?_
        rintro e w1 ⟨rfl, hb1⟩
        have k1 : w1.cell? ⟨w.heap.size, 0, none⟩ = some (.int .i64 n) := (KN.out.belowV hb1 KS).cell 0
        go_wp2_with fail
        go_ret2
        exact bagPost_nil (hbA.trans (hb1.mono hbA.size))
      · have hs' : decide (n < -1000000) = false := by simp; omega
        go_enter Try.func26, Try.ntmps26
        go_wp2_with fail
        refine H2.out.mono ?_
        rintro e w1 ⟨rfl, hb1⟩
        have k1 : w1.cell? ⟨w.heap.size, 0, none⟩ = some (.int .i64 n) := (KN.out.belowV hb1 KS).cell 0
        go_wp2_with fail
        go_ret2
        exact bagPost_nil (hbA.trans (hb1.mono hbA.size))
#print axioms Times_any
end Go.Proofs.Ytcpbdbhpflgkcaa
