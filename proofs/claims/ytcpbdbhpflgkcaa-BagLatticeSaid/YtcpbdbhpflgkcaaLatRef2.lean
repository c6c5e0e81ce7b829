/-
  Meet, Join, Within and Distinct of the document, whatever the bags, as contracts.
-/
import Derived.Test.YtcpbdbhpflgkcaaLatRef
import Derived.Test.YtcpbdbhpflgkcaaMeetR
import Derived.Test.YtcpbdbhpflgkcaaJoinR
namespace Go.Proofs.Ytcpbdbhpflgkcaa
open Go.RowKit

set_option maxRecDepth 100000 in
theorem eitherMeet_any (p q : Option Addr) (rs ss : List ItR) (c d : Nat) (hm1 : rs.length ≤ 60) (hm2 : ss.length ≤ 60) (w : World) (hX : ItemsIn w p rs) (hZ : ItemsIn w q ss) :
    Calls Try.prog 68 #[.slice p rs.length c, .slice q ss.length d, .bool false] w (BagPost w.heap.size w (combVal loF (vals rs) (vals ss)) (combErr loF (vals rs) (vals ss))) := by
  have h1 := refBagValid_any p rs c (by omega) w hX
  have h2 := fun W (h : Below w.heap.size w W) => refBagValid_any q ss d (by omega) W (hZ.belowV h)
  cases q1 : validBag (vals rs) with
  | false =>
    have e1 : combErr loF (vals rs) (vals ss) = 1 := by unfold combErr; rw [q1]; rfl
    have e2 : combVal loF (vals rs) (vals ss) = [] := by unfold combVal; rw [q1]; rfl
    rw [e1, e2]
    clear e1 e2
    rw [q1] at h1
    have H1 := Lib.hid h1
    clear h1 h2 q1 hX hZ
    go_enter Try.func68, Try.ntmps68
    go_wp2_with fail
    refine H1.out.mono ?_
    rintro e w1 ⟨rfl, hb1⟩
    go_wp2_with fail
    go_ret2
    exact bagPost_nil hb1
  | true =>
    cases q2 : validBag (vals ss) with
    | false =>
      have e1 : combErr loF (vals rs) (vals ss) = 1 := by unfold combErr; rw [q1, q2]; rfl
      have e2 : combVal loF (vals rs) (vals ss) = [] := by unfold combVal; rw [q1, q2]; rfl
      rw [e1, e2]
      clear e1 e2
      rw [q1] at h1
      rw [q2] at h2
      have H1 := Lib.hid h1
      have H2 := Lib.hid h2
      clear h1 h2 q1 q2 hX hZ
      go_enter Try.func68, Try.ntmps68
      go_wp2_with fail
      refine H1.out.mono ?_
      rintro e w1 ⟨rfl, hb1⟩
      go_wp2_with fail
      refine (H2.out _ hb1).mono ?_
      rintro e w2 ⟨rfl, hb2⟩
      go_wp2_with fail
      go_ret2
      exact bagPost_nil (hb1.trans (hb2.mono hb1.size))
    | true =>
      have e1 : combErr loF (vals rs) (vals ss) = toldErr (comb loF (vals rs) (vals ss)) := by unfold combErr; rw [if_pos ⟨q1, q2⟩]
      have e2 : combVal loF (vals rs) (vals ss) = toldVal (comb loF (vals rs) (vals ss)) := by unfold combVal; rw [if_pos ⟨q1, q2⟩]
      rw [e1, e2]
      exact eitherMeet_yes p q rs ss c d hm1 hm2 w hX hZ q1 q2

set_option maxRecDepth 100000 in
theorem refMeet_any (p q : Option Addr) (rs ss : List ItR) (c d : Nat) (hm1 : rs.length ≤ 60) (hm2 : ss.length ≤ 60) (w : World) (hX : ItemsIn w p rs) (hZ : ItemsIn w q ss) :
    Calls Try.prog 33 #[.slice p rs.length c, .slice q ss.length d] w (BagPost w.heap.size w (combVal loF (vals rs) (vals ss)) (combErr loF (vals rs) (vals ss))) := by
  have H := Lib.hid (eitherMeet_any p q rs ss c d hm1 hm2 w hX hZ)
  clear hX hZ
  go_enter Try.func33, Try.ntmps33
  go_wp2_with fail
  refine H.out.mono ?_
  rintro e w1 ⟨p1, s1, c1, rfl, hv, hh⟩
  have HV := Lib.hid hv
  clear hv
  go_wp2_with fail
  go_ret2
  exact ⟨p1, s1, c1, rfl, HV.out, hh⟩

set_option maxRecDepth 100000 in
theorem eitherJoin_any (p q : Option Addr) (rs ss : List ItR) (c d : Nat) (hm1 : rs.length ≤ 60) (hm2 : ss.length ≤ 60) (w : World) (hX : ItemsIn w p rs) (hZ : ItemsIn w q ss) :
    Calls Try.prog 68 #[.slice p rs.length c, .slice q ss.length d, .bool true] w (BagPost w.heap.size w (combVal hiF (vals rs) (vals ss)) (combErr hiF (vals rs) (vals ss))) := by
  have h1 := refBagValid_any p rs c (by omega) w hX
  have h2 := fun W (h : Below w.heap.size w W) => refBagValid_any q ss d (by omega) W (hZ.belowV h)
  cases q1 : validBag (vals rs) with
  | false =>
    have e1 : combErr hiF (vals rs) (vals ss) = 1 := by unfold combErr; rw [q1]; rfl
    have e2 : combVal hiF (vals rs) (vals ss) = [] := by unfold combVal; rw [q1]; rfl
    rw [e1, e2]
    clear e1 e2
    rw [q1] at h1
    have H1 := Lib.hid h1
    clear h1 h2 q1 hX hZ
    go_enter Try.func68, Try.ntmps68
    go_wp2_with fail
    refine H1.out.mono ?_
    rintro e w1 ⟨rfl, hb1⟩
    go_wp2_with fail
    go_ret2
    exact bagPost_nil hb1
  | true =>
    cases q2 : validBag (vals ss) with
    | false =>
      have e1 : combErr hiF (vals rs) (vals ss) = 1 := by unfold combErr; rw [q1, q2]; rfl
      have e2 : combVal hiF (vals rs) (vals ss) = [] := by unfold combVal; rw [q1, q2]; rfl
      rw [e1, e2]
      clear e1 e2
      rw [q1] at h1
      rw [q2] at h2
      have H1 := Lib.hid h1
      have H2 := Lib.hid h2
      clear h1 h2 q1 q2 hX hZ
      go_enter Try.func68, Try.ntmps68
      go_wp2_with fail
      refine H1.out.mono ?_
      rintro e w1 ⟨rfl, hb1⟩
      go_wp2_with fail
      refine (H2.out _ hb1).mono ?_
      rintro e w2 ⟨rfl, hb2⟩
      go_wp2_with fail
      go_ret2
      exact bagPost_nil (hb1.trans (hb2.mono hb1.size))
    | true =>
      have e1 : combErr hiF (vals rs) (vals ss) = toldErr (comb hiF (vals rs) (vals ss)) := by unfold combErr; rw [if_pos ⟨q1, q2⟩]
      have e2 : combVal hiF (vals rs) (vals ss) = toldVal (comb hiF (vals rs) (vals ss)) := by unfold combVal; rw [if_pos ⟨q1, q2⟩]
      rw [e1, e2]
      exact eitherJoin_yes p q rs ss c d hm1 hm2 w hX hZ q1 q2

set_option maxRecDepth 100000 in
theorem refJoin_any (p q : Option Addr) (rs ss : List ItR) (c d : Nat) (hm1 : rs.length ≤ 60) (hm2 : ss.length ≤ 60) (w : World) (hX : ItemsIn w p rs) (hZ : ItemsIn w q ss) :
    Calls Try.prog 35 #[.slice p rs.length c, .slice q ss.length d] w (BagPost w.heap.size w (combVal hiF (vals rs) (vals ss)) (combErr hiF (vals rs) (vals ss))) := by
  have H := Lib.hid (eitherJoin_any p q rs ss c d hm1 hm2 w hX hZ)
  clear hX hZ
  go_enter Try.func35, Try.ntmps35
  go_wp2_with fail
  refine H.out.mono ?_
  rintro e w1 ⟨p1, s1, c1, rfl, hv, hh⟩
  have HV := Lib.hid hv
  clear hv
  go_wp2_with fail
  go_ret2
  exact ⟨p1, s1, c1, rfl, HV.out, hh⟩

def withinR (a b : List It) : Bool := validBag a && (validBag b && wR a b)
theorem within_same (a b : List It) : withinOf a b = withinR a b := by
  unfold withinOf withinR
  cases q1 : validBag a with
  | false => rfl
  | true =>
    cases q2 : validBag b with
    | false => rfl
    | true => rw [w_same (asc_of_valid q1).2 (asc_of_valid q2).2]
set_option maxRecDepth 100000 in
theorem refWithinB_any (p q : Option Addr) (rs ss : List ItR) (c d : Nat) (hm1 : rs.length ≤ 400) (hm2 : ss.length ≤ 400) (w : World) (hX : ItemsIn w p rs) (hZ : ItemsIn w q ss) :
    Calls Try.prog 31 #[.slice p rs.length c, .slice q ss.length d] w (BelowB w (withinR (vals rs) (vals ss))) := by
  have h1 := refBagValid_any p rs c (by omega) w hX
  have h2 := fun W (h : Below w.heap.size w W) => refBagValid_any q ss d (by omega) W (hZ.belowV h)
  cases q1 : validBag (vals rs) with
  | false =>
    have e1 : withinR (vals rs) (vals ss) = false := by unfold withinR; rw [q1]; rfl
    rw [e1]
    clear e1
    rw [q1] at h1
    have H1 := Lib.hid h1
    clear h1 h2 q1 hX hZ
    go_enter Try.func31, Try.ntmps31
    go_wp2_with fail
    refine H1.out.mono ?_
    rintro e w1 ⟨rfl, hb1⟩
    go_wp2_with fail
    go_ret
    exact ⟨rfl, hb1⟩
  | true =>
    cases q2 : validBag (vals ss) with
    | false =>
      have e1 : withinR (vals rs) (vals ss) = false := by unfold withinR; rw [q1, q2]; rfl
      rw [e1]
      clear e1
      rw [q1] at h1
      rw [q2] at h2
      have H1 := Lib.hid h1
      have H2 := Lib.hid h2
      clear h1 h2 q1 q2 hX hZ
      go_enter Try.func31, Try.ntmps31
      go_wp2_with fail
      refine H1.out.mono ?_
      rintro e w1 ⟨rfl, hb1⟩
      go_wp2_with fail
      refine (H2.out _ hb1).mono ?_
      rintro e w2 ⟨rfl, hb2⟩
      go_wp2_with fail
      go_ret
      exact ⟨rfl, (hb1.trans (hb2.mono hb1.size))⟩
    | true =>
      have e1 : withinR (vals rs) (vals ss) = wR (vals rs) (vals ss) := by unfold withinR; rw [q1, q2]; rfl
      rw [e1]
      exact refWithinB_yes p q rs ss c d hm1 hm2 w hX hZ q1 q2

def distErr (a : List It) : Int := if validBag a = true then 0 else 1
def distVal (a : List It) : List It := if validBag a = true then dist a else []
theorem dist_comb {a : List It} : combErr oneF a [] = distErr a ∧ combVal oneF a [] = distVal a := by
  unfold combErr combVal distErr distVal
  by_cases h : validBag a = true
  · have ha := asc_of_valid h
    have hd := dist_valid h
    have e : comb oneF a [] = dist a := bag_ext (comb_asc _ ha nil_asc) (asc_of_valid hd) fun r => by
      rw [comb_cnt (by decide) ha nil_asc, dist_cnt ha.2]
      unfold oneF
      by_cases hp : 0 < cnt a r
      · rw [if_pos hp]; split <;> (try split) <;> omega
      · rw [if_neg hp]; split <;> (try split) <;> omega
    rw [if_pos (show validBag a = true ∧ validBag [] = true from ⟨h, by decide⟩), if_pos h, if_pos (show validBag a = true ∧ validBag [] = true from ⟨h, by decide⟩), if_pos h, e]
    unfold toldErr toldVal
    rw [if_pos hd, if_pos hd]
    exact ⟨rfl, rfl⟩
  · rw [if_neg (fun hh : validBag a = true ∧ validBag [] = true => h hh.1), if_neg h, if_neg (fun hh : validBag a = true ∧ validBag [] = true => h hh.1), if_neg h]
    exact ⟨rfl, rfl⟩
theorem dist_len (l : List It) : (dist l).length ≤ l.length := by unfold dist; rw [List.length_map]; exact List.length_filter_le _ _

set_option maxRecDepth 100000 in
set_option maxHeartbeats 2000000 in
theorem refDistinct_any (p : Option Addr) (rs : List ItR) (c : Nat) (hm1 : rs.length ≤ 400) (w : World) (hX : ItemsIn w p rs) :
    Calls Try.prog 29 #[.slice p rs.length c] w (BagPost w.heap.size w (distVal (vals rs)) (distErr (vals rs))) := by
  have h1 := refBagValid_any p rs c (by omega) w hX
  obtain ⟨i0, hii, hz0, hz1, hz2⟩ := info_parts infoI
  cases q1 : validBag (vals rs) with
  | false =>
    have e1 : distErr (vals rs) = 1 := by unfold distErr; rw [q1]; rfl
    have e2 : distVal (vals rs) = [] := by unfold distVal; rw [q1]; rfl
    rw [e1, e2]
    rw [q1] at h1
    have H1 := Lib.hid h1
    clear h1 q1 hX e1 e2
    go_enter Try.func29, Try.ntmps29
    go_wp2_with fail
    refine H1.out.mono ?_
    rintro e w1 ⟨rfl, hb1⟩
    go_wp2_with fail
    go_ret2
    exact bagPost_nil hb1
  | true =>
    have e1 : distErr (vals rs) = 0 := by unfold distErr; rw [q1]; rfl
    have e2 : distVal (vals rs) = dist (vals rs) := by unfold distVal; rw [q1]; rfl
    rw [e1, e2]
    rw [q1] at h1
    have H1 := Lib.hid h1
    have HX := Lib.hid hX
    have HQ := Lib.hid q1
    clear h1 q1 hX e1 e2
    go_enter Try.func29, Try.ntmps29
    go_wp2_with fail
    refine H1.out.mono ?_
    rintro e w1 ⟨rfl, hb1⟩
    go_wp2_with fail
    go_loopw [4, 5] (fun o s wr => ∃ (i : Nat) (os : List ItR), s = .int .i64 i ∧ i ≤ rs.length ∧ OwnItems wr w.heap.size o os ∧ Hid (vals os = dist ((vals rs).take i)) ∧ os.length ≤ i ∧ Hid (∀ r ∈ os, r.1.2.1.length ≤ 100000) ∧ Below w.heap.size w wr) (fun _ s _ => rs.length - (intOf s).toNat)
    case atStart => exact ⟨0, [], rfl, Nat.zero_le _, OwnItems.nil _ _, rfl, Nat.le_refl _, (by simp [Hid]), hb1⟩
    case round =>
      clear hb1 H1
      obtain ⟨i, os, rfl, hi, hos, hvo, hol, hlen, hB⟩ := hrel
      have HOW := Lib.hid hos
      have hBs := hB.size
      clear hos
      by_cases hlt : i < rs.length
      · obtain ⟨b, off, rfl, hbl, hra⟩ := HX.out (by omega)
        obtain ⟨c0, c1, c2, c3⟩ := (hra.belowV hB hbl) i hlt
        have hi0 : (0 : Int) ≤ (i : Int) := by omega
        have hi1 : (i : Int) < (rs.length : Int) := by omega
        have hmem : itv (rs[i]?.getD ir0) ∈ vals rs := mem_vals (by rw [List.getElem?_eq_getElem hlt]; exact List.getElem_mem hlt)
        have hok := itOK_iff.1 ((validBag_iff.1 HQ.out).2.1 _ hmem)
        have hnx := dist_next (show i < (vals rs).length by rw [vals_len]; exact hlt)
        rw [vals_get, ← hvo.out] at hnx
        have hnxY := fun h : 0 < (itv (rs[i]?.getD ir0)).2 => hnx.trans (congrArg (vals os ++ ·) (if_pos h))
        have hnxN := fun h : ¬ 0 < (itv (rs[i]?.getD ir0)).2 => hnx.trans (congrArg (vals os ++ ·) (if_neg h))
        clear hra hmem hnx
        generalize (rs[i]?.getD ir0) = x at *
        obtain ⟨⟨xq, xs, xc⟩, xn⟩ := x
        dsimp only [rowv, itv] at c0 c1 c2 c3 hok hnxY hnxN
        have hxl := row_len hok.1
        have HO := Lib.hid (Own_any xq xs xc (by omega) wr c2.2 c3)
        clear c2 c3 hok
        by_cases hp : 0 < xn
        · have hnx := hnxY hp
          clear hnxY hnxN
          have HNX := Lib.hid hnx
          clear hnx
          go_wp2_with fail
          refine HO.out.mono ?_
          rintro e u2 ⟨⟨sq, sx, sc⟩, rfl, hsx, hownS, kb2⟩
          dsimp only [rowv] at hsx hownS ⊢
          have hsx := hsx.symm
          subst hsx
          have hU2 : Below w.heap.size w u2 := hB.trans (kb2.mono hBs)
          have hO2 := HOW.out.below kb2
          have hS2 := ownsRow_base hownS hBs
          clear kb2 hownS
          go_wp2_with (at_builtin; refine wpList_append_own _ rfl _ _ 23 rfl w.heap.size 48 i0 (.agg #[.slice none 0 0, .int .i64 0]) 2 32 Try.underlying23 hii hz0 hz1 hz2 rfl (by decide) _ _ _ rfl (hO2.1.alloc _) ⟨u2.heap.size, 0, none⟩ 1 1 (cellsI ((sq, xs, sc), 1)) rfl rfl (cells_new _ _ _) (by simp [cellsI, rowv, Value.oneCell']) (by unfold maxLen; omega) (by omega) (by have := hU2.size; simp; omega) ?_; intro v3 w3 hown3 hgrow3 _; have hO3 := hO2.appended (x := ((sq, xs, sc), 1)) hS2 hown3 hgrow3; have hB3 : Below w.heap.size w w3 := (hU2.alloc hU2.size _).grown hgrow3 (by have := hU2.size; simp; omega) (fun k e => (hO2.1.lt k e).1))
          go_roundw
          case rel => exact ⟨i + 1, os ++ [((sq, xs, sc), 1)], by go_num, by omega, hO3, (by show _ = _; rw [vals_app, HNX.out]; rfl), by simp; omega, (by intro r hr; rcases List.mem_append.1 hr with hr | hr; exact hlen.out r hr; rw [List.mem_singleton] at hr; subst hr; show xs.length ≤ _; omega), hB3⟩
          case measure => simp [intOf]; omega
        · have hnx := hnxN hp
          rw [List.append_nil] at hnx
          clear hnxY hnxN
          have HNX := Lib.hid hnx
          have hp2 : decide (0 < xn) = false := decide_eq_false hp
          clear hnx hp c0
          go_wp2_with fail
          go_roundw
          case rel => exact ⟨i + 1, os, by go_num, by omega, HOW.out, (by show _ = _; rw [HNX.out]), by omega, hlen, hB⟩
          case measure => simp [intOf]; omega
      · have hge : (rs.length : Int) ≤ (i : Int) := by omega
        have hie : i = rs.length := by omega
        have HV := Lib.hid (show vals os = dist (vals rs) by have := hvo.out; rwa [hie, ← vals_len rs, List.take_length] at this)
        obtain ⟨po, co, rfl, hco⟩ := slice_of_own HOW.out.1
        have HI := Lib.hid (HOW.out.items rfl fun r hr => Nat.le_trans (hlen.out r hr) (by decide))
        clear hie
        go_wp2_with fail
        go_ret2
        exact ⟨po, os, co, rfl, HV.out, hco, by omega, HI.out, hB⟩
end Go.Proofs.Ytcpbdbhpflgkcaa
