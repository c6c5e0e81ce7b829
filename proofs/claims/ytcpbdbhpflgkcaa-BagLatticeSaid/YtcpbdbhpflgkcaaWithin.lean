/-
  Within of package bag, as a contract.
-/
import Derived.Test.YtcpbdbhpflgkcaaComb
import Derived.Test.YtcpbdbhpflgkcaaLatMath
namespace Go.Proofs.Ytcpbdbhpflgkcaa
open Go.RowKit Go.Shelf
attribute [local go_sem] Oper.semAt_some

theorem wB_pairs (rs ss : List ItR) : wB (vals rs) (vals ss) = (pairsR rs ss).all fun p => decide (p.2.1 ≤ p.2.2) := by
  unfold wB
  rw [← pairsR_vals, List.all_map]
  rfl

set_option maxRecDepth 100000 in
set_option maxHeartbeats 1000000 in
theorem within_no (p q : Option Addr) (rs ss : List ItR) (c d : Nat) (hm1 : rs.length ≤ 1000000) (hm2 : ss.length ≤ 1000000) (hc : rs.length ≤ c) (hd : ss.length ≤ d) (w : World) (hX : ItemsIn w p rs) (hZ : ItemsIn w q ss)
    (h : validBag (vals rs) = false ∨ validBag (vals ss) = false) :
    Calls Try.prog 30 #[.slice p rs.length c, .slice q ss.length d] w (BelowB w false) := by
  have hbA : Below w.heap.size w (w.alloc (.cells #[.bool false] 4)) := (Below.refl _ _).alloc (Nat.le_refl _) _
  have KF := Lib.hid (Blk.new w 4 #[.bool false])
  have KS : w.heap.size < (w.alloc (.cells #[.bool false] 4)).heap.size := by simp
  have h1 := fun W (h : Below w.heap.size w W) => bagValid_any p rs c (by omega) hc W (hX.belowV h)
  have h2 := fun W (h : Below w.heap.size w W) => bagValid_any q ss d (by omega) hd W (hZ.belowV h)
  cases q1 : validBag (vals rs) with
  | false =>
    rw [q1] at h1
    have H1 := Lib.hid h1
    clear h1 h2 h q1 hX hZ
    go_enter Try.func30, Try.ntmps30
    go_wp2_with fail
    refine (H1.out _ hbA).mono ?_
    rintro e w1 ⟨rfl, hb1⟩
    have K1 := KF.out.belowV hb1 KS
    have k0 : w1.cell? ⟨w.heap.size, 0, none⟩ = some (.bool false) := K1.cell 0
    have f0 : w1.frozen? ⟨w.heap.size, 0, none⟩ = false := frozen_of_row w1 _ 0 _ _ K1
    have hB1 : Below w.heap.size w w1 := hbA.trans (hb1.mono hbA.size)
    clear hb1 K1
    go_wp2_with fail
    exact bodyPost_ret (v := .bool false) (by simp [results, Try.f30, go_sem, k0]) rfl ⟨rfl, hB1.setCell (Nat.le_refl _) _⟩
  | true =>
    rw [q1] at h1
    have q2 : validBag (vals ss) = false := by rcases h with h | h; rw [q1] at h; cases h; exact h
    rw [q2] at h2
    have H1 := Lib.hid h1
    have H2 := Lib.hid h2
    clear h1 h2 h q1 q2 hX hZ
    go_enter Try.func30, Try.ntmps30
    go_wp2_with fail
    refine (H1.out _ hbA).mono ?_
    rintro e w1 ⟨rfl, hb1⟩
    have hB1 : Below w.heap.size w w1 := hbA.trans (hb1.mono hbA.size)
    have HK1 := Lib.hid (KF.out.belowV hb1 KS)
    have hs1 : w.heap.size < w1.heap.size := by have := hb1.size; omega
    clear hb1
    go_wp2_with fail
    refine (H2.out _ hB1).mono ?_
    rintro e w2 ⟨rfl, hb2⟩
    have K2 := HK1.out.belowV hb2 hs1
    have k0 : w2.cell? ⟨w.heap.size, 0, none⟩ = some (.bool false) := K2.cell 0
    have f0 : w2.frozen? ⟨w.heap.size, 0, none⟩ = false := frozen_of_row w2 _ 0 _ _ K2
    have hB2 : Below w.heap.size w w2 := hB1.trans (hb2.mono hB1.size)
    clear hb2 K2
    go_wp2_with fail
    exact bodyPost_ret (v := .bool false) (by simp [results, Try.f30, go_sem, k0]) rfl ⟨rfl, hB2.setCell (Nat.le_refl _) _⟩

set_option maxRecDepth 100000 in
set_option maxHeartbeats 4000000 in
theorem within_yes (n : Nat) (hn : 4 ≤ n) (p q : Option Addr) (rs ss : List ItR) (c d : Nat) (hm1 : rs.length ≤ 100000) (hm2 : ss.length ≤ 100000) (hc : rs.length ≤ c) (hd : ss.length ≤ d) (w : World) (hX : ItemsIn w p rs) (hZ : ItemsIn w q ss)
    (q1 : validBag (vals rs) = true) (q2 : validBag (vals ss) = true) :
    CallsIn Fence.wide n Try.prog 30 #[.slice p rs.length c, .slice q ss.length d] w (BelowB w (wB (vals rs) (vals ss))) := by
  have hbA : Below w.heap.size w (w.alloc (.cells #[.bool false] 4)) := (Below.refl _ _).alloc (Nat.le_refl _) _
  have h1 := fun W (h : Below w.heap.size w W) => bagValid_any p rs c (by omega) hc W (hX.belowV h)
  have h2 := fun W (h : Below w.heap.size w W) => bagValid_any q ss d (by omega) hd W (hZ.belowV h)
  rw [q1] at h1
  rw [q2] at h2
  have H1 := Lib.hid h1
  have H2 := Lib.hid h2
  have HP := Lib.hid fun W => pairs_any p q rs.length ss.length c d W
  have HXZ := Lib.hid (And.intro hX hZ)
  have KF := Lib.hid (Blk.new w 4 #[.bool false])
  clear h1 h2 hX hZ q1 q2
  refine callsIn_of_wp_marks Try.func30 rfl trivial ?_ rfl
  simp only [Try.ntmps30, List.size_toArray, List.length_cons, List.length_nil, Nat.reduceAdd, Nat.reduceSub, Array.replicate_succ, Array.replicate_zero, List.push_toArray, List.append_toArray, List.nil_append, List.cons_append]
  refine wpIn_wide.2 ?_
  go_wp2_with fail
  refine (H1.out _ hbA).mono ?_
  rintro e w1 ⟨rfl, hb1⟩
  have hB1 : Below w.heap.size w w1 := hbA.trans (hb1.mono hbA.size)
  have K1 := KF.out.belowV hb1 (by simp)
  have hs1 : w.heap.size + 1 ≤ w1.heap.size := by have := hb1.size; simpa using this
  have HK1 := Lib.hid K1
  clear hb1 K1
  go_wp2_with fail
  refine (H2.out _ hB1).mono ?_
  rintro e w2 ⟨rfl, hb2⟩
  have hB2 : Below w.heap.size w w2 := hB1.trans (hb2.mono hB1.size)
  have K2 := HK1.out.belowV hb2 (by omega)
  have hs2 : w.heap.size + 1 ≤ w2.heap.size := by have := hb2.size; omega
  have HK2 := Lib.hid K2
  clear hb2 K2 hB1 hs1 HK1 hbA KF
  go_wp2_with fail
  refine (HP.out _).mono ?_
  rintro e w3 ⟨rfl, rfl⟩
  go_wp2_with fail
  have hfn : Boxed ((w2.alloc (.cells #[.slice p rs.length c] 23)).alloc (.cells #[.slice q ss.length d] 23)) w.heap.size 4 (.bool false) := ((show Boxed w2 w.heap.size 4 (.bool false) from HK2.out).alloc _ |>.alloc _)
  have hS1 : ((w2.alloc (.cells #[.slice p rs.length c] 23)).alloc (.cells #[.slice q ss.length d] 23)).cell? ⟨w2.heap.size, 0, none⟩ = some (.slice p rs.length c) := ((Blk.new w2 23 #[.slice p rs.length c]).belowV ((Below.refl _ _).alloc (Nat.le_refl _) _) (by simp)).cell 0
  have hS2 : ((w2.alloc (.cells #[.slice p rs.length c] 23)).alloc (.cells #[.slice q ss.length d] 23)).cell? ⟨w2.heap.size + 1, 0, none⟩ = some (.slice q ss.length d) := by
    have := Blk.new (w2.alloc (.cells #[.slice p rs.length c] 23)) 23 #[.slice q ss.length d]
    rw [show (w2.alloc (.cells #[.slice p rs.length c] 23)).heap.size = w2.heap.size + 1 by simp] at this
    exact this.cell 0
  have bT := two_below w2 #[.slice p rs.length c] #[.slice q ss.length d] 23 23
  have hsz0 : ((w2.alloc (.cells #[.slice p rs.length c] 23)).alloc (.cells #[.slice q ss.length d] 23)).heap.size = w2.heap.size + 1 + 1 := by simp
  obtain ⟨W0, hW0⟩ : ∃ W0, ((w2.alloc (.cells #[.slice p rs.length c] 23)).alloc (.cells #[.slice q ss.length d] 23)) = W0 := ⟨_, rfl⟩
  rw [hW0] at hfn bT hsz0 hS1 hS2 ⊢
  clear hW0
  have hB0 : Below w.heap.size w W0 := hB2.trans (bT.mono hB2.size)
  have h1 : 1 ≤ n := by omega
  refine (wpIn_wide (n := n)).1 ?_
  refine wpIn_rangeFunc_ownH (F := Fence.wide) rfl h1 (gf := 79) (lb := #[.pointer (some ⟨w2.heap.size, 0, none⟩), .pointer (some ⟨w2.heap.size + 1, 0, none⟩)]) rfl trivial (enters_of Try.func79 (by kernel_rfl) rfl)
    (pairs_stops (n - 1) (by omega) w2.heap.size (w2.heap.size + 1) w.heap.size p q rs ss c d (by omega) (by omega) hc hd W0 hB0.size (by omega) (by omega) hS1 hS2 (itemsLow_of HXZ.out.1 hB0) (itemsLow_of HXZ.out.2 hB0)) Keeps2.trans (keeps2_b hB0.size (by omega) (by omega)) (Below.refl _ _) (fun _ => rfl)
    (fun (pre : List PrR) W => (Boxed W w.heap.size 4 (.bool false) ∧ (∀ x ∈ pre, x.2.1 ≤ x.2.2)) ∧ (Below w.heap.size w W ∧ W0.heap.size ≤ W.heap.size))
    (fun c (pre : List PrR) W => ((c = .ret ∧ ∃ x ∈ pre, x.2.2 < x.2.1) ∧ Boxed W w.heap.size 4 (.bool false)) ∧ Below w.heap.size w W)
    (OwnFrom.and (OwnFrom.and (Own.from (boxed_own _ _ _) _) (ownFrom_pure _ _)) (OwnFrom.and (ownFrom_below (Nat.le_refl _) (by omega)) (fun _ _ _ _ hs hg _ => Nat.le_trans hs hg.size)))
    (fun _ => OwnFrom.and (OwnFrom.and (ownFrom_pure _ _) (Own.from (boxed_own _ _ _) _)) (ownFrom_below (Nat.le_refl _) (by omega)))
    ⟨⟨hfn, by simp⟩, hB0, Nat.le_refl _⟩
    (fun x a' W => ∃ Bx, W0.heap.size ≤ Bx ∧ Blk W Bx 75 #[rowv x.1, .int .i64 x.2.1, .int .i64 x.2.2] ∧ a' = { tmps := #[.slice p rs.length c, .slice q ss.length d, undef, undef, .pointer (some ⟨w.heap.size, 0, none⟩), .pointer (some ⟨Bx, 0, none⟩), .slice p rs.length c, .bool true, .bool false, .bool false, .slice q ss.length d, .bool true, .bool false, .bool false, .slice p rs.length c, .slice q ss.length d, .func (.func 79) #[] #[.pointer (some ⟨w2.heap.size, 0, none⟩), .pointer (some ⟨w2.heap.size + 1, 0, none⟩)], .agg #[rowv x.1, .int .i64 x.2.1, .int .i64 x.2.2], undef, undef, undef, undef, undef], defers := [] })
    (fun x a' _ X Y row hs hg hr => by obtain ⟨Bx, h1, h2, h3⟩ := hs; exact ⟨Bx, h1, blk_own Bx 75 (fun (_ : Unit) => #[rowv x.1, .int .i64 x.2.1, .int .i64 x.2.2]) () X Y row h2 hg (fun r e => (hr r e).2), h3⟩)
    ?assign ?body ?done ?stop
  case assign =>
    rintro l pre x W K ⟨⟨hFn, hall⟩, hB, hWs⟩ hK
    obtain ⟨⟨xq, xs, xc⟩, xa, xb⟩ := x
    simp only [encP, rowv] at hK ⊢
    have hk2 : Keeps2 w.heap.size w2.heap.size (w2.heap.size + 1) W (W.alloc (.cells #[.slice xq xs.length xc, .int .i64 xa, .int .i64 xb] 75)) := Keeps2.of_below ((Below.refl W.heap.size W).alloc (Nat.le_refl _) _) hB.size (by omega) (by omega)
    gi_wp2_with fail
    exact hK _ _ ((KeepsOthers.alloc _ _).from _) hk2 ⟨⟨hFn.alloc _, hall⟩, hB.alloc hB.size _, by simp; omega⟩ ⟨W.heap.size, hWs, Blk.new W _ _, rfl⟩
  case body =>
    rintro l pre x a' W hl ⟨r, hr⟩ ⟨⟨hFn, hall⟩, hB, hWs⟩ ⟨Bx, hBx, bX, rfl⟩ hlt
    obtain ⟨⟨xq, xs, xc⟩, xa, xb⟩ := x
    simp only [rowv] at bX ⊢
    have x1 : W.cell? ⟨Bx, 1, none⟩ = some (.int .i64 xa) := bX.cell 1
    have x2 : W.cell? ⟨Bx, 2, none⟩ = some (.int .i64 xb) := bX.cell 2
    have r0 := hFn.cell
    have r1 := hFn.frozen
    have HALL := Lib.hid hall
    clear hall
    by_cases hab : xb < xa
    · have HAB := Lib.hid hab
      gi_wp2_with fail
      refine ⟨(KeepsOthers.setCell _ _ _).from _, ⟨⟨rfl, ((xq, xs, xc), xa, xb), by simp, HAB.out⟩, hFn.set _⟩, hB.setCell (p := ⟨w.heap.size, 0, none⟩) (Nat.le_refl _) _⟩
    · have hab2 : decide (xb < xa) = false := decide_eq_false hab
      have HAB := Lib.hid (show xa ≤ xb by omega)
      clear hab
      gi_wp2_with fail
      refine ⟨KeepsFrom.refl _ _, Keeps2.refl _ _ _ _, ⟨hFn, ?_⟩, hB, hWs⟩
      intro y hy
      rcases List.mem_append.1 hy with hy | hy
      · exact HALL.out y hy
      · rw [List.mem_singleton] at hy
        subst hy
        exact HAB.out
  case done =>
    rintro D ys W hD rfl ⟨⟨hFn, hall⟩, hB, hWs⟩ hK
    have hv : wB (vals rs) (vals ss) = true := by
      rw [wB_pairs, List.all_eq_true]
      intro x hx
      rw [decide_eq_true_eq]
      exact hall x hx
    have HV := Lib.hid hv
    have r0 := hFn.cell
    have r1 := hFn.frozen
    clear hall hv
    go_wp2_with fail
    have hK2 := (KeepsOthers.setCell W ⟨w.heap.size, 0, none⟩ (.bool true)).same D _ hK rfl
    have hFn2 := hFn.set (.bool true)
    refine ⟨by simp, .inl ⟨_, _, rfl, run_takeDeferred hK2, ?_⟩⟩
    have hk5 := cell_kept hFn2.cell (grownBy_putObj' _ D (.deferred none)) (fun r e => by cases e; exact ⟨_, hK2, rfl⟩)
    refine ⟨.bool true, ?_, retB HV.out.symm, (hB.setCell (p := ⟨w.heap.size, 0, none⟩) (Nat.le_refl _) _).trans (belowK_b (w := w) (Nat.le_refl _) _ D _ _ (by have := hB0.size; omega) hK2 rfl rfl)⟩
    simp [results, Try.f30, go_sem, hk5]
  case stop =>
    rintro D c pre W hD hpre ⟨⟨⟨rfl, x, hx, hlt⟩, hFn⟩, hB⟩ hK
    have hv : wB (vals rs) (vals ss) = false := by
      rw [wB_pairs]
      cases e : (pairsR rs ss).all fun p => decide (p.2.1 ≤ p.2.2) with
      | false => rfl
      | true =>
        have := List.all_eq_true.1 e x (hpre.subset hx)
        rw [decide_eq_true_eq] at this
        omega
    have HV := Lib.hid hv
    clear hv
    gi_wp2_with fail
    refine ⟨by simp, .inl ⟨_, _, rfl, run_takeDeferred hK, ?_⟩⟩
    have hk5 := cell_kept hFn.cell (grownBy_putObj' _ D (.deferred none)) (fun r e => by cases e; exact ⟨_, hK, rfl⟩)
    refine ⟨.bool false, ?_, retB HV.out.symm, hB.trans (belowK_b (w := w) (Nat.le_refl _) W D _ _ (by have := hB0.size; omega) hK rfl rfl)⟩
    simp [results, Try.f30, go_sem, hk5]

theorem Within_any (p q : Option Addr) (rs ss : List ItR) (c d : Nat) (hm1 : rs.length ≤ 100000) (hm2 : ss.length ≤ 100000) (hc : rs.length ≤ c) (hd : ss.length ≤ d) (w : World) (hX : ItemsIn w p rs) (hZ : ItemsIn w q ss) :
    Calls Try.prog 30 #[.slice p rs.length c, .slice q ss.length d] w (BelowB w (withinOf (vals rs) (vals ss))) := by
  unfold withinOf
  cases q1 : validBag (vals rs) with
  | false => exact within_no p q rs ss c d (by omega) (by omega) hc hd w hX hZ (.inl q1)
  | true =>
    cases q2 : validBag (vals ss) with
    | false => exact within_no p q rs ss c d (by omega) (by omega) hc hd w hX hZ (.inr q2)
    | true =>
      rw [Bool.true_and, Bool.true_and]
      exact callsIn_wide.1 (within_yes 4 (Nat.le_refl _) p q rs ss c d hm1 hm2 hc hd w hX hZ q1 q2)
#print axioms Within_any
end Go.Proofs.Ytcpbdbhpflgkcaa
