/-
  Copy of an accumulator; package fold.
-/
import Derived.Test.YtfoknllnknjccaaGreatNew5
namespace Go.Proofs.YtfoknllnknjccaaGreat
open Go.RowKit
set_option linter.unusedSimpArgs false
set_option linter.unusedVariables false

def CopyPost (w : World) (gs : List Ag) (n : Int) (l : List It) (e : Ending) (w' : World) : Prop := ∃ B v cc, e = .returned (.pointer (some ⟨B, 0, none⟩)) ∧ AccO w' w.heap.size B v gs n cc ∧ vals cc = l ∧ Below w.heap.size w w'
set_option maxRecDepth 100000 in
set_option maxHeartbeats 2000000 in
theorem copyAcc_any (lo B : Nat) (v : Value) (gs : List Ag) (n : Int) (ss : List ItR) (hg : 0 < gs.length) (hg8 : gs.length ≤ 8) (hV : validBag (vals ss) = true) (w : World) (hA : AccO w lo B v gs n ss) :
    Calls Tryz.prog 14 #[.pointer (some ⟨B, 0, none⟩)] w (CopyPost w gs n (vals ss)) := by
  obtain ⟨p, c, k1, hG⟩ := hA.2.1
  have HI := Lib.hid (show ∀ W, Below w.heap.size w W → Below w.heap.size w W ∧ (W.cell? ⟨B, 0, none⟩ = some (.slice p gs.length c) ∧ W.cell? ⟨B, 1, none⟩ = some (.int .i64 n)) from fun W h => by
    have k2 := k1.belowV h k1.lt
    have x0 := k2.cell 0
    have x1 := k2.cell 1
    simp only [List.getElem?_toArray, List.getElem?_cons_zero, List.getElem?_cons_succ] at x0 x1
    exact ⟨h, x0, x1⟩)
  have HC := Lib.hid fun W (h : Below w.heap.size w W) => cloneGO_any p gs c (by omega) hg W (aggsIn_of_owns (owns_below hG h))
  have HBG := Lib.hid fun W (h : Below w.heap.size w W) => bagAcc_any lo B v gs n ss W (hA.belowV h)
  have HFIN := Lib.hid (show ∀ (w2 : World) (p1 : Option Addr) (c1 : Nat) (p2 : Option Addr) (c2 : Nat) (cc : List ItR) (w1 : World), Below w.heap.size w w1 → Below w.heap.size w w2 → w2.ownsRow w.heap.size 59 2 (.slice p1 gs.length c1) gs.length (flatG gs) → OwnItems w2 w1.heap.size (.slice p2 cc.length c2) cc → vals cc = vals ss →
      CopyPost w gs n (vals ss) (.returned (.pointer (some ⟨w2.heap.size, 0, none⟩))) (w2.alloc (.cells #[.slice p1 gs.length c1, .int .i64 n, .slice p2 cc.length c2] 66)) from fun w2 p1 c1 p2 c2 cc w1 hb1 hb2 h1 h2 h3 => by
    have h3l : cc.length ≤ 400 ∧ ∀ r ∈ cc, r.1.2.1.length ≤ 8 := by
      obtain ⟨hl, hok, _⟩ := validBag_iff.1 hV
      refine ⟨by rw [← vals_len, h3]; exact hl, fun r hr => ?_⟩
      have := (itOK_iff.1 (hok (itv r) (by rw [← h3]; exact List.mem_map_of_mem hr))).1
      unfold validRow at this
      rw [Bool.and_eq_true, decide_eq_true_eq] at this
      exact this.1
    have hb3 : Below w.heap.size w (w2.alloc (.cells #[.slice p1 gs.length c1, .int .i64 n, .slice p2 cc.length c2] 66)) := hb2.alloc hb2.size _
    have hn : Below w2.heap.size w2 (w2.alloc (.cells #[.slice p1 gs.length c1, .int .i64 n, .slice p2 cc.length c2] 66)) := below_new _ _
    refine ⟨_, _, cc, rfl, ⟨hb2.size, ⟨p1, c1, Blk.new w2 _ _, owns_below h1 hn⟩, ⟨ownsRow_base (owns_below h2.1 hn) hb1.size, fun r hr => ownsRow_base (owns_below (h2.2 r hr) hn) hb1.size⟩, h3l.2, h3l.1⟩, h3, hb3⟩)
  clear hA k1 hG
  go_enter Tryz.func14, Tryz.ntmps14
  go_wp2_with fail
  refine wp_region_held_drew (S := fun W' : World => Below w.heap.size w W' ∧ (W'.cell? ⟨B, 0, none⟩ = some (.slice p gs.length c) ∧ W'.cell? ⟨B, 1, none⟩ = some (.int .i64 n))) (by kernel_rfl) (HI.out _ (Below.refl _ _).drew) (fun hHeld => ?_)
  refine wpAnyH_take (i := 0) (oi := _) (v := ?_) rfl (by kernel_rfl) (by kernel_rfl) (by kernel_rfl) (fun _ _ _ h => h) (Or.inl ⟨by rfl, ?_⟩) (by assumption) ?_
  rotate_left
  · intro w hSw
    try dsimp only at hSw
    go_simp
    all_goals with_reducible rfl
  simp only [List.getElem_toArray, List.getElem_cons_succ, List.getElem_cons_zero, Act.put, List.setIfInBounds_toArray, List.set_cons_zero, List.set_cons_succ]
  refine wpAnyH_take (i := 1) (oi := _) (v := ?_) rfl (by kernel_rfl) (by kernel_rfl) (by kernel_rfl) (fun _ _ _ h => h) (Or.inl ⟨by rfl, ?_⟩) (by assumption) ?_
  rotate_left
  · intro w hSw
    try dsimp only at hSw
    go_simp
    all_goals with_reducible rfl
  simp only [List.getElem_toArray, List.getElem_cons_succ, List.getElem_cons_zero, Act.put, List.setIfInBounds_toArray, List.set_cons_zero, List.set_cons_succ]
  refine wpAnyH_take (i := 2) (oi := _) (v := ?_) rfl (by kernel_rfl) (by kernel_rfl) (by kernel_rfl) (fun _ _ _ h => h) (Or.inl ⟨by rfl, ?_⟩) (by assumption) ?_
  rotate_left
  · intro w hSw
    try dsimp only at hSw
    go_simp
    all_goals with_reducible rfl
  simp only [List.getElem_toArray, List.getElem_cons_succ, List.getElem_cons_zero, Act.put, List.setIfInBounds_toArray, List.set_cons_zero, List.set_cons_succ]
  refine wpAnyH_take (i := 3) (oi := _) (v := ?_) rfl (by kernel_rfl) (by kernel_rfl) (by kernel_rfl) (fun _ _ _ h => h) (Or.inl ⟨by rfl, ?_⟩) (by assumption) ?_
  rotate_left
  · intro w hSw
    try dsimp only at hSw
    go_simp
    all_goals with_reducible rfl
  simp only [List.getElem_toArray, List.getElem_cons_succ, List.getElem_cons_zero, Act.put, List.setIfInBounds_toArray, List.set_cons_zero, List.set_cons_succ]
  refine wpAnyH_take (i := 4) (oi := _) (v := ?_) rfl (by kernel_rfl) (by kernel_rfl) (by kernel_rfl) (fun _ _ _ h => h) (Or.inl ⟨by rfl, ?_⟩) (by assumption) ?_
  rotate_left
  · intro w hSw
    try dsimp only at hSw
    go_simp
    all_goals with_reducible rfl
  simp only [List.getElem_toArray, List.getElem_cons_succ, List.getElem_cons_zero, Act.put, List.setIfInBounds_toArray, List.set_cons_zero, List.set_cons_succ]
  refine wpAnyH_take (i := 6) (oi := _) (v := ?_) rfl (by kernel_rfl) (by kernel_rfl) (by kernel_rfl) (fun _ _ _ h => h) (Or.inl ⟨by rfl, ?_⟩) (by assumption) ?_
  rotate_left
  · intro w hSw
    try dsimp only at hSw
    go_simp
    all_goals with_reducible rfl
  simp only [List.getElem_toArray, List.getElem_cons_succ, List.getElem_cons_zero, Act.put, List.setIfInBounds_toArray, List.set_cons_zero, List.set_cons_succ]
  refine wpAnyH_take (i := 7) (oi := _) (v := ?_) rfl (by kernel_rfl) (by kernel_rfl) (by kernel_rfl) (fun _ _ _ h => h) (Or.inl ⟨by rfl, ?_⟩) (by assumption) ?_
  rotate_left
  · intro w hSw
    try dsimp only at hSw
    go_simp
    all_goals with_reducible rfl
  simp only [List.getElem_toArray, List.getElem_cons_succ, List.getElem_cons_zero, Act.put, List.setIfInBounds_toArray, List.set_cons_zero, List.set_cons_succ]
  refine wpAnyH_take (i := 8) (oi := _) (v := ?_) rfl (by kernel_rfl) (by kernel_rfl) (by kernel_rfl) (fun _ _ _ h => h) (Or.inl ⟨by rfl, ?_⟩) (by assumption) ?_
  rotate_left
  · intro w hSw
    try dsimp only at hSw
    go_simp
    all_goals with_reducible rfl
  simp only [List.getElem_toArray, List.getElem_cons_succ, List.getElem_cons_zero, Act.put, List.setIfInBounds_toArray, List.set_cons_zero, List.set_cons_succ]
  refine wpAnyH_take (i := 9) (oi := _) (v := ?_) rfl (by kernel_rfl) (by kernel_rfl) (by kernel_rfl) (fun _ _ _ h => h) (Or.inl ⟨by rfl, ?_⟩) (by assumption) ?_
  rotate_left
  · intro w hSw
    try dsimp only at hSw
    go_simp
    all_goals with_reducible rfl
  simp only [List.getElem_toArray, List.getElem_cons_succ, List.getElem_cons_zero, Act.put, List.setIfInBounds_toArray, List.set_cons_zero, List.set_cons_succ]
  refine wpAnyH_take (i := 10) (oi := _) (v := ?_) rfl (by kernel_rfl) (by kernel_rfl) (by kernel_rfl) (fun _ _ _ h => h) (Or.inl ⟨by rfl, ?_⟩) (by assumption) ?_
  rotate_left
  · intro w hSw
    try dsimp only at hSw
    go_simp
    all_goals with_reducible rfl
  simp only [List.getElem_toArray, List.getElem_cons_succ, List.getElem_cons_zero, Act.put, List.setIfInBounds_toArray, List.set_cons_zero, List.set_cons_succ]
  refine wpAnyH_take (i := 12) (oi := _) (v := ?_) rfl (by kernel_rfl) (by kernel_rfl) (by kernel_rfl) (fun _ _ _ h => h) (Or.inl ⟨by rfl, ?_⟩) (by assumption) ?_
  rotate_left
  · intro w hSw
    try dsimp only at hSw
    go_simp
    all_goals with_reducible rfl
  simp only [List.getElem_toArray, List.getElem_cons_succ, List.getElem_cons_zero, Act.put, List.setIfInBounds_toArray, List.set_cons_zero, List.set_cons_succ]
  refine wpAnyH_ready (rs := [5]) (by kernel_rfl) (by simp) ?_
  refine AllReadyH.cons (o := _) rfl (fun K hK => ?_) AllReadyH.nil
  go_simp
  refine (HC.out _ hHeld.1).mono ?_
  rintro e w1 ⟨p1, c1, rfl, ho1, hb1⟩
  have HB1 := Lib.hid (hHeld.1.trans (hb1.mono hHeld.1.size))
  have HO1 := Lib.hid ho1
  refine hK.out _ _ (HI.out _ HB1.out) (fun hHeld1 => ?_)
  clear hHeld ho1 hb1
  clear hK K
  try simp only [List.getElem_toArray, List.getElem_cons_succ, List.getElem_cons_zero, Act.put, List.setIfInBounds_toArray, List.set_cons_zero, List.set_cons_succ]
  refine wpAnyH_take (i := 11) (oi := _) (v := ?_) rfl (by kernel_rfl) (by kernel_rfl) (by kernel_rfl) (fun _ _ _ h => h) (Or.inl ⟨by rfl, ?_⟩) (by assumption) ?_
  rotate_left
  · intro w hSw
    try dsimp only at hSw
    go_simp
    all_goals with_reducible rfl
  simp only [List.getElem_toArray, List.getElem_cons_succ, List.getElem_cons_zero, Act.put, List.setIfInBounds_toArray, List.set_cons_zero, List.set_cons_succ]
  refine wpAnyH_ready (rs := [13]) (by kernel_rfl) (by simp) ?_
  refine AllReadyH.cons (o := _) rfl (fun K hK => ?_) AllReadyH.nil
  go_simp
  refine (HBG.out _ HB1.out).mono ?_
  rintro e w2 ⟨v2, cc, rfl, ho2, hv2, hb2⟩
  have HB2 := Lib.hid (HB1.out.trans (hb2.mono HB1.out.size))
  have HO2 := Lib.hid (And.intro (ownsRow_base (owns_below HO1.out hb2) (Nat.le_refl _)) (And.intro ho2 hv2))
  refine hK.out _ _ (HI.out _ HB2.out) (fun hHeld2 => ?_)
  obtain ⟨p2, c2, rfl, _⟩ := slice_of_own ho2.1
  clear hHeld1 ho2 hv2 hb2
  clear hK K
  try simp only [List.getElem_toArray, List.getElem_cons_succ, List.getElem_cons_zero, Act.put, List.setIfInBounds_toArray, List.set_cons_zero, List.set_cons_succ]
  refine wpAnyH_take (i := 14) (oi := _) (v := ?_) rfl (by kernel_rfl) (by kernel_rfl) (by kernel_rfl) (fun _ _ _ h => h) (Or.inl ⟨by rfl, ?_⟩) (by assumption) ?_
  rotate_left
  · intro w hSw
    try dsimp only at hSw
    go_simp
    all_goals with_reducible rfl
  simp only [List.getElem_toArray, List.getElem_cons_succ, List.getElem_cons_zero, Act.put, List.setIfInBounds_toArray, List.set_cons_zero, List.set_cons_succ]
  refine wpAnyH_ready (rs := [15]) (by kernel_rfl) (by simp) ?_
  refine AllReadyH.cons (o := _) rfl (fun K hK => ?_) AllReadyH.nil
  go_simp
  refine hK.out _ _ (HI.out _ (HB2.out.alloc HB2.out.size _)) (fun hHeld3 => ?_)
  clear hHeld2
  clear hK K
  try simp only [List.getElem_toArray, List.getElem_cons_succ, List.getElem_cons_zero, Act.put, List.setIfInBounds_toArray, List.set_cons_zero, List.set_cons_succ]
  refine wpAnyH_take (i := 16) (oi := _) (v := ?_) rfl (by kernel_rfl) (by kernel_rfl) (by kernel_rfl) (fun _ _ _ h => h) (Or.inl ⟨by rfl, ?_⟩) (by assumption) ?_
  rotate_left
  · intro w hSw
    try dsimp only at hSw
    go_simp
    all_goals with_reducible rfl
  simp only [List.getElem_toArray, List.getElem_cons_succ, List.getElem_cons_zero, Act.put, List.setIfInBounds_toArray, List.set_cons_zero, List.set_cons_succ]
  refine wpAnyH_done (by kernel_rfl) ?_ _
  clear hHeld3
  have HZ := Lib.hid (HFIN.out w2 p1 c1 p2 c2 cc w1 HB1.out HB2.out HO2.out.1 HO2.out.2.1 HO2.out.2.2)
  go_wp2_with fail
  go_ret
  exact HZ.out
end Go.Proofs.YtfoknllnknjccaaGreat
