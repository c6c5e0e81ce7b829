/-
  The order by rows that gathered hands to the library's sort, at tidewright/api.Item, and that sort over a slice of the call's own.
-/
import Derived.Test.YthoimepdioeckaaGreatDoorCmpD
import Derived.Test.YthoimepdioeckaaGreatDoorLaidS
import Derived.Test.YthoimepdioeckaaGreatDoorAsBag
import Derived.Deep.RegionHeld3
namespace Go.Proofs.YthoimepdioeckaaGreatDoor
open Go.Shelf Go.RowKit Go.Lib Go.Sort

theorem rowOfItem_d (q : Option Addr) (xs : List Val) (qc : Nat) (n : Int) (w : World) : Calls Tryz.prog 96 #[.agg #[.slice q xs.length qc, .int .i64 n]] w fun e w' => e = .returned (.slice q xs.length qc) ∧ BelowD w.heap.size w w' := by
  go_enter Tryz.func96, Tryz.ntmps96
  go_wp2
  go_ret
  exact ⟨rfl, (BelowD.refl _ _).alloc (Nat.le_refl _) _⟩

set_option maxRecDepth 100000 in
set_option maxHeartbeats 2000000 in
theorem byRowItem_d (B : Nat) (q : Option Addr) (xs : List Val) (qc : Nat) (n : Int) (p : Option Addr) (ys : List Val) (pc : Nat) (m : Int) (w : World) (hx : RowOK w (q, xs, qc)) (hy : RowOK w (p, ys, pc)) (hB : w.cell? ⟨B, 0, none⟩ = some (.func (.func 96) #[] #[])) (hBl : B < w.heap.size) :
    Calls Tryz.prog 141 #[.agg #[.slice q xs.length qc, .int .i64 n], .agg #[.slice p ys.length pc, .int .i64 m], .pointer (some ⟨B, 0, none⟩)] w (BelowIntD w (cmpRow xs ys)) := by
  have e1 : (w.alloc (.cells #[.slice q xs.length qc, .int .i64 n] 60)).heap.size = w.heap.size + 1 := by simp
  have b1 : BelowD w.heap.size w (w.alloc (.cells #[.slice q xs.length qc, .int .i64 n] 60)) := (BelowD.refl _ _).alloc (Nat.le_refl _) _
  have b2 : BelowD (w.heap.size + 1) (w.alloc (.cells #[.slice q xs.length qc, .int .i64 n] 60)) ((w.alloc (.cells #[.slice q xs.length qc, .int .i64 n] 60)).alloc (.cells #[.slice p ys.length pc, .int .i64 m] 60)) := (BelowD.refl _ _).alloc (by omega) _
  have k1 := (Blk.new w 60 #[.slice q xs.length qc, .int .i64 n]).belowV b2.toBelow (by omega)
  have k2 := Blk.new (w.alloc (.cells #[.slice q xs.length qc, .int .i64 n] 60)) 60 #[.slice p ys.length pc, .int .i64 m]
  rw [e1] at k2
  have hB1 : BelowD w.heap.size w ((w.alloc (.cells #[.slice q xs.length qc, .int .i64 n] 60)).alloc (.cells #[.slice p ys.length pc, .int .i64 m] 60)) := b1.trans (b2.mono (by omega))
  have hB' := (hB1.toBelow.cell (p := ⟨B, 0, none⟩) hBl).trans hB
  have hx1 := (RowOK.belowV hx hB1.toBelow).2
  have hy1 := (RowOK.belowV hy hB1.toBelow).2
  have hlx := hx.1
  have hly := hy.1
  have hs : B < ((w.alloc (.cells #[.slice q xs.length qc, .int .i64 n] 60)).alloc (.cells #[.slice p ys.length pc, .int .i64 m] 60)).heap.size := by simp; omega
  have HRX := Lib.hid fun W => rowOfItem_d q xs qc n W
  have HRY := Lib.hid fun W => rowOfItem_d p ys pc m W
  clear b1 b2 hB hx hy
  go_enter Tryz.func141, Tryz.ntmps141
  go_wp2_with fail
  obtain ⟨W1, hW1⟩ : ∃ W1, ((w.alloc (.cells #[.slice q xs.length qc, .int .i64 n] 60)).alloc (.cells #[.slice p ys.length pc, .int .i64 m] 60)) = W1 := ⟨_, rfl⟩
  rw [hW1] at k1 k2 hB1 hB' hx1 hy1 hs ⊢
  have HC := Lib.hid fun W (h : BelowD W1.heap.size W1 W) => rowCompareD_any q p xs ys qc pc hlx hly W (ValsIn.belowV hx1 h.toBelow) (ValsIn.belowV hy1 h.toBelow)
  have HS := Lib.hid (show ∀ w', BelowD W1.heap.size W1 w' → (BelowD W1.heap.size W1 w' ∧ w'.cell? ⟨B, 0, none⟩ = some (.func (.func 96) #[] #[]) ∧ w'.cell? ⟨w.heap.size, 0, none⟩ = some (.slice q xs.length qc) ∧ w'.cell? ⟨w.heap.size, 1, none⟩ = some (.int .i64 n) ∧ w'.cell? ⟨w.heap.size + 1, 0, none⟩ = some (.slice p ys.length pc) ∧ w'.cell? ⟨w.heap.size + 1, 1, none⟩ = some (.int .i64 m)) from fun w' h => ⟨h, (h.toBelow.cell (p := ⟨B, 0, none⟩) hs).trans hB', (h.toBelow.cell (p := ⟨w.heap.size, 0, none⟩) k1.lt).trans (k1.cell 0), (h.toBelow.cell (p := ⟨w.heap.size, 1, none⟩) k1.lt).trans (k1.cell 1), (h.toBelow.cell (p := ⟨w.heap.size + 1, 0, none⟩) k2.lt).trans (k2.cell 0), (h.toBelow.cell (p := ⟨w.heap.size + 1, 1, none⟩) k2.lt).trans (k2.cell 1)⟩)
  clear k1 k2 hB' hx1 hy1 hs hlx hly hW1 e1
  refine wp_region_held_drew (S := fun w' : World => BelowD W1.heap.size W1 w' ∧ w'.cell? ⟨B, 0, none⟩ = some (.func (.func 96) #[] #[]) ∧ w'.cell? ⟨w.heap.size, 0, none⟩ = some (.slice q xs.length qc) ∧ w'.cell? ⟨w.heap.size, 1, none⟩ = some (.int .i64 n) ∧ w'.cell? ⟨w.heap.size + 1, 0, none⟩ = some (.slice p ys.length pc) ∧ w'.cell? ⟨w.heap.size + 1, 1, none⟩ = some (.int .i64 m)) (by kernel_rfl) (HS.out _ (BelowD.refl _ _).drew) (fun hHeld => ?_)
  refine wpAnyH_take (i := 0) (oi := _) (v := ?_) rfl (by kernel_rfl) (by kernel_rfl) (by kernel_rfl) (fun _ _ _ h => h) (Or.inl ⟨by rfl, ?_⟩) (by assumption) ?_
  rotate_left
  · intro w hSw
    try dsimp only at hSw
    go_simp
    all_goals with_reducible rfl
  simp only [List.getElem_toArray, List.getElem_cons_succ, List.getElem_cons_zero, Act.put, List.setIfInBounds_toArray, List.set_cons_zero, List.set_cons_succ]
  refine wpAnyH_take (i := 1) (oi := _) (v := ?_) rfl (by kernel_rfl) (by kernel_rfl) (by kernel_rfl) (fun _ _ _ h => h) (Or.inl ⟨by rfl, ?_⟩) (by assumption) ?_
  rotate_left
  · intro w hSw
    try dsimp only at hSw
    go_simp
    all_goals with_reducible rfl
  simp only [List.getElem_toArray, List.getElem_cons_succ, List.getElem_cons_zero, Act.put, List.setIfInBounds_toArray, List.set_cons_zero, List.set_cons_succ]
  refine wpAnyH_take (i := 3) (oi := _) (v := ?_) rfl (by kernel_rfl) (by kernel_rfl) (by kernel_rfl) (fun _ _ _ h => h) (Or.inl ⟨by rfl, ?_⟩) (by assumption) ?_
  rotate_left
  · intro w hSw
    try dsimp only at hSw
    go_simp
    all_goals with_reducible rfl
  simp only [List.getElem_toArray, List.getElem_cons_succ, List.getElem_cons_zero, Act.put, List.setIfInBounds_toArray, List.set_cons_zero, List.set_cons_succ]
  refine wpAnyH_take (i := 4) (oi := _) (v := ?_) rfl (by kernel_rfl) (by kernel_rfl) (by kernel_rfl) (fun _ _ _ h => h) (Or.inl ⟨by rfl, ?_⟩) (by assumption) ?_
  rotate_left
  · intro w hSw
    try dsimp only at hSw
    go_simp
    all_goals with_reducible rfl
  simp only [List.getElem_toArray, List.getElem_cons_succ, List.getElem_cons_zero, Act.put, List.setIfInBounds_toArray, List.set_cons_zero, List.set_cons_succ]
  refine wpAnyH_ready (rs := [2]) (by kernel_rfl) (by simp) ?_
  refine AllReadyH.cons (o := _) rfl (fun K hK => ?_) AllReadyH.nil
  go_simp
  refine (HRX.out _).mono ?_
  rintro e u1 ⟨rfl, kb1⟩
  have hU1 : BelowD W1.heap.size W1 u1 := hHeld.1.trans (kb1.mono hHeld.1.size)
  clear kb1
  refine hK.out _ _ (HS.out _ hU1) (fun hHeld1 => ?_)
  clear hHeld
  clear hK K
  try simp only [List.getElem_toArray, List.getElem_cons_succ, List.getElem_cons_zero, Act.put, List.setIfInBounds_toArray, List.set_cons_zero, List.set_cons_succ]
  refine wpAnyH_ready (rs := [5]) (by kernel_rfl) (by simp) ?_
  refine AllReadyH.cons (o := _) rfl (fun K hK => ?_) AllReadyH.nil
  go_simp
  refine (HRY.out _).mono ?_
  rintro e u2 ⟨rfl, kb2⟩
  have hU2 : BelowD W1.heap.size W1 u2 := hHeld1.1.trans (kb2.mono hHeld1.1.size)
  clear kb2
  refine hK.out _ _ (HS.out _ hU2) (fun hHeld2 => ?_)
  clear hHeld1
  clear hK K
  try simp only [List.getElem_toArray, List.getElem_cons_succ, List.getElem_cons_zero, Act.put, List.setIfInBounds_toArray, List.set_cons_zero, List.set_cons_succ]
  refine wpAnyH_ready (rs := [6]) (by kernel_rfl) (by simp) ?_
  refine AllReadyH.cons (o := _) rfl (fun K hK => ?_) AllReadyH.nil
  go_simp
  refine (HC.out _ hHeld2.1).mono ?_
  rintro e u3 ⟨rfl, kb3⟩
  have hU3 : BelowD W1.heap.size W1 u3 := hHeld2.1.trans (kb3.mono hHeld2.1.size)
  clear kb3
  refine hK.out _ _ (HS.out _ hU3) (fun hHeld3 => ?_)
  clear hHeld2
  clear hK K
  try simp only [List.getElem_toArray, List.getElem_cons_succ, List.getElem_cons_zero, Act.put, List.setIfInBounds_toArray, List.set_cons_zero, List.set_cons_succ]
  refine wpAnyH_take (i := 7) (oi := _) (v := ?_) rfl (by kernel_rfl) (by kernel_rfl) (by kernel_rfl) (fun _ _ _ h => h) (Or.inl ⟨by rfl, ?_⟩) (by assumption) ?_
  rotate_left
  · intro w hSw
    try dsimp only at hSw
    go_simp
    all_goals with_reducible rfl
  simp only [List.getElem_toArray, List.getElem_cons_succ, List.getElem_cons_zero, Act.put, List.setIfInBounds_toArray, List.set_cons_zero, List.set_cons_succ]
  refine wpAnyH_done (by kernel_rfl) ?_ _
  have hE := hB1.trans (hHeld3.1.mono hB1.size)
  clear hHeld3 hU1 hU2 hU3
  go_wp2_with fail
  go_ret
  exact ⟨rfl, hE⟩
end Go.Proofs.YthoimepdioeckaaGreatDoor
