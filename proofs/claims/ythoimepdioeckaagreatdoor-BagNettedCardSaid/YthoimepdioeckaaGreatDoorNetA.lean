/-
  Netted of package bag, with all that it calls, as contracts.
-/
import Derived.Test.YthoimepdioeckaaGreatDoorCmpD
import Derived.Test.YthoimepdioeckaaGreatDoorLaidS
import Derived.Test.YthoimepdioeckaaGreatDoorChg
import Derived.Deep.RegionHeld3
import Derived.Test.YthoimepdioeckaaGreatDoorSortI
import Derived.Sort.OwnSorted
import Derived.Shelf.SlSortCmp.NoneTotal
import Derived.Test.YthoimepdioeckaaGreatDoorCollI
import Derived.RangeFuncKeeps
import Derived.Test.YthoimepdioeckaaGreatDoorTaken
import Derived.Test.YthoimepdioeckaaGreatDoorMapI
import Derived.Sort.KeysCollected
import Derived.Test.YthoimepdioeckaaGreatDoorTogI
import Derived.Maps.OwnOps
import Derived.WalkArith
import Derived.Test.YthoimepdioeckaaGreatDoorGatI
import Derived.Test.YthoimepdioeckaaGreatDoorWhole
import Derived.Laws.OwnMore
import Derived.Lib.SliceRun
import Derived.Laws.IdiomCopy
import Derived.Lib.LazyBuf
import Derived.RangeFuncOwn
import Derived.Test.YthoimepdioeckaaGreatDoorApply
/-!
  The order by rows that gathered hands to the library's sort, at tidewright/api.Change, and that sort over a slice of the call's own.
-/
namespace Go.Proofs.YthoimepdioeckaaGreatDoor
open Go.Shelf Go.RowKit Go.Lib Go.Sort

theorem rowOfChange_d (t : Int) (q : Option Addr) (xs : List Val) (qc : Nat) (n : Int) (w : World) : Calls Tryz.prog 50 #[.agg #[.int .i64 t, .slice q xs.length qc, .int .i64 n]] w fun e w' => e = .returned (.slice q xs.length qc) ∧ BelowD w.heap.size w w' := by
  go_enter Tryz.func50, Tryz.ntmps50
  go_wp2
  go_ret
  exact ⟨rfl, (BelowD.refl _ _).alloc (Nat.le_refl _) _⟩

set_option maxRecDepth 100000 in
set_option maxHeartbeats 2000000 in
theorem byRowChange_d (B : Nat) (t : Int) (q : Option Addr) (xs : List Val) (qc : Nat) (n : Int) (s : Int) (p : Option Addr) (ys : List Val) (pc : Nat) (m : Int) (w : World) (hx : RowOK w (q, xs, qc)) (hy : RowOK w (p, ys, pc)) (hB : w.cell? ⟨B, 0, none⟩ = some (.func (.func 50) #[] #[])) (hBl : B < w.heap.size) :
    Calls Tryz.prog 105 #[.agg #[.int .i64 t, .slice q xs.length qc, .int .i64 n], .agg #[.int .i64 s, .slice p ys.length pc, .int .i64 m], .pointer (some ⟨B, 0, none⟩)] w (BelowIntD w (cmpRow xs ys)) := by
  have e1 : (w.alloc (.cells #[.int .i64 t, .slice q xs.length qc, .int .i64 n] 40)).heap.size = w.heap.size + 1 := by simp
  have b1 : BelowD w.heap.size w (w.alloc (.cells #[.int .i64 t, .slice q xs.length qc, .int .i64 n] 40)) := (BelowD.refl _ _).alloc (Nat.le_refl _) _
  have b2 : BelowD (w.heap.size + 1) (w.alloc (.cells #[.int .i64 t, .slice q xs.length qc, .int .i64 n] 40)) ((w.alloc (.cells #[.int .i64 t, .slice q xs.length qc, .int .i64 n] 40)).alloc (.cells #[.int .i64 s, .slice p ys.length pc, .int .i64 m] 40)) := (BelowD.refl _ _).alloc (by omega) _
  have k1 := (Blk.new w 40 #[.int .i64 t, .slice q xs.length qc, .int .i64 n]).belowV b2.toBelow (by omega)
  have k2 := Blk.new (w.alloc (.cells #[.int .i64 t, .slice q xs.length qc, .int .i64 n] 40)) 40 #[.int .i64 s, .slice p ys.length pc, .int .i64 m]
  rw [e1] at k2
  have hB1 : BelowD w.heap.size w ((w.alloc (.cells #[.int .i64 t, .slice q xs.length qc, .int .i64 n] 40)).alloc (.cells #[.int .i64 s, .slice p ys.length pc, .int .i64 m] 40)) := b1.trans (b2.mono (by omega))
  have hB' := (hB1.toBelow.cell (p := ⟨B, 0, none⟩) hBl).trans hB
  have hx1 := (RowOK.belowV hx hB1.toBelow).2
  have hy1 := (RowOK.belowV hy hB1.toBelow).2
  have hlx := hx.1
  have hly := hy.1
  have hs : B < ((w.alloc (.cells #[.int .i64 t, .slice q xs.length qc, .int .i64 n] 40)).alloc (.cells #[.int .i64 s, .slice p ys.length pc, .int .i64 m] 40)).heap.size := by simp; omega
  have HRX := Lib.hid fun W => rowOfChange_d t q xs qc n W
  have HRY := Lib.hid fun W => rowOfChange_d s p ys pc m W
  clear b1 b2 hB hx hy
  go_enter Tryz.func105, Tryz.ntmps105
  go_wp2_with fail
  obtain ⟨W1, hW1⟩ : ∃ W1, ((w.alloc (.cells #[.int .i64 t, .slice q xs.length qc, .int .i64 n] 40)).alloc (.cells #[.int .i64 s, .slice p ys.length pc, .int .i64 m] 40)) = W1 := ⟨_, rfl⟩
  rw [hW1] at k1 k2 hB1 hB' hx1 hy1 hs ⊢
  have HC := Lib.hid fun W (h : BelowD W1.heap.size W1 W) => rowCompareD_any q p xs ys qc pc hlx hly W (ValsIn.belowV hx1 h.toBelow) (ValsIn.belowV hy1 h.toBelow)
  have HS := Lib.hid (show ∀ w', BelowD W1.heap.size W1 w' → (BelowD W1.heap.size W1 w' ∧ w'.cell? ⟨B, 0, none⟩ = some (.func (.func 50) #[] #[]) ∧ w'.cell? ⟨w.heap.size, 0, none⟩ = some (.int .i64 t) ∧ w'.cell? ⟨w.heap.size, 1, none⟩ = some (.slice q xs.length qc) ∧ w'.cell? ⟨w.heap.size, 2, none⟩ = some (.int .i64 n) ∧ w'.cell? ⟨w.heap.size + 1, 0, none⟩ = some (.int .i64 s) ∧ w'.cell? ⟨w.heap.size + 1, 1, none⟩ = some (.slice p ys.length pc) ∧ w'.cell? ⟨w.heap.size + 1, 2, none⟩ = some (.int .i64 m)) from fun w' h => ⟨h, (h.toBelow.cell (p := ⟨B, 0, none⟩) hs).trans hB', (h.toBelow.cell (p := ⟨w.heap.size, 0, none⟩) k1.lt).trans (k1.cell 0), (h.toBelow.cell (p := ⟨w.heap.size, 1, none⟩) k1.lt).trans (k1.cell 1), (h.toBelow.cell (p := ⟨w.heap.size, 2, none⟩) k1.lt).trans (k1.cell 2), (h.toBelow.cell (p := ⟨w.heap.size + 1, 0, none⟩) k2.lt).trans (k2.cell 0), (h.toBelow.cell (p := ⟨w.heap.size + 1, 1, none⟩) k2.lt).trans (k2.cell 1), (h.toBelow.cell (p := ⟨w.heap.size + 1, 2, none⟩) k2.lt).trans (k2.cell 2)⟩)
  clear k1 k2 hB' hx1 hy1 hs hlx hly hW1 e1
  refine wp_region_held_drew (S := fun w' : World => BelowD W1.heap.size W1 w' ∧ w'.cell? ⟨B, 0, none⟩ = some (.func (.func 50) #[] #[]) ∧ w'.cell? ⟨w.heap.size, 0, none⟩ = some (.int .i64 t) ∧ w'.cell? ⟨w.heap.size, 1, none⟩ = some (.slice q xs.length qc) ∧ w'.cell? ⟨w.heap.size, 2, none⟩ = some (.int .i64 n) ∧ w'.cell? ⟨w.heap.size + 1, 0, none⟩ = some (.int .i64 s) ∧ w'.cell? ⟨w.heap.size + 1, 1, none⟩ = some (.slice p ys.length pc) ∧ w'.cell? ⟨w.heap.size + 1, 2, none⟩ = some (.int .i64 m)) (by kernel_rfl) (HS.out _ (BelowD.refl _ _).drew) (fun hHeld => ?_)
  refine wpAnyH_take (i := 0) (oi := _) (v := ?_) rfl (by kernel_rfl) (by kernel_rfl) (by kernel_rfl) (fun _ _ _ h => h) (Or.inl ⟨by rfl, ?_⟩) (by assumption) ?_
  rotate_left
  · intro w hSw
    try dsimp only at hSw
    go_simp
    all_goals with_reducible rfl
  simp only [List.getElem_toArray, List.getElem_cons_zero, Act.put, List.setIfInBounds_toArray, List.set_cons_zero, List.set_cons_succ]
  refine wpAnyH_take (i := 1) (oi := _) (v := ?_) rfl (by kernel_rfl) (by kernel_rfl) (by kernel_rfl) (fun _ _ _ h => h) (Or.inl ⟨by rfl, ?_⟩) (by assumption) ?_
  rotate_left
  · intro w hSw
    try dsimp only at hSw
    go_simp
    all_goals with_reducible rfl
  simp only [List.getElem_toArray, List.getElem_cons_succ, List.getElem_cons_zero, Act.put, List.setIfInBounds_toArray, List.set_cons_zero, List.set_cons_succ]
  refine wpAnyH_take (i := 3) (oi := _) (v := ?_) rfl (by kernel_rfl) (by kernel_rfl) (by kernel_rfl) (fun _ _ _ h => h) (Or.inl ⟨by rfl, ?_⟩) (by assumption) ?_
  rotate_left
  · intro w hSw
    try dsimp only at hSw
    go_simp
    all_goals with_reducible rfl
  simp only [List.getElem_toArray, List.getElem_cons_succ, List.getElem_cons_zero, Act.put, List.setIfInBounds_toArray, List.set_cons_zero, List.set_cons_succ]
  refine wpAnyH_take (i := 4) (oi := _) (v := ?_) rfl (by kernel_rfl) (by kernel_rfl) (by kernel_rfl) (fun _ _ _ h => h) (Or.inl ⟨by rfl, ?_⟩) (by assumption) ?_
  rotate_left
  · intro w hSw
    try dsimp only at hSw
    go_simp
    all_goals with_reducible rfl
  simp only [List.getElem_toArray, List.getElem_cons_succ, List.getElem_cons_zero, Act.put, List.setIfInBounds_toArray, List.set_cons_zero, List.set_cons_succ]
  refine wpAnyH_ready (rs := [2]) (by kernel_rfl) (by simp) ?_
  refine AllReadyH.cons (o := _) rfl (fun K hK => ?_) AllReadyH.nil
  go_simp
  refine (HRX.out _).mono ?_
  rintro e u1 ⟨rfl, kb1⟩
  have hU1 : BelowD W1.heap.size W1 u1 := hHeld.1.trans (kb1.mono hHeld.1.size)
  clear kb1
  refine hK.out _ _ (HS.out _ hU1) (fun hHeld1 => ?_)
  clear hHeld
  clear hK K
  try simp only [List.getElem_toArray, List.getElem_cons_succ, List.getElem_cons_zero, Act.put, List.setIfInBounds_toArray, List.set_cons_zero, List.set_cons_succ]
  refine wpAnyH_ready (rs := [5]) (by kernel_rfl) (by simp) ?_
  refine AllReadyH.cons (o := _) rfl (fun K hK => ?_) AllReadyH.nil
  go_simp
  refine (HRY.out _).mono ?_
  rintro e u2 ⟨rfl, kb2⟩
  have hU2 : BelowD W1.heap.size W1 u2 := hHeld1.1.trans (kb2.mono hHeld1.1.size)
  clear kb2
  refine hK.out _ _ (HS.out _ hU2) (fun hHeld2 => ?_)
  clear hHeld1
  clear hK K
  try simp only [List.getElem_toArray, List.getElem_cons_succ, List.getElem_cons_zero, Act.put, List.setIfInBounds_toArray, List.set_cons_zero, List.set_cons_succ]
  refine wpAnyH_ready (rs := [6]) (by kernel_rfl) (by simp) ?_
  refine AllReadyH.cons (o := _) rfl (fun K hK => ?_) AllReadyH.nil
  go_simp
  refine (HC.out _ hHeld2.1).mono ?_
  rintro e u3 ⟨rfl, kb3⟩
  have hU3 : BelowD W1.heap.size W1 u3 := hHeld2.1.trans (kb3.mono hHeld2.1.size)
  clear kb3
  refine hK.out _ _ (HS.out _ hU3) (fun hHeld3 => ?_)
  clear hHeld2
  clear hK K
  try simp only [List.getElem_toArray, List.getElem_cons_succ, List.getElem_cons_zero, Act.put, List.setIfInBounds_toArray, List.set_cons_zero, List.set_cons_succ]
  refine wpAnyH_take (i := 7) (oi := _) (v := ?_) rfl (by kernel_rfl) (by kernel_rfl) (by kernel_rfl) (fun _ _ _ h => h) (Or.inl ⟨by rfl, ?_⟩) (by assumption) ?_
  rotate_left
  · intro w hSw
    try dsimp only at hSw
    go_simp
    all_goals with_reducible rfl
  simp only [List.getElem_toArray, List.getElem_cons_succ, List.getElem_cons_zero, Act.put, List.setIfInBounds_toArray, List.set_cons_zero, List.set_cons_succ]
  refine wpAnyH_done (by kernel_rfl) ?_ _
  have hE := hB1.trans (hHeld3.1.mono hB1.size)
  clear hHeld3 hU1 hU2 hU3
  go_wp2_with fail
  go_ret
  exact ⟨rfl, hE⟩
end Go.Proofs.YthoimepdioeckaaGreatDoor

/-!
  slices.SortFunc at items, under the order by rows, over a slice of the call's own.
-/
namespace Go.Proofs.YthoimepdioeckaaGreatDoor
open Go.Shelf Go.RowKit Go.Lib Go.Sort

abbrev RC (B : Nat) (w : World) := {r : ChR // RowB B w r.2.1}
instance (B : Nat) (w : World) : Inhabited (RC B w) := ⟨⟨cr0, by unfold RowB; simp⟩⟩
def cellsRC {B : Nat} {w : World} (r : RC B w) : List Value := cellsC r.1
def cmpRC {B : Nat} {w : World} (x y : RC B w) : Int := cmpRow x.1.2.1.2.1 y.1.2.1.2.1
theorem swoRC (B : Nat) (w : World) : SWO (ltOf (cmpRC (B := B) (w := w))) where
  irrefl x := by unfold ltOf cmpRC; rw [cmpRow_ok.refl]; rfl
  trans x y z h1 h2 := by
    unfold ltOf cmpRC at *
    rw [decide_eq_true_eq] at *
    exact cmp_lt_trans h1 h2
  ntrans x y z h1 h2 := by
    unfold ltOf cmpRC at *
    rw [decide_eq_false_iff_not] at *
    have a1 := cmpRow_ok.anti x.1.2.1.2.1 y.1.2.1.2.1
    have a2 := cmpRow_ok.anti y.1.2.1.2.1 z.1.2.1.2.1
    have a3 := cmpRow_ok.anti x.1.2.1.2.1 z.1.2.1.2.1
    obtain ⟨t1, _⟩ := cmpRow_ok.trans z.1.2.1.2.1 y.1.2.1.2.1 x.1.2.1.2.1 (by omega) (by omega)
    omega

theorem flatC_len (cs : List ChR) : (flatC cs).length = cs.length * 3 := by
  induction cs with
  | nil => rfl
  | cons x cs ih => show (cellsC x ++ flatC cs).length = _; rw [List.length_append, ih]; simp [cellsC]; omega
theorem flatK_flatC {B : Nat} {w : World} (xs : List (RC B w)) : (flatK cellsRC 3 xs.toArray).toList = flatC (xs.map (·.1)) := by
  apply List.ext_getElem?
  intro t
  by_cases ht : t < xs.length * 3
  · have hi : t / 3 < xs.length := by omega
    have hg := flatC_get (xs.map (·.1)) (t / 3) (by simpa using hi)
    have e0 : (xs.map (·.1))[t / 3]?.getD cr0 = (xs[t / 3]).1 := by simp [hi]
    rw [e0] at hg
    have e1 : (flatK cellsRC 3 xs.toArray).toList[t]? = some ((cellsC (xs[t / 3]).1)[t % 3]!) := by
      rw [Array.getElem?_toList, Array.getElem?_eq_getElem (by simpa using ht)]
      have := get_flatK cellsRC 3 xs.toArray t (by simpa using ht)
      rw [getElem!_pos _ t (by simpa using ht)] at this
      rw [this]
      congr 1
      rw [getElem!_pos _ (t / 3) (by simpa using hi)]
      rfl
    rw [e1]
    have h3 : t % 3 = 0 ∨ t % 3 = 1 ∨ t % 3 = 2 := by omega
    rcases h3 with h | h | h
    · have : t / 3 * 3 = t := by omega
      have h2 := hg.1
      rw [this] at h2
      rw [h2, h]
      simp [cellsC]
    · have : t / 3 * 3 + 1 = t := by omega
      have h2 := hg.2.1
      rw [this] at h2
      rw [h2, h]
      simp [cellsC]
    · have : t / 3 * 3 + 2 = t := by omega
      have h2 := hg.2.2
      rw [this] at h2
      rw [h2, h]
      simp [cellsC]
  · rw [List.getElem?_eq_none (by simp; omega), List.getElem?_eq_none (by rw [flatC_len]; simp; omega)]

theorem holdsC_of_block {B : Nat} {w0 w : World} {g : Nat} {cur : Array Value} {e : TypeId} {xs : List (RC B w0)} (hb : w.heap[g]? = some (.cells cur e (0, 0))) (ht : cur.toList.take (xs.length * 3) = flatC (xs.map (·.1))) : HoldsK cellsRC 3 w g 0 xs.toArray := by
  intro j hj
  have hj' : j < xs.length * 3 := by simpa using hj
  refine ⟨?_, by simp [World.frozen?, hb]⟩
  have h1 : (cur.toList.take (xs.length * 3))[j]? = (flatK cellsRC 3 xs.toArray).toList[j]? := by rw [ht, flatK_flatC]
  rw [List.getElem?_take_of_lt hj', Array.getElem?_toList, Array.getElem?_toList] at h1
  simp only [World.cell?, hb, Nat.zero_add]
  simp only [Option.isSome_none, Bool.false_eq_true, if_false]
  rw [h1, Array.getElem?_eq_getElem hj, getElem!_pos _ j hj]
  rfl

theorem heap_sortedC {B : Nat} {w0 w : World} {g n : Nat} {os : Array Obj} {cur : Array Value} {e : TypeId} {fr : Nat × Nat} (d : Array (RC B w0)) (hb : w.heap[g]? = some (.cells cur e fr)) :
    (sortWorldK cellsRC 3 w g 0 n d os).heap[g]? = some (.cells (putCells id 0 (flatK cellsRC 3 d) cur) e fr) := by
  have hg : g < w.heap.size := (Array.getElem?_eq_some_iff.1 hb).1
  unfold sortWorldK
  rw [heap_grow_old _ _ (by simpa [putRowK] using hg)]
  simp [putRowK, putRow, mapBlock, Sort.ahead, Array.getElem?_modify, hb, onCells]

theorem grownBy_sortedC {B : Nat} {w0 w : World} {g n : Nat} {os : Array Obj} (d : Array (RC B w0)) : w.grownBy (sortWorldK cellsRC 3 w g 0 n d os) (some g) := by
  unfold sortWorldK
  refine ⟨rfl, rfl, rfl, by simp [putRowK], fun k hk hne => ?_⟩
  rw [heap_grow_old _ _ (by simpa [putRowK] using hk)]
  have : g ≠ k := fun e => hne (by rw [e])
  simp [putRowK, putRow, mapBlock, Sort.ahead, Array.getElem?_modify, this]

theorem take_putCellsC {B : Nat} {w0 : World} (cur : Array Value) (zs : List (RC B w0)) (h : zs.length * 3 ≤ cur.size) : (putCells id 0 (flatK cellsRC 3 zs.toArray) cur).toList.take (zs.length * 3) = flatC (zs.map (·.1)) := by
  rw [← flatK_flatC]
  apply List.ext_getElem?
  intro j
  by_cases hj : j < zs.length * 3
  · rw [List.getElem?_take_of_lt hj, Array.getElem?_toList, Array.getElem?_toList]
    have hs : j < (flatK cellsRC 3 zs.toArray).size := by simpa using hj
    have hc : j < cur.size := by omega
    rw [Array.getElem?_eq_getElem hs]
    simp only [putCells, Array.getElem?_mapIdx, Array.getElem?_eq_getElem hc, Option.map_some, Nat.zero_add, size_flatK, List.size_toArray, Nat.zero_le, true_and, if_pos hj, id, Nat.sub_zero]
    rw [getElem!_pos (flatK cellsRC 3 zs.toArray) j hs]
  · rw [List.getElem?_take_eq_none (by omega), List.getElem?_eq_none (by simp; omega)]

theorem cmpLaysC (B Bx g size : Nat) (w : World) (hB : B ≤ w.heap.size) (hBx : Bx < B) (hg : B ≤ g) (hbox : w.cell? ⟨Bx, 0, none⟩ = some (.func (.func 50) #[] #[])) :
    CmpLays Tryz.prog 105 #[.pointer (some ⟨Bx, 0, none⟩)] (cellsRC (B := B) (w := w)) 3 cmpRC g 0 size w := fun m os dk _ x y => by
  have hgr := grownBy_sortedC (w := w) (g := g) (n := m) (os := os) dk
  generalize sortWorldK cellsRC 3 w g 0 m dk os = W at hgr ⊢
  have hBW : B ≤ W.heap.size := Nat.le_trans hB hgr.size
  have hbW : Below B w W := (Below.refl B w).grown hgr hB (fun k e => by cases e; exact hg)
  obtain ⟨⟨t, ⟨q, xs, qc⟩, n⟩, hx⟩ := x
  obtain ⟨⟨s, ⟨p, ys, pc⟩, k⟩, hy⟩ := y
  exact (byRowChange_d Bx t q xs qc n s p ys pc k W ((hx.grownX hgr hB hg).okW hBW) ((hy.grownX hgr hB hg).okW hBW) ((hbW.cell (p := ⟨Bx, 0, none⟩) hBx).trans hbox) (by omega)).mono fun e w' ⟨he, hb⟩ => ⟨he, below_block W w' hb⟩

/-- The library's sort, over a slice that the call owns. -/
theorem sort_changes (ys : List ChR) (base Bx : Nat) (v : Value) (w : World) (hN : ys.length < 4611686018427387904) (hbase : base ≤ w.heap.size) (hBx : Bx < base) (hbox : w.cell? ⟨Bx, 0, none⟩ = some (.func (.func 50) #[] #[]))
    (hrow : ∀ y ∈ ys, RowB base w y.2.1) (h : w.ownsRow base 40 3 v ys.length (flatC ys)) :
    Calls Tryz.prog 145 #[v, .func (.func 105) #[] #[.pointer (some ⟨Bx, 0, none⟩)]] w fun e w' =>
      e = .returned (.tuple #[]) ∧ ∃ zs : List ChR, zs.Perm ys ∧ (zs.Pairwise fun x y => 0 ≤ cmpRow y.2.1.2.1 x.2.1.2.1) ∧ w'.ownsRow base 40 3 v ys.length (flatC zs) ∧ w.grownBy w' v.ownBlock := by
  obtain ⟨hlen, hr⟩ := h
  rcases hr with ⟨rfl, hn⟩ | ⟨g, cap, cur, rfl, hbs, hb, h1, h2, h3, h4⟩
  · rw [hn]
    have hy : ys = [] := List.length_eq_zero_iff.1 hn
    subst hy
    have hcon := AnyF.slices_SortFunc_none Tryz.sortC none 0 (.func (.func 105) #[] #[.pointer (some ⟨Bx, 0, none⟩)]) w
    change Calls Tryz.prog 145 _ _ _ at hcon
    refine hcon.mono ?_
    rintro e w' ⟨rfl, rfl⟩
    exact ⟨rfl, [], .refl _, List.Pairwise.nil, ⟨by simp [flatC], .inl ⟨rfl, rfl⟩⟩, ⟨rfl, rfl, rfl, Nat.le_refl _, fun _ _ _ => rfl⟩⟩
  · obtain ⟨ls, hasl⟩ : ∃ ls : List (RC base w), ls.map (·.1) = ys := ⟨ys.attach.map fun y => ⟨y.1, hrow y.1 y.2⟩, by rw [List.map_map]; exact List.attach_map_subtype_val ys⟩
    have hal : ls.length = ys.length := by rw [← hasl]; simp
    rw [← hasl] at h4
    have eg : ∀ args w, (callFunc 105 args).run Tryz.prog w = .ok (.enter 105 args) w := enters_of Tryz.func105 (by kernel_rfl) rfl
    have hcon := AnyQ.slices_SortFunc Tryz.sortC 3 Tryz.isAgg40 Tryz.sizeOf40 (cellsRC (B := base) (w := w)) (fun _ => rfl) (fun x v hv => by simp [cellsRC, cellsC, rowv] at hv; rcases hv with rfl | rfl | rfl <;> rfl) cmpRC (swoRC base w) 105 #[.pointer (some ⟨Bx, 0, none⟩)] g 0 cap ls.toArray w eg
      (cmpLaysC base Bx g _ w hbase hBx hbs hbox) (holdsC_of_block hb (by rw [← h4]; simp)) ((Array.getElem?_eq_some_iff.1 hb).1) (by simpa [hal] using hN)
    change Calls Tryz.prog 145 _ _ _ at hcon
    rw [List.size_toArray, hal] at hcon
    refine hcon.mono ?_
    rintro e w' ⟨rfl, d', n, os, hp, hs, rfl⟩
    obtain ⟨p1, p2, p3⟩ := hp
    have p1' : d'.size = ls.length := by simpa using p1
    refine ⟨rfl, d'.toList.map (·.1), ?_, ?_, ?_, grownBy_sortedC d'⟩
    · have e1 : d'.extract 0 ys.length = d' := by rw [← hal, ← p1']; exact Array.extract_size
      have e2 : ls.toArray.extract 0 ys.length = ls.toArray := by rw [← hal]; simp
      rw [e1, e2] at p3
      have p4 := p3.map (·.1)
      rw [← hasl]
      simpa using p4
    · rw [List.pairwise_map, List.pairwise_iff_getElem]
      intro i j hi hj hij
      have hi' : i < d'.size := by simpa using hi
      have hj' : j < d'.size := by simpa using hj
      have := hs i j (Nat.zero_le _) hij (by omega)
      rw [getElem!_pos _ i hi', getElem!_pos _ j hj'] at this
      have h5 := of_decide_eq_false this
      simpa [cmpRC] using h5
    · have hk : d'.toList.length * 3 ≤ cur.size := by simp [p1', h3, hal]; omega
      have ht := take_putCellsC cur d'.toList hk
      refine ⟨by rw [flatC_len]; simp [p1', hal], .inr ⟨g, cap, _, rfl, hbs, heap_sortedC _ hb, h1, h2, by simp [putCells, h3], ?_⟩⟩
      have : d'.toList.length = ys.length := by simpa [hal] using p1'
      rw [this] at ht
      simpa using ht
end Go.Proofs.YthoimepdioeckaaGreatDoor

/-!
  slices.AppendSeq and slices.Collect at items, against whatever iterator.
-/
namespace Go.Proofs.YthoimepdioeckaaGreatDoor
open Go.RowKit Go.Shelf
attribute [local go_sem] Oper.semAt_some

abbrev encC (x : ChR) : Array Value := #[.agg #[.int .i64 x.1, rowv x.2.1, .int .i64 x.2.2]]
theorem flatC_snoc (xs : List ChR) (x : ChR) : flatC (xs ++ [x]) = flatC xs ++ cellsC x := by simp [flatC]
theorem cells_three_new (w : World) (a b c : Value) (t : TypeId) : ∀ (j : Nat) (u : Value), [a, b, c][j]? = some u → (w.alloc (.cells #[a, b, c] t)).cell? ((⟨w.heap.size, 0, none⟩ : Addr).add j) = some u := by
  intro j u h
  match j, h with
  | 0, h => cases h; simp [Addr.add, World.cell?_alloc_new]
  | 1, h => cases h; simp [Addr.add, World.cell?_alloc_new]
  | 2, h => cases h; simp [Addr.add, World.cell?_alloc_new]
  | j + 3, h => simp at h

set_option maxRecDepth 100000 in
set_option maxHeartbeats 2000000 in
theorem appendSeqC_in (n : Nat) (hn : 1 ≤ n) (gf : Nat) (lb : Array Value) (eg : ∀ args w, (callFunc gf args).run Tryz.prog w = .ok (.enter gf args) w) (S Sp : List ChR → Prop) (N : Nat)
    (hN : N ≤ maxLen) (hNb : N * 40 ≤ 140737488355328) (w : World) (hseq : SeqStopsK Fence.wide (n - 1) Tryz.prog gf lb encC KeepsWalks S Sp N w) :
    CallsIn Fence.wide n Tryz.prog 187 #[.slice none 0 0, .func (.func gf) #[] lb] w fun e w' =>
      ∃ v xs, e = .returned v ∧ S xs ∧ w'.ownsRow w.heap.size 40 3 v xs.length (flatC xs) ∧ Below w.heap.size w w' := by
  have h1 : 1 ≤ n := hn
  obtain ⟨i0, hi, hz0, hz1, hz2⟩ := info_parts infoC
  refine callsIn_of_wp_marks Tryz.func187 rfl trivial ?_ rfl
  simp only [Tryz.ntmps187, List.size_toArray, List.length_cons, List.length_nil, Nat.reduceAdd, Nat.reduceSub, Array.replicate_succ, Array.replicate_zero, List.push_toArray, List.append_toArray, List.nil_append, List.cons_append]
  gi_wp2_with fail
  have bO := Boxed.new w 24 (.slice none 0 0)
  have hB0 : Below w.heap.size w (w.alloc (.cells #[.slice none 0 0] 24)) := (Below.refl _ w).alloc (Nat.le_refl _) _
  refine wpIn_rangeFunc_ownH (F := Fence.wide) rfl h1 (gf := gf) (lb := lb) rfl trivial eg hseq walksK_t walksK_b hB0 (fun _ => rfl)
    (fun pre W => (∃ v, Boxed W w.heap.size 24 v ∧ W.ownsRow w.heap.size 40 3 v pre.length (flatC pre) ∧ True) ∧ Below w.heap.size w W)
    (fun _ _ _ => False)
    (OwnFrom.and (Own.from (holdsRow_own w.heap.size w.heap.size 24 40 3 (fun pre => pre.length) (fun pre => flatC pre) (fun _ _ => True)) _) (ownFrom_below (Nat.le_refl _) (by simp)))
    (fun _ _ _ _ _ hs _ _ => hs)
    ⟨⟨_, bO, World.ownsRow_nil _ _ _ _, trivial⟩, hB0⟩
    (fun x a' W => ∃ Bx, w.heap.size < Bx ∧ Blk W Bx 40 #[.int .i64 x.1, .slice x.2.1.1 x.2.1.2.1.length x.2.1.2.2, .int .i64 x.2.2] ∧ a' = { tmps := #[.slice none 0 0, .func (.func gf) #[] lb, .pointer (some ⟨w.heap.size, 0, none⟩), undef, .slice none 0 0, .pointer (some ⟨Bx, 0, none⟩), .func (.func gf) #[] lb, .agg #[.int .i64 x.1, .slice x.2.1.1 x.2.1.2.1.length x.2.1.2.2, .int .i64 x.2.2], undef, undef, undef, undef, undef], defers := [] })
    (fun x a' _ X Y row hs hg hr => by obtain ⟨Bx, h1, h2, h3⟩ := hs; exact ⟨Bx, h1, blk_own Bx 40 (fun (_ : Unit) => #[.int .i64 x.1, .slice x.2.1.1 x.2.1.2.1.length x.2.1.2.2, .int .i64 x.2.2]) () X Y row h2 hg (fun r e => (hr r e).2), h3⟩)
    ?assign ?body ?done ?stop
  case assign =>
    rintro l pre x W K ⟨⟨v, hv, hrow, _⟩, hB⟩ hK
    simp only [encC, rowv]
    gi_wp2_with fail
    have hW := hB.size
    have h1' := hv.lt
    have hb2 := KeepsWalks.alloc W (.cells #[.int .i64 x.1, .slice x.2.1.1 x.2.1.2.1.length x.2.1.2.2, .int .i64 x.2.2] 40)
    exact hK _ _ ((KeepsOthers.alloc _ _).from _) hb2 ⟨⟨v, hv.alloc _, hrow.alloc _, trivial⟩, hB.alloc hW _⟩ ⟨W.heap.size, by omega, Blk.new W _ _, rfl⟩
  case body =>
    rintro l pre x a' W hl ⟨r, hr⟩ ⟨⟨v, hv, hrow, _⟩, hB⟩ ⟨Bx, hBx, bX, rfl⟩ hlt
    have hc := hv.cell
    have x0 : W.cell? ⟨Bx, 0, none⟩ = some (.int .i64 x.1) := bX.cell 0
    have x1 : W.cell? ⟨Bx, 1, none⟩ = some (.slice x.2.1.1 x.2.1.2.1.length x.2.1.2.2) := bX.cell 1
    have x2 : W.cell? ⟨Bx, 2, none⟩ = some (.int .i64 x.2.2) := bX.cell 2
    gi_wp2_with (gi_at_builtin; refine wpListIn_append_own _ rfl _ _ 24 rfl w.heap.size 40 i0 (.agg #[.int .i64 0, .slice none 0 0, .int .i64 0]) 3 40 Tryz.underlying24 hi hz0 hz1 hz2 rfl (by decide) _ _ _ rfl (hrow.alloc _) ⟨W.heap.size, 0, none⟩ 1 1 (cellsC x) rfl rfl (cells_three_new _ _ _ _ _) (by simp [cellsC, rowv, Value.oneCell']) (by omega) (by omega) (by have := hB.size; simp; omega) ?_; intro v' w1 hown' hgrow _; obtain ⟨g', cap', rfl⟩ := ownsRow_succ hown'; obtain ⟨hv1, hv2, hr2, hk2, hb2⟩ := hv.appended (by decide) hrow hB.size (Nat.le_refl _) hown' hgrow; have hc1 := hv1.cell; have hf1 := hv1.frozen)
    refine ⟨hk2.from _, hk2.walks, ⟨_, hv2, ?_, trivial⟩, hB.trans hb2⟩
    rw [flatC_snoc, List.length_append]
    exact hr2
  case done =>
    rintro D ys W hD hS ⟨⟨v, hv, hrow, _⟩, hB⟩ hK
    have hc := hv.cell
    gi_wp2
    refine ⟨by simp, .inl ⟨_, _, rfl, run_takeDeferred hK, ?_⟩⟩
    exact ⟨_, results_tmp rfl _ _ _, v, ys, rfl, hS, ownsRow_putObj hrow _ hK rfl, hB.trans (belowK_b (w := w) (Nat.le_refl _) W D _ _ (by simp at hD; omega) hK rfl rfl)⟩
  case stop =>
    rintro D c pre W _ _ h _
    exact h.elim

theorem collectC_in (n : Nat) (hn : 2 ≤ n) (gf : Nat) (lb : Array Value) (eg : ∀ args w, (callFunc gf args).run Tryz.prog w = .ok (.enter gf args) w) (S Sp : List ChR → Prop) (N : Nat)
    (hN : N ≤ maxLen) (hNb : N * 40 ≤ 140737488355328) (w : World) (hseq : SeqStopsK Fence.wide (n - 1 - 1) Tryz.prog gf lb encC KeepsWalks S Sp N w) :
    Calls Tryz.prog 144 #[.func (.func gf) #[] lb] w fun e w' =>
      ∃ v xs, e = .returned v ∧ S xs ∧ w'.ownsRow w.heap.size 40 3 v xs.length (flatC xs) ∧ Below w.heap.size w w' := by
  have hc := Lib.hid (callsIn_wide.1 (appendSeqC_in (n - 1) (by omega) gf lb eg S Sp N hN hNb w hseq))
  go_enter Tryz.func144, Tryz.ntmps144
  go_wp2_with (go_at_call 187; refine hc.out.mono ?_; rintro e w' ⟨v, xs, rfl, hS, hrow, hb⟩)
  go_ret
  exact ⟨v, xs, rfl, hS, hrow, hb⟩
end Go.Proofs.YthoimepdioeckaaGreatDoor

/-!
  maps.Values at the map that gathered makes of items, as an iterator: its elements, each once, in whatever order.
-/
namespace Go.Proofs.YthoimepdioeckaaGreatDoor
open Go.RowKit Go.Shelf Go.Sort
attribute [local go_sem] Oper.semAt_some

abbrev rowC (r : ChR) : List Val := r.2.1.2.1
abbrev vC (r : ChR) : Value := .agg #[.int .i64 r.1, rowv r.2.1, .int .i64 r.2.2]
theorem mapTC : Tryz.prog.underlying 133 = some (.map 9 40) := by kernel_rfl

set_option maxRecDepth 100000 in
set_option maxHeartbeats 2000000 in
theorem valuesC1_in (n : Nat) (hn : 1 ≤ n) (l Bm b nn : Nat) (acc : List ChR) (D0 : DataW Value) (hG : GatOf rowC vC acc D0) (J Jx : List ChR → World → Prop) (W : World) (hJ : AbidesFrom W.heap.size J)
    (hm : W.cell? ⟨Bm, 0, none⟩ = some (.map (some b))) (hown : W.ownsMap Tryz.prog 9 heldR b nn D0)
    (hY : ∀ pre x W1, J pre W1 → pre.length < acc.length → YieldAt Fence.wide (n - 1) Tryz.prog l (encC x) W1 fun e W' =>
      (e = .returned (.bool true) ∧ J (pre ++ [x]) W' ∧ KeepsWalks W1 W') ∨ (e = .returned (.bool false) ∧ Jx (pre ++ [x]) W')) (h0 : J [] W) :
    CallsIn Fence.wide n Tryz.prog 146 #[.func (.yield l) #[] #[], .pointer (some ⟨Bm, 0, none⟩)] W fun e W' => (∃ v, e = .returned v) ∧
      ((∃ ys, ys.Perm acc ∧ J ys W') ∨ (∃ pre, True ∧ Jx pre W')) := by
  have HY := Lib.hid hY
  have HG := Lib.hid hG
  clear hY hG
  refine callsIn_of_wp Tryz.func146 rfl trivial ?_ rfl
  simp only [Tryz.ntmps146, List.size_toArray, List.length_cons, List.length_nil, Nat.reduceAdd, Nat.reduceSub, Array.replicate_succ, Array.replicate_zero, List.push_toArray, List.append_toArray, List.nil_append, List.cons_append]
  gi_wp2_with (first
    | (gi_at_range; refine wpListIn_range_own _ rfl _ 133 rfl 9 40 (Maps.string_keyed Tryz.underlying9) mapTC _ b nn _ rfl hown ?_; intro w0 hrg0 hg0 hs0)
    | gi_in)
  go_frame
  gi_loopw [4] (fun _ wr => ∃ (left : Lit → Bool) (cnt : Nat) (ps : List ChR), wr.ranges Tryz.prog 9 heldR b W.heap.size nn D0 left cnt ∧ Hid (ps.length + cnt ≤ acc.length) ∧ Hid (Taken rowC acc left ps) ∧ J ps wr)
    (fun _ wr => wr.rangeLeft b W.heap.size)
  case atStart =>
    exact ⟨_, _, [], hrg0, (by show [].length + _ ≤ _; rw [HG.out.size]; simp), Taken.start HG.out, hJ [] W w0 none h0 hg0 (fun r e => by cases e)⟩
  case round =>
    obtain ⟨left, cnt, ps, hrg, hcs, hC, hJs⟩ := hrel
    gi_wp2_with (first
      | (gi_at_next; (refine wpListIn_next_ranges _ rfl _ rfl 9 (Maps.string_keyed Tryz.underlying9) heldR encStr (id : Value → Value) (fun key kl hk => by obtain ⟨x, hx, _⟩ := Maps.keyOf_str Tryz.underlying9 hk; exact ⟨x, hx⟩) (fun v y hv => ⟨v, rfl⟩) b W.heap.size nn _ _ _ rfl hrg ?_ ?_))
      | gi_in)
    · intro hc0 hl0
      gi_wp2
      go_end0
      exact ⟨⟨_, rfl⟩, .inl ⟨ps, hC.out.end_ HG.out.diff hl0, hJs⟩⟩
    · intro x c kl yd yp w2 cnt2 hkey hlk hv hat hrg2 hlt hg2 hs2 hen
      obtain ⟨x', ex, rfl, _⟩ := Maps.keyOf_str Tryz.underlying9 hkey
      obtain rfl : x = x' := encStr_inj ex
      obtain ⟨rfl, rfl⟩ : yd = .held c ∧ yp = [] := by have := heldR_inv hv; simpa using this
      obtain ⟨e, he, hte⟩ := (HG.out.has x).1 (Maps.has_true_of_atKey hat)
      subst hte
      have hce : c = vC e := by
        have h1 := HG.out.at_ e he .nil
        rw [hat .nil] at h1
        simpa using h1
      subst hce
      have hC2 := Lib.hid (hC.out.step HG.out he hlk)
      have hJ2 : J ps w2 := hJ ps wr w2 (some W.heap.size) hJs hg2 (fun r e => by cases e; exact ⟨Nat.le_refl _, hrg.iter_walk⟩)
      have hlt2 : ps.length < acc.length := by have := hcs.out; omega
      have hcs2 : Hid ((ps ++ [e]).length + cnt2 ≤ acc.length) := by have := hcs.out; show _ ≤ _; simp; omega
      have hy1 := HY.out ps e (w2.alloc (.cells #[.int .i64 e.1, .slice e.2.1.1 e.2.1.2.1.length e.2.1.2.2, .int .i64 e.2.2] 40)) (hJ _ _ _ none hJ2 (World.grownBy_alloc _ _ none) (fun r e => by cases e)) hlt2
      obtain ⟨et, ⟨eq, es, ec⟩, en⟩ := e
      dsimp only [vC, rowv, id] at hen hy1 ⊢
      obtain ⟨fn, tmps, assign, body, hy, hR⟩ := hy1
      dsimp only [encC, rowv] at hy
      clear hs2 hkey hlk hv hat
      gi_wp2_with fail
      refine hR.mono ?_
      rintro e' W3 (⟨rfl, hJ3, hk3⟩ | ⟨rfl, hJx3⟩)
      · have hrg3 := (hrg2.alloc (.cells #[.int .i64 et, .slice eq es.length ec, .int .i64 en] 40)).of_walks hk3
        gi_wp2_with fail
        go_roundw
        case rel => exact ⟨_, cnt2, ps ++ [(et, (eq, es, ec), en)], hrg3, hcs2, hC2.out, hJ3⟩
        case measure => rw [hrg3.left_eq, hrg.left_eq]; omega
      · gi_wp2_with fail
        refine bodyPost_ret (results_none rfl _ _ _) rfl ?_
        exact ⟨⟨_, rfl⟩, .inr ⟨_, trivial, hJx3⟩⟩
end Go.Proofs.YthoimepdioeckaaGreatDoor

/-!
  What gathered does with two items of one row; its map read at a row's text; plain bounds. As contracts.
-/
namespace Go.Proofs.YthoimepdioeckaaGreatDoor
open Go.RowKit Go.Shelf

abbrev togC (a b : ChR) : ChR := (max a.1 b.1, a.2.1, a.2.2 + b.2.2)
theorem togC_row (a b : ChR) : rowC (togC a b) = rowC a := rfl

theorem zeroChange (w : World) : (zeroValue 40).run Tryz.prog w = .ok (.agg #[.int .i64 0, .slice none 0 0, .int .i64 0]) w := by
  obtain ⟨i0, hi, hz0, hz1, hz2⟩ := info_parts infoC
  simp [zeroValue, typeInfo, hi, hz0]
theorem lookC_yes {W : World} {b n : Nat} {D : DataW Value} {acc : List ChR} (hown : W.ownsMap Tryz.prog 9 heldR b n D) (hG : GatOf rowC vC acc D) {y : ChR} (hy : y ∈ acc) {L : List UInt8} (hL : textOf (rowC y) = L) (hl : L.length ≤ maxLen) :
    (Instr.lookup 133 (.map (some b)) (.string ⟨L.toArray⟩) true).run Tryz.prog W = .ok (.tuple #[vC y, .bool true]) W := by
  obtain ⟨v, ps, hrun, hv⟩ := hown.look_ok (Maps.string_keyed Tryz.underlying9) mapTC (zeroChange W) (zd := .held (.agg #[.int .i64 0, .slice none 0 0, .int .i64 0])) (zp := []) rfl (key_of L hl)
  have h1 := hG.at_ y hy (.held (.agg #[.int .i64 0, .slice none 0 0, .int .i64 0]))
  rw [hL] at h1
  rw [h1] at hv
  have h2 : v = vC y := by simpa [heldR] using (congrArg (Option.map Prod.fst) hv)
  have h3 : Maps.has D (.string L) = true := (hG.has L).2 ⟨y, hy, hL⟩
  rw [h2, h3] at hrun
  exact hrun
theorem lookC_no {W : World} {b n : Nat} {D : DataW Value} (hown : W.ownsMap Tryz.prog 9 heldR b n D) {L : List UInt8} (hn : Maps.has D (.string L) = false) (hl : L.length ≤ maxLen) :
    (Instr.lookup 133 (.map (some b)) (.string ⟨L.toArray⟩) true).run Tryz.prog W = .ok (.tuple #[.agg #[.int .i64 0, .slice none 0 0, .int .i64 0], .bool false]) W := by
  obtain ⟨v, ps, hrun, hv⟩ := hown.look_ok (Maps.string_keyed Tryz.underlying9) mapTC (zeroChange W) (zd := .held (.agg #[.int .i64 0, .slice none 0 0, .int .i64 0])) (zp := []) rfl (key_of L hl)
  rw [Maps.atKey_of_not_has hn] at hv
  have h2 : v = .agg #[.int .i64 0, .slice none 0 0, .int .i64 0] := by simpa [heldR] using (congrArg (Option.map Prod.fst) hv)
  rw [h2, hn] at hrun
  exact hrun
theorem gathC_bound {rs : List ChR} (h : ∀ r ∈ rs, -1000000 ≤ r.2.2 ∧ r.2.2 ≤ 1000000) : ∀ i, i ≤ rs.length → ∀ y ∈ gath rowC togC (rs.take i), -(1000000 * (i : Int)) ≤ y.2.2 ∧ y.2.2 ≤ 1000000 * (i : Int)
  | 0, _ => by simp [gath]
  | i + 1, hi => fun y hy => by
    rw [gath_next (row := rowC) (tog := togC) (by omega : i < rs.length)] at hy
    have ih := gathC_bound h i (by omega)
    have hx := h rs[i] (List.getElem_mem (by omega))
    by_cases hh : ∃ z ∈ gath rowC togC (rs.take i), rowC z = rowC rs[i]
    · obtain ⟨z, hz, e⟩ := hh
      rw [gstep_yes hz e] at hy
      obtain ⟨u, hu, rfl⟩ := List.mem_map.1 hy
      have := ih u hu
      split
      · show -(1000000 * ((i + 1 : Nat) : Int)) ≤ u.2.2 + rs[i].2.2 ∧ u.2.2 + rs[i].2.2 ≤ 1000000 * ((i + 1 : Nat) : Int)
        omega
      · omega
    · rw [gstep_no (fun z hz e => hh ⟨z, hz, e⟩)] at hy
      rcases List.mem_append.1 hy with hy | hy
      · have := ih y hy; omega
      · rw [List.mem_singleton] at hy; rw [hy]; omega

set_option maxRecDepth 100000 in
theorem addedC_any (s : Int) (q : Option Addr) (len c : Nat) (n : Int) (t : Int) (p : Option Addr) (len' c' : Nat) (m : Int) (hn : Big n) (hm : Big m) (w : World) :
    Calls Tryz.prog 47 #[.agg #[.int .i64 s, .slice q len c, .int .i64 n], .agg #[.int .i64 t, .slice p len' c', .int .i64 m]] w fun e w' => e = .returned (.agg #[.int .i64 (max s t), .slice q len c, .int .i64 (n + m)]) ∧ Below w.heap.size w w' := by
  obtain ⟨hn1, hn2⟩ := hn
  obtain ⟨hm1, hm2⟩ := hm
  go_enter Tryz.func47, Tryz.ntmps47
  go_wp2
  refine bodyPost_ret (v := .agg #[.int .i64 (max s t), .slice q len c, .int .i64 (n + m)]) (by simp [results, Tryz.results47, go_sem]) rfl ⟨rfl, ?_⟩
  exact (((Below.refl _ _).alloc (Nat.le_refl _) _).alloc (by simp) _).alloc (by simp; omega) _
theorem rowOfC_any (t : Int) (q : Option Addr) (len c : Nat) (n : Int) (w : World) : Calls Tryz.prog 50 #[.agg #[.int .i64 t, .slice q len c, .int .i64 n]] w fun e w' => e = .returned (.slice q len c) ∧ Below w.heap.size w w' := by
  go_enter Tryz.func50, Tryz.ntmps50
  go_wp2
  go_ret
  exact ⟨rfl, (Below.refl _ _).alloc (Nat.le_refl _) _⟩
end Go.Proofs.YthoimepdioeckaaGreatDoor

/-!
  bag's gathered at items: what has the same row put together, in a map by the rows' texts; then sorted by rows; as a contract.
-/
namespace Go.Proofs.YthoimepdioeckaaGreatDoor
open Go.RowKit Go.Shelf

def SortedPostC (w : World) (acc : List ChR) (e : Ending) (w' : World) : Prop := ∃ v zs, e = .returned v ∧ List.Perm zs acc ∧ (zs.Pairwise fun (x y : ChR) => 0 ≤ cmpRow y.2.1.2.1 x.2.1.2.1) ∧ w'.ownsRow w.heap.size 40 3 v zs.length (flatC zs) ∧ Below w.heap.size w w'
set_option maxRecDepth 100000 in
theorem sortedC_any (Bm Bx b nn : Nat) (acc : List ChR) (D0 : DataW Value) (hG : GatOf rowC vC acc D0) (hm : acc.length ≤ 1000000) (w : World) (hBm : Bm < w.heap.size) (hBx : Bx < w.heap.size)
    (hcm : w.cell? ⟨Bm, 0, none⟩ = some (.map (some b))) (hbox : w.cell? ⟨Bx, 0, none⟩ = some (.func (.func 50) #[] #[])) (hown : w.ownsMap Tryz.prog 9 heldR b nn D0) (hrow : ∀ y ∈ acc, RowB w.heap.size w y.2.1) :
    Calls Tryz.prog 103 #[.func (.func 146) #[] #[.pointer (some ⟨Bm, 0, none⟩)], .func (.func 105) #[] #[.pointer (some ⟨Bx, 0, none⟩)]] w (SortedPostC w acc) := by
  have hseq : SeqStopsK Fence.wide (3 - 1 - 1) Tryz.prog 146 #[.pointer (some ⟨Bm, 0, none⟩)] encC KeepsWalks (fun ys => ys.Perm acc) (fun _ => True) acc.length w := fun l J Jx W hW hJ _ hY h0 =>
    valuesC1_in (3 - 1 - 1) (by omega) l Bm b nn acc D0 hG J Jx W hJ ((hW.cell (p := ⟨Bm, 0, none⟩) hBm).trans hcm) (ownsMap_below hown hW) hY h0
  have hc := Lib.hid (collectC_in 3 (by omega) 146 #[.pointer (some ⟨Bm, 0, none⟩)] (enters_of Tryz.func146 (by kernel_rfl) rfl) (fun ys => ys.Perm acc) (fun _ => True) acc.length (by unfold maxLen; omega) (by omega) w hseq)
  have HR := Lib.hid hrow
  have HB := Lib.hid hbox
  have HM := Lib.hid hm
  clear hseq hG hown hrow hcm hbox hm
  go_enter Tryz.func103, Tryz.ntmps103
  go_wp2_with fail
  refine hc.out.mono ?_
  rintro e w1 ⟨v, xs, rfl, hp, hrow1, hb⟩
  have hpl := hp.length_eq
  have hs := sort_changes xs w.heap.size Bx v w1 (by have := HM.out; omega) hb.size hBx ((hb.cell (p := ⟨Bx, 0, none⟩) hBx).trans HB.out) (fun y hy => (HR.out y (hp.mem_iff.1 hy)).below hb) hrow1
  have HS := Lib.hid hs
  have HP := Lib.hid hp
  have HL := Lib.hid fun k hk => (hrow1.lt k hk).1
  clear hs hp hrow1 hpl
  go_wp2_with fail
  refine HS.out.mono ?_
  rintro e w2 ⟨rfl, zs, hp2, hpw, hrow2, hg⟩
  have HQ := Lib.hid (And.intro (hp2.trans HP.out) (And.intro hpw hp2.length_eq))
  clear hp2 hpw
  go_wp2_with fail
  go_ret
  exact ⟨_, zs, rfl, HQ.out.1, HQ.out.2.1, by rw [HQ.out.2.2]; exact hrow2, hb.grown hg hb.size HL.out⟩

theorem gathC_from (rs : List ChR) : ∀ y ∈ gath rowC togC rs, ∃ x ∈ rs, y.2.1 = x.2.1 := by
  refine take_ind (P := fun acc => ∀ y ∈ acc, ∃ x ∈ rs, y.2.1 = x.2.1) rs (by simp) fun acc x hx ih y hy => ?_
  by_cases h : ∃ z ∈ acc, rowC z = rowC x
  · obtain ⟨z, hz, e⟩ := h
    rw [gstep_yes hz e] at hy
    obtain ⟨u, hu, rfl⟩ := List.mem_map.1 hy
    split
    · exact ih u hu
    · exact ih u hu
  · rw [gstep_no (fun z hz e => h ⟨z, hz, e⟩)] at hy
    rcases List.mem_append.1 hy with hy | hy
    · exact ih y hy
    · rw [List.mem_singleton] at hy; subst hy; exact ⟨y, hx, rfl⟩
theorem valuesC_any (b : Option Nat) (w : World) : Calls Tryz.prog 104 #[.map b] w fun e w' => e = .returned (.func (.func 146) #[] #[.pointer (some ⟨w.heap.size, 0, none⟩)]) ∧ w' = w.alloc (.cells #[.map b] 133) := by
  go_enter Tryz.func104, Tryz.ntmps104
  go_wp2
  go_ret
  exact ⟨rfl, rfl⟩

theorem rowB_of_chgs {W : World} {p : Option Addr} {rs : List ChR} (h : ChgIn W p rs) : ∀ r ∈ rs, RowB W.heap.size W r.2.1 := fun r hr => by
  obtain ⟨i, hi, rfl⟩ := List.getElem_of_mem hr
  obtain ⟨b, off, _, _, hra⟩ := h (by omega)
  have := (hra i hi).2.2.2
  rw [List.getElem?_eq_getElem hi] at this
  exact RowB.of_ok this.1 this.2

def GathPostC (w : World) (rs : List ChR) (e : Ending) (w' : World) : Prop := ∃ v zs, e = .returned v ∧ List.Perm zs (gath rowC togC rs) ∧ (zs.Pairwise fun (x y : ChR) => 0 ≤ cmpRow y.2.1.2.1 x.2.1.2.1) ∧ w'.ownsRow w.heap.size 40 3 v zs.length (flatC zs) ∧ Below w.heap.size w w'

set_option maxRecDepth 100000 in
set_option maxHeartbeats 4000000 in
theorem gatheredC_any (p : Option Addr) (rs : List ChR) (c : Nat) (hm : rs.length ≤ 100000) (hval : ∀ r ∈ rs, validRow r.2.1.2.1 = true) (hbd : ∀ r ∈ rs, -1000000 ≤ r.2.2 ∧ r.2.2 ≤ 1000000) (w : World) (hX : ChgIn w p rs) (hT : Tab w.heap.size w) :
    Calls Tryz.prog 49 #[.slice p rs.length c, .func (.func 50) #[] #[], .func (.func 47) #[] #[]] w (GathPostC w rs) := by
  have hmm : ∀ W, (Instr.makeMap 133 (some (.int .i64 (rs.length : Int)))).run Tryz.prog W = .ok (.map (some W.heap.size)) (W.alloc (.map #[] 0)) := fun W => by
    simp [Instr.makeMap, run_underlying mapTC, asInt, asIntOf, Result.andThen]
  have hb1 : Below w.heap.size w (w.alloc (.cells #[.func (.func 50) #[] #[]] 75)) := (Below.refl _ _).alloc (Nat.le_refl _) _
  have hk1 := Blk.new w 75 #[.func (.func 50) #[] #[]]
  have hs1 : (w.alloc (.cells #[.func (.func 50) #[] #[]] 75)).heap.size = w.heap.size + 1 := by simp
  have HX := Lib.hid hX
  have HV := Lib.hid hval
  have HBD := Lib.hid hbd
  have HBB := Lib.hid (gathC_bound hbd)
  have HT := Lib.hid hT
  have HRW := Lib.hid (rowB_of_chgs hX)
  clear hX hval hbd hT
  go_enter Tryz.func49, Tryz.ntmps49
  go_wp2_with fail
  obtain ⟨W1, hW1⟩ : ∃ W1, w.alloc (.cells #[.func (.func 50) #[] #[]] 75) = W1 := ⟨_, rfl⟩
  rw [hW1] at hb1 hk1 hs1 ⊢
  have hown0 : (W1.alloc (.map #[] 0)).ownsMap Tryz.prog 9 heldR (w.heap.size + 1) 0 (.map []) := by
    have := World.ownsMap_made (H := Value) W1 Tryz.prog 9 heldR
    rw [hs1] at this
    exact this
  have hB0 : Below (w.heap.size + 1) W1 (W1.alloc (.map #[] 0)) := (Below.refl _ _).alloc (by omega) _
  have HK1 := Lib.hid hk1
  have HB1 := Lib.hid hb1
  have HS1 := Lib.hid hs1
  have HTX := Lib.hid fun (q : Option Addr) (xs : List Val) (qc : Nat) W (hX : ValsIn W q xs) (hT : Tab W.heap.size W) => rowText_any q xs qc W hX hT
  have HRO := Lib.hid rowOfC_any
  have HAD := Lib.hid addedC_any
  clear hW1 hk1 hb1 hs1 hmm
  go_loopw [18] (fun t wr => ∃ (i : Nat) (D : DataW Value), t = .int .i64 i ∧ i ≤ rs.length ∧ wr.ownsMap Tryz.prog 9 heldR (w.heap.size + 1) i D ∧ Hid (GatOf rowC vC (gath rowC togC (rs.take i)) D) ∧ Below (w.heap.size + 1) W1 wr) (fun t _ => rs.length - (RowKit.intOf t).toNat)
  case atStart => exact ⟨0, _, rfl, Nat.zero_le _, hown0, GatOf.zero vC, hB0⟩
  case round =>
    clear hown0 hB0
    obtain ⟨i, D, rfl, hi, hown, hG, hB⟩ := hrel
    have hBw : Below w.heap.size w wr := HB1.out.trans (hB.mono (Nat.le_succ _))
    have hsz : w.heap.size + 1 < wr.heap.size := hown.lt
    by_cases hlt : i < rs.length
    · obtain ⟨b, off, rfl, hbl, hra⟩ := HX.out (by omega)
      obtain ⟨c0, c1, c2, hok, hzr⟩ := (hra.belowV hBw hbl) i hlt
      have hi0 : (0 : Int) ≤ (i : Int) := by omega
      have hi1 : (i : Int) < (rs.length : Int) := by omega
      have hgi : rs[i]?.getD cr0 = rs[i] := by rw [List.getElem?_eq_getElem hlt]; rfl
      have hmem : rs[i] ∈ rs := List.getElem_mem hlt
      have hvx := HV.out _ hmem
      have hbx := HBD.out _ hmem
      have hnx := gath_next (row := rowC) (tog := togC) hlt
      have htidy := hown.tidy (Maps.string_keyed Tryz.underlying9)
      have hism := hown.isMap
      have hcase : (∃ y ∈ gath rowC togC (rs.take i), rowC y = rowC rs[i]) ∨ Maps.has D (.string (textOf (rowC rs[i]))) = false := by
        cases hh : Maps.has D (.string (textOf (rowC rs[i]))) with
        | false => exact .inr rfl
        | true =>
          obtain ⟨y, hy, e⟩ := (hG.out.has _).1 hh
          exact .inl ⟨y, hy, text_inj (hG.out.valid y hy) hvx e⟩
      rw [hgi] at c0 c1 c2 hok hzr
      generalize rs[i] = x at *
      clear hgi hmem hra hzr
      have hLl : (textOf (rowC x)).length ≤ maxLen := by have := textOf_len (rowC x); unfold maxLen; omega
      have hkey := key_of _ hLl
      have HLL := Lib.hid hLl
      have HOK := Lib.hid hok
      clear hok hLl
      have hown1 := hown.alloc (.cells #[.int .i64 x.1, .slice x.2.1.1 x.2.1.2.1.length x.2.1.2.2, .int .i64 x.2.2] 40)
      have hB1' : Below (w.heap.size + 1) W1 (wr.alloc (.cells #[.int .i64 x.1, .slice x.2.1.1 x.2.1.2.1.length x.2.1.2.2, .int .i64 x.2.2] 40)) := hB.alloc (by omega) _
      have hbk := Blk.new wr 40 #[.int .i64 x.1, .slice x.2.1.1 x.2.1.2.1.length x.2.1.2.2, .int .i64 x.2.2]
      have hs1 : (wr.alloc (.cells #[.int .i64 x.1, .slice x.2.1.1 x.2.1.2.1.length x.2.1.2.2, .int .i64 x.2.2] 40)).heap.size = wr.heap.size + 1 := by simp
      have hfn := (hB1'.cell (p := ⟨w.heap.size, 0, none⟩) (Nat.lt_succ_self _)).trans (HK1.out.cell 0)
      simp only [List.getElem?_toArray, List.getElem?_cons_zero] at hfn
      rcases hcase with ⟨y, hy, e⟩ | hno
      · have hGn := hG.out.old (tog := togC) togC_row htidy hism hy e
        rw [← hnx] at hGn
        have hyb := HBB.out i (by omega) y hy
        have HLK := Lib.hid fun (W : World) (h : W.ownsMap Tryz.prog 9 heldR (w.heap.size + 1) i D) => lookC_yes h hG.out hy (by rw [e] : textOf (rowC y) = textOf (rowC x)) HLL.out
        clear hnx htidy hism e hG hy
        obtain ⟨xt, ⟨xq, xs, xc⟩, n⟩ := x
        obtain ⟨yt, ⟨yq, ys, yc⟩, m⟩ := y
        dsimp only [vC, togC, rowC, rowv] at *
        have htx := fun W (h : Below wr.heap.size wr W) => HTX.out xq xs xc W (HOK.out.2.belowV h) (HT.out.up (hBw.trans (h.mono hBw.size)) (Nat.le_trans hBw.size h.size))
        generalize textOf xs = L at *
        have HTQ := Lib.hid htx
        have HGN := Lib.hid hGn
        have hbn : Big m ∧ Big n := by unfold Big; omega
        have HBN := Lib.hid hbn
        clear htx hGn hyb hbx hvx hbn
        go_wp2_with fail
        refine (HRO.out xt xq xs.length xc n _).mono ?_
        rintro e w2 ⟨rfl, hb2⟩
        have hbk2 := hbk.belowV hb2 (by omega)
        have hown2 := ownsMap_below hown1 hb2
        have hB2 : Below (w.heap.size + 1) W1 w2 := hB1'.trans (hb2.mono (by omega))
        have hr2 : Below wr.heap.size wr w2 := ((Below.refl _ _).alloc (Nat.le_refl _) _).trans (hb2.mono (by omega))
        clear hb2 hbk hown1 hB1'
        go_wp2_with fail
        refine (HTQ.out _ hr2).mono ?_
        rintro e w3 ⟨rfl, hb3⟩
        have hbk3 := hbk2.belowV hb3 hbk2.lt
        have hown3 := ownsMap_below hown2 hb3
        have hB3 : Below (w.heap.size + 1) W1 w3 := hB2.trans (hb3.mono (by have := hr2.size; omega))
        have hlk := HLK.out w3 hown3
        have hs3 : wr.heap.size < w3.heap.size := hbk3.lt
        have hown4 := hown3.alloc (.cells #[.int .i64 yt, .slice yq ys.length yc, .int .i64 m] 40)
        have hbk4 := hbk3.belowV ((Below.refl _ _).alloc (Nat.le_refl _) (.cells #[.int .i64 yt, .slice yq ys.length yc, .int .i64 m] 40)) hs3
        have hB4 : Below (w.heap.size + 1) W1 (w3.alloc (.cells #[.int .i64 yt, .slice yq ys.length yc, .int .i64 m] 40)) := hB3.alloc (by omega) _
        have y0 := hbk4.cell 0
        have y1 := hbk4.cell 1
        have y2 := hbk4.cell 2
        simp only [List.getElem?_toArray, List.getElem?_cons_zero, List.getElem?_cons_succ] at y0 y1 y2
        have HBK4 := Lib.hid hbk4
        clear hb3 hbk2 hbk3 hown2 hown3 hB2 hB3 hr2 hbk4
        go_wp2_with fail
        refine (HAD.out yt yq ys.length yc m xt xq xs.length xc n HBN.out.1 HBN.out.2 _).mono ?_
        rintro e w5 ⟨rfl, hb5⟩
        have hs4 : (w3.alloc (.cells #[.int .i64 yt, .slice yq ys.length yc, .int .i64 m] 40)).heap.size = w3.heap.size + 1 := by simp
        have hbk5 := HBK4.out.belowV hb5 (by omega)
        have hown5 := ownsMap_below hown4 hb5
        have hB5 : Below (w.heap.size + 1) W1 w5 := hB4.trans (hb5.mono (by omega))
        have z0 := hbk5.cell 0
        have z1 := hbk5.cell 1
        have z2 := hbk5.cell 2
        have g0 : w5.frozen? ⟨wr.heap.size, 0, none⟩ = false := by simp [World.frozen?, show w5.heap[wr.heap.size]? = _ from hbk5]
        have g1 : w5.frozen? ⟨wr.heap.size, 1, none⟩ = false := by simp [World.frozen?, show w5.heap[wr.heap.size]? = _ from hbk5]
        have g2 : w5.frozen? ⟨wr.heap.size, 2, none⟩ = false := by simp [World.frozen?, show w5.heap[wr.heap.size]? = _ from hbk5]
        simp only [List.getElem?_toArray, List.getElem?_cons_zero, List.getElem?_cons_succ] at z0 z1 z2
        have hown6 := ((hown5.setCell (a := ⟨wr.heap.size, 0, none⟩) (by show w.heap.size + 1 ≠ wr.heap.size; omega) (.int .i64 (max yt xt))).setCell (a := ⟨wr.heap.size, 1, none⟩) (by show w.heap.size + 1 ≠ wr.heap.size; omega) (.slice yq ys.length yc)).setCell (a := ⟨wr.heap.size, 2, none⟩) (by show w.heap.size + 1 ≠ wr.heap.size; omega) (.int .i64 (m + n))
        have hB6 : Below (w.heap.size + 1) W1 (((w5.setCell ⟨wr.heap.size, 0, none⟩ (.int .i64 (max yt xt))).setCell ⟨wr.heap.size, 1, none⟩ (.slice yq ys.length yc)).setCell ⟨wr.heap.size, 2, none⟩ (.int .i64 (m + n))) := ((hB5.setCell (p := ⟨wr.heap.size, 0, none⟩) (by show w.heap.size + 1 ≤ wr.heap.size; omega) _).setCell (p := ⟨wr.heap.size, 1, none⟩) (by show w.heap.size + 1 ≤ wr.heap.size; omega) _).setCell (p := ⟨wr.heap.size, 2, none⟩) (by show w.heap.size + 1 ≤ wr.heap.size; omega) _
        clear hb5 hbk5 hown5 hown4 hB4 hB5 hs4 y0 y1 y2
        have hval : heldR (.agg #[.int .i64 (max yt xt), .slice yq ys.length yc, .int .i64 (m + n)]) = some (.held (.agg #[.int .i64 (max yt xt), .slice yq ys.length yc, .int .i64 (m + n)]), []) := rfl
        go_wp2_with (at_mapUpdate; refine wpList_mapUpdate_own _ rfl _ _ _ 133 rfl 9 40 (Maps.string_keyed Tryz.underlying9) mapTC _ (w.heap.size + 1) i D rfl hown6 (by unfold maxLen; omega) _ _ _ rfl rfl hkey _ [] hval ?_; intro w7 hown7 hgrow7; have hB7 : Below (w.heap.size + 1) W1 w7 := hB6.grown hgrow7 (by have := hown6.lt; omega) (fun k e => by simp at e; omega))
        go_roundw
        case rel => exact ⟨i + 1, _, by go_num, by omega, hown7, HGN.out, hB7⟩
        case measure => simp [RowKit.intOf]; omega
      · have hGn := hG.out.new (tog := togC) htidy hism hvx hno
        rw [← hnx] at hGn
        have HLK := Lib.hid fun (W : World) (h : W.ownsMap Tryz.prog 9 heldR (w.heap.size + 1) i D) => lookC_no h hno HLL.out
        clear hnx htidy hism hno hG hbx hvx
        obtain ⟨xt, ⟨xq, xs, xc⟩, n⟩ := x
        dsimp only [vC, rowC, rowv] at *
        have htx := fun W (h : Below wr.heap.size wr W) => HTX.out xq xs xc W (HOK.out.2.belowV h) (HT.out.up (hBw.trans (h.mono hBw.size)) (Nat.le_trans hBw.size h.size))
        generalize textOf xs = L at *
        have HTQ := Lib.hid htx
        have HGN := Lib.hid hGn
        clear htx hGn
        go_wp2_with fail
        refine (HRO.out xt xq xs.length xc n _).mono ?_
        rintro e w2 ⟨rfl, hb2⟩
        have hbk2 := hbk.belowV hb2 (by omega)
        have hown2 := ownsMap_below hown1 hb2
        have hB2 : Below (w.heap.size + 1) W1 w2 := hB1'.trans (hb2.mono (by omega))
        have hr2 : Below wr.heap.size wr w2 := ((Below.refl _ _).alloc (Nat.le_refl _) _).trans (hb2.mono (by omega))
        clear hb2 hbk hown1 hB1'
        go_wp2_with fail
        refine (HTQ.out _ hr2).mono ?_
        rintro e w3 ⟨rfl, hb3⟩
        have hbk3 := hbk2.belowV hb3 hbk2.lt
        have hown3 := ownsMap_below hown2 hb3
        have hB3 : Below (w.heap.size + 1) W1 w3 := hB2.trans (hb3.mono (by have := hr2.size; omega))
        have hlk := HLK.out w3 hown3
        have hs3 : wr.heap.size < w3.heap.size := hbk3.lt
        have hown4 := hown3.alloc (.cells #[.int .i64 0, .slice none 0 0, .int .i64 0] 40)
        have hbk4 := hbk3.belowV ((Below.refl _ _).alloc (Nat.le_refl _) (.cells #[.int .i64 0, .slice none 0 0, .int .i64 0] 40)) hs3
        have hB4 : Below (w.heap.size + 1) W1 (w3.alloc (.cells #[.int .i64 0, .slice none 0 0, .int .i64 0] 40)) := hB3.alloc (by omega) _
        have y0 := hbk4.cell 0
        have y1 := hbk4.cell 1
        have y2 := hbk4.cell 2
        simp only [List.getElem?_toArray, List.getElem?_cons_zero, List.getElem?_cons_succ] at y0 y1 y2
        clear hb3 hbk2 hbk3 hown2 hown3 hB2 hB3 hr2 hbk4
        have hval : heldR (.agg #[.int .i64 xt, .slice xq xs.length xc, .int .i64 n]) = some (.held (.agg #[.int .i64 xt, .slice xq xs.length xc, .int .i64 n]), []) := rfl
        go_wp2_with (at_mapUpdate; refine wpList_mapUpdate_own _ rfl _ _ _ 133 rfl 9 40 (Maps.string_keyed Tryz.underlying9) mapTC _ (w.heap.size + 1) i D rfl hown4 (by unfold maxLen; omega) _ _ _ rfl rfl hkey _ [] hval ?_; intro w7 hown7 hgrow7; have hB7 : Below (w.heap.size + 1) W1 w7 := hB4.grown hgrow7 (by have := hown4.lt; omega) (fun k e => by simp at e; omega))
        go_roundw
        case rel => exact ⟨i + 1, _, by go_num, by omega, hown7, HGN.out, hB7⟩
        case measure => simp [RowKit.intOf]; omega
    · have hge : rs.length ≤ i := by omega
      have hie : i = rs.length := by omega
      have HGE := Lib.hid (show GatOf rowC vC (gath rowC togC rs) D by have := hG.out; rw [hie, List.take_length] at this; exact this)
      have hfn := (hB.cell (p := ⟨w.heap.size, 0, none⟩) (Nat.lt_succ_self _)).trans (HK1.out.cell 0)
      simp only [List.getElem?_toArray, List.getElem?_cons_zero] at hfn
      have hlen := gath_len (row := rowC) (tog := togC) rs
      have hrb : ∀ y ∈ gath rowC togC rs, RowB w.heap.size wr y.2.1 := fun y hy => by
        obtain ⟨x, hx, e⟩ := gathC_from rs y hy
        rw [e]
        exact (HRW.out x hx).below hBw
      have HRB := Lib.hid hrb
      have HLN := Lib.hid hlen
      have HOW := Lib.hid hown
      have HFN := Lib.hid hfn
      clear hie hG hlen hrb hown hfn
      go_wp2_with fail
      refine (valuesC_any _ _).mono ?_
      rintro e w8 ⟨rfl, rfl⟩
      have hbA : Below wr.heap.size wr (wr.alloc (.cells #[.map (some (w.heap.size + 1))] 133)) := (Below.refl _ _).alloc (Nat.le_refl _) _
      have hsA : (wr.alloc (.cells #[.map (some (w.heap.size + 1))] 133)).heap.size = wr.heap.size + 1 := by simp
      have hso := sortedC_any wr.heap.size w.heap.size (w.heap.size + 1) i (gath rowC togC rs) D HGE.out (by have := HLN.out; omega) (wr.alloc (.cells #[.map (some (w.heap.size + 1))] 133)) (by omega) (by omega) ((Blk.new wr _ _).cell 0) ((hbA.cell (p := ⟨w.heap.size, 0, none⟩) (by show w.heap.size < _; omega)).trans HFN.out) (HOW.out.alloc _) (fun y hy => ((HRB.out y hy).below (hbA.mono hBw.size)).mono (by have := hBw.size; omega))
      have HSO := Lib.hid hso
      have HBA := Lib.hid (hBw.trans (hbA.mono hBw.size))
      have HSZ := HBA.out.size
      clear hso hbA hsA
      go_wp2_with fail
      refine HSO.out.mono ?_
      rintro e w9 ⟨v, zs, rfl, hp, hpw, hrow, hb9⟩
      have HQ := Lib.hid (And.intro hp hpw)
      clear hp hpw
      go_wp2_with fail
      go_ret
      exact ⟨v, zs, rfl, HQ.out.1, HQ.out.2, ownsRow_base hrow HSZ, HBA.out.trans (hb9.mono HSZ)⟩
end Go.Proofs.YthoimepdioeckaaGreatDoor

/-!
  slices.IndexFunc and slices.DeleteFunc at items, with asBag's closure, on a row of the call's own, as contracts.
-/
namespace Go.Proofs.YthoimepdioeckaaGreatDoor
open Go.RowKit Go.Lib

theorem isZeroC_any (r : ChR) (w : World) : Calls Tryz.prog 51 #[nChg r] w (BelowB w (decide (r.2.2 = 0))) := by
  obtain ⟨t, ⟨q, xs, qc⟩, n⟩ := r
  dsimp only [nChg, rowv]
  have e : decide (n = 0) = (n == 0) := rfl
  rw [e]
  clear e
  go_enter Tryz.func51, Tryz.ntmps51
  go_wp2
  go_ret
  exact ⟨rfl, (Below.refl _ _).alloc (Nat.le_refl _) _⟩

def IdxPostC (rs : List ChR) (w : World) (e : Ending) (w' : World) : Prop :=
  ((e = .returned (.int .i64 (-1)) ∧ ∀ k, k < rs.length → (rs[k]?.getD cr0).2.2 ≠ 0) ∨ (∃ k : Nat, k < rs.length ∧ e = .returned (.int .i64 k) ∧ (rs[k]?.getD cr0).2.2 = 0 ∧ ∀ j, j < k → (rs[j]?.getD cr0).2.2 ≠ 0)) ∧ Below w.heap.size w w'

/-- The cells of a row of the call's own, item by item. -/
theorem own_chgs {W : World} {B g n cap : Nat} {rs : List ChR} (hn : n = rs.length) (h : W.ownsRow B 40 3 (.slice (some ⟨g, 0, none⟩) n cap) n (flatC rs)) : ∀ i, i < rs.length →
    W.cell? ⟨g, i * 3, none⟩ = some (.int .i64 (rs[i]?.getD cr0).1) ∧ W.cell? ⟨g, i * 3 + 1, none⟩ = some (rowv (rs[i]?.getD cr0).2.1) ∧ W.cell? ⟨g, i * 3 + 2, none⟩ = some (.int .i64 (rs[i]?.getD cr0).2.2) := fun i hi => by
  obtain ⟨g0, g1, g2⟩ := flatC_get rs i hi
  exact ⟨(h.cellAt (i * 3) (by omega)).trans g0, (h.cellAt (i * 3 + 1) (by omega)).trans g1, (h.cellAt (i * 3 + 2) (by omega)).trans g2⟩
theorem own_addrC {W : World} {B n : Nat} {v : Value} {L : List Value} (hn : 0 < n) (h : W.ownsRow B 40 3 v n L) : ∃ g cap, v = .slice (some ⟨g, 0, none⟩) n cap ∧ B ≤ g ∧ g < W.heap.size ∧ n ≤ cap := by
  rcases h.2 with ⟨_, h0⟩ | ⟨g, cap, cur, rfl, hb, hg, hnc, _⟩
  · omega
  · exact ⟨g, cap, rfl, hb, (Array.getElem?_eq_some_iff.1 hg).1, hnc⟩

set_option maxRecDepth 100000 in
set_option maxHeartbeats 1000000 in
theorem indexFuncC_any (B : Nat) (v : Value) (rs : List ChR) (hm : rs.length ≤ 1000000) (w : World) (hown : w.ownsRow B 40 3 v rs.length (flatC rs)) :
    Calls Tryz.prog 101 #[v, .func (.func 51) #[] #[]] w (IdxPostC rs w) := by
  obtain ⟨p, cap, rfl⟩ := slice_of_owns hown
  have HO := Lib.hid hown
  have HZ := Lib.hid isZeroC_any
  clear hown
  go_enter Tryz.func101, Tryz.ntmps101
  go_wp2_with fail
  go_loopw [8] (fun s wr => ∃ i : Nat, s = .int .i64 i ∧ i ≤ rs.length ∧ Hid (∀ k, k < i → (rs[k]?.getD cr0).2.2 ≠ 0) ∧ Below w.heap.size w wr) (fun s _ => rs.length - (RowKit.intOf s).toNat)
  case atStart => exact ⟨0, rfl, Nat.zero_le _, (fun k hk => absurd hk (Nat.not_lt_zero _)), Below.refl _ _⟩
  case round =>
    obtain ⟨i, rfl, hi, hv, hB⟩ := hrel
    by_cases hlt : i < rs.length
    · obtain ⟨g, cap', he, _, hgl, _⟩ := own_addrC (by omega) HO.out
      simp only [Value.slice.injEq, true_and] at he
      obtain ⟨rfl, rfl⟩ := he
      obtain ⟨c0, c1, c2⟩ := own_chgs rfl HO.out i hlt
      have d0 := (hB.cell (p := ⟨g, i * 3, none⟩) hgl).trans c0
      have d1 := (hB.cell (p := ⟨g, i * 3 + 1, none⟩) hgl).trans c1
      have d2 := (hB.cell (p := ⟨g, i * 3 + 2, none⟩) hgl).trans c2
      have hi0 : (0 : Int) ≤ (i : Int) := by omega
      have hi1 : (i : Int) < (rs.length : Int) := by omega
      have hge : ∀ k, k < i + 1 → k < i ∨ k = i := fun k hk => by omega
      have HGE := Lib.hid hge
      have HE : Hid ((rs[i]?.getD cr0) = (rs[i]?.getD cr0)) := rfl
      obtain ⟨r, hr⟩ : ∃ r, rs[i]?.getD cr0 = r := ⟨_, rfl⟩
      rw [hr] at d0 d1 d2
      have HR := Lib.hid hr
      clear c0 c1 c2 hr hge HE
      obtain ⟨t, ⟨q, xs, qc⟩, n⟩ := r
      dsimp only [rowv] at d0 d1 d2
      have HC := Lib.hid fun W => HZ.out (t, (q, xs, qc), n) W
      by_cases hz : n = 0
      · have hd : decide (n = 0) = true := decide_eq_true hz
        dsimp only [nChg, rowv] at HC
        rw [hd] at HC
        clear hd
        have HZE := Lib.hid hz
        clear hz
        go_wp2_with fail
        refine (HC.out _).mono ?_
        rintro e w3 ⟨rfl, hb3⟩
        go_wp2_with fail
        go_ret
        exact ⟨.inr ⟨i, hlt, rfl, by rw [HR.out]; exact HZE.out, hv.out⟩, hB.trans (hb3.mono hB.size)⟩
      · have hd : decide (n = 0) = false := decide_eq_false hz
        dsimp only [nChg, rowv] at HC
        rw [hd] at HC
        clear hd
        have HZE := Lib.hid hz
        clear hz
        go_wp2_with fail
        refine (HC.out _).mono ?_
        rintro e w3 ⟨rfl, hb3⟩
        go_wp2_with fail
        go_roundw
        case rel => exact ⟨i + 1, by go_num, by omega, (fun k hk => by rcases HGE.out k hk with h | rfl; exact hv.out k h; rw [HR.out]; exact HZE.out), hB.trans (hb3.mono hB.size)⟩
        case measure => simp [RowKit.intOf]; omega
    · have hge : rs.length ≤ i := by omega
      have hie : i = rs.length := by omega
      have HALL := Lib.hid (show ∀ k, k < rs.length → (rs[k]?.getD cr0).2.2 ≠ 0 from hie ▸ hv.out)
      clear hie
      go_wp2_with fail
      go_ret
      exact ⟨.inl ⟨rfl, HALL.out⟩, hB⟩

theorem run_clear_chgs (w : World) (ty : TypeId) (b o n c : Nat) (hn : 0 < n) (hc : ∀ j, j < n * 3 → (w.cell? ⟨b, o + j, none⟩).isSome = true) (hf : ∀ j, j < n * 3 → w.frozen? ⟨b, o + j, none⟩ = false) :
    (Builtin.clear_ #[24] ty #[.slice (some ⟨b, o, none⟩) n c]).run Tryz.prog w = .ok (.tuple #[]) (w.setCells b o (Builtin.zeroCells #[.int .i64 0, .slice none 0 0, .int .i64 0] n).toList) := by
  have hl : (Builtin.zeroCells #[.int .i64 0, .slice none 0 0, .int .i64 0] n).toList.length = n * 3 := by rw [Array.length_toList, size_zeroCells]; rfl
  have hv : ∀ w, (zeroValue 40).run Tryz.prog w = .ok (.agg #[.int .i64 0, .slice none 0 0, .int .i64 0]) w := fun w => by
    obtain ⟨i0, hi, hz0, hz1, hz2⟩ := info_parts infoC
    simp [zeroValue, typeInfo, hi, hz0]
  have hst := run_storeCells_cells (P := Tryz.prog) b o (Builtin.zeroCells #[.int .i64 0, .slice none 0 0, .int .i64 0] n).toList 0 w (fun j hj => by rw [Nat.add_zero]; exact hc j (by omega)) (fun j hj => by rw [Nat.add_zero]; exact hf j (by omega)) (by
    intro v hv'
    simp only [Builtin.zeroCells, Array.toList_map, List.mem_map] at hv'
    obtain ⟨k, _, rfl⟩ := hv'
    have h2 : k % 3 = 0 ∨ k % 3 = 1 ∨ k % 3 = 2 := by omega
    rcases h2 with h2 | h2 | h2 <;> simp [h2] <;> rfl)
  simp only [Nat.add_zero] at hst
  obtain ⟨m, rfl⟩ : ∃ m, n = m + 1 := ⟨n - 1, by omega⟩
  have hcz : (Value.agg #[.int .i64 0, .slice none 0 0, .int .i64 0]).cells = #[.int .i64 0, .slice none 0 0, .int .i64 0] := rfl
  simp [Builtin.clear_, run_underlying Tryz.underlying24, hv, hcz, hst]
def nzC (rs : List ChR) : List ChR := rs.filter fun x => x.2.2 != 0
theorem nzC_all {rs : List ChR} (h : ∀ k, k < rs.length → (rs[k]?.getD cr0).2.2 ≠ 0) : nzC rs = rs := by
  unfold nzC
  rw [List.filter_eq_self]
  intro x hx
  obtain ⟨k, hk, rfl⟩ := List.getElem_of_mem hx
  have := h k hk
  rw [List.getElem?_eq_getElem hk] at this
  simpa using this
theorem nzC_next {rs : List ChR} {i : Nat} (h : i < rs.length) : nzC (rs.take (i + 1)) = nzC (rs.take i) ++ if (rs[i]?.getD cr0).2.2 = 0 then [] else [rs[i]?.getD cr0] := by
  rw [List.take_succ_eq_append_getElem h, List.getElem?_eq_getElem h]
  unfold nzC
  rw [List.filter_append]
  by_cases e : (rs[i]).2.2 = 0 <;> simp [e]
theorem nzC_len (rs : List ChR) : (nzC rs).length ≤ rs.length := List.length_filter_le _ _
theorem flatC_drop (rs : List ChR) (j : Nat) : (flatC rs).drop (j * 3) = flatC (rs.drop j) := by
  induction rs generalizing j with
  | nil => simp [flatC]
  | cons x xs ih =>
    cases j with
    | zero => simp
    | succ j =>
      have := ih j
      rw [show (j + 1) * 3 = j * 3 + 3 by omega]
      simpa [flatC, cellsC] using this
theorem flatC_take (rs : List ChR) (j : Nat) : (flatC rs).take (j * 3) = flatC (rs.take j) := by
  induction rs generalizing j with
  | nil => simp [flatC]
  | cons x xs ih =>
    cases j with
    | zero => simp [flatC]
    | succ j =>
      have := ih j
      rw [show (j + 1) * 3 = j * 3 + 3 by omega]
      simpa [flatC, cellsC] using this
theorem drop_set3 {L : List Value} {i k : Nat} (h : (i + 1) * 3 ≤ k) (a b c : Value) : (((L.set (i * 3) a).set (i * 3 + 1) b).set (i * 3 + 2) c).drop k = L.drop k := by
  rw [List.drop_set_of_lt (by omega), List.drop_set_of_lt (by omega), List.drop_set_of_lt (by omega)]

def DelPostC (B : Nat) (w : World) (rs : List ChR) (e : Ending) (w' : World) : Prop := ∃ v, e = .returned v ∧ w'.ownsRow B 40 3 v (nzC rs).length (flatC (nzC rs)) ∧ Below B w w' ∧ KeepsOthers w w'

set_option maxRecDepth 100000 in
set_option maxHeartbeats 2000000 in
theorem deleteFuncC_any (B : Nat) (v : Value) (rs : List ChR) (hm : rs.length ≤ 1000000) (w : World) (hB : B ≤ w.heap.size) (hown : w.ownsRow B 40 3 v rs.length (flatC rs)) :
    Calls Tryz.prog 48 #[v, .func (.func 51) #[] #[]] w (DelPostC B w rs) := by
  have HI := Lib.hid (indexFuncC_any B v rs hm w hown)
  have HZ := Lib.hid isZeroC_any
  have HO := Lib.hid hown
  obtain ⟨p, cap, rfl⟩ := slice_of_owns hown
  clear hown
  go_enter Tryz.func48, Tryz.ntmps48
  go_wp2_with fail
  refine HI.out.mono ?_
  rintro e w1 ⟨⟨rfl, hall⟩ | ⟨k, hk, rfl, hkz, hkn⟩, hb1⟩
  · have HA := Lib.hid (nzC_all hall)
    clear hall
    go_wp2_with fail
    go_ret
    exact ⟨_, rfl, by rw [HA.out]; exact owns_below HO.out hb1, hb1.mono hB, keepsO_of_below hb1⟩
  · have hk1 : ((k : Int) == -1) = false := beq_eq_false_iff_ne.2 (by omega)
    obtain ⟨g, cap', he, hBg, hgl, hnc⟩ := own_addrC (by omega) HO.out
    simp only [Value.slice.injEq, true_and] at he
    obtain ⟨rfl, rfl⟩ := he
    have hO1 := owns_below HO.out hb1
    have hB1 : Below B w w1 := hb1.mono hB
    have hK1 := keepsO_of_below hb1
    have hstart : nzC (rs.take (k + 1)) = rs.take k := by
      rw [nzC_next hk, if_pos hkz, List.append_nil, nzC_all]
      intro j hj
      rw [List.length_take] at hj
      rw [List.getElem?_take_of_lt (by omega)]
      exact hkn j (by omega)
    have hst2 : (flatC rs).take (k * 3) = flatC (nzC (rs.take (k + 1))) := by rw [hstart, flatC_take]
    have hst3 : (nzC (rs.take (k + 1))).length = k := by rw [hstart, List.length_take]; omega
    have HST := Lib.hid (And.intro hst2 hst3)
    clear hst2 hst3 hstart hkn hkz hb1
    go_wp2_with fail
    go_loopw [5, 6] (fun a b wr => ∃ (i j : Nat) (L : List Value), a = .int .i64 i ∧ b = .int .i64 j ∧ i < j ∧ j ≤ rs.length ∧ Hid (i = (nzC (rs.take j)).length) ∧ wr.ownsRow B 40 3 (.slice (some ⟨g, 0, none⟩) rs.length cap) rs.length L ∧ Hid (L.take (i * 3) = flatC (nzC (rs.take j))) ∧ Hid (L.drop (j * 3) = (flatC rs).drop (j * 3)) ∧ Below B w wr ∧ KeepsOthers w wr)
      (fun _ b _ => rs.length - (RowKit.intOf b).toNat)
    case atStart => exact ⟨k, k + 1, flatC rs, rfl, by go_num, by omega, by omega, HST.out.2.symm, hO1, HST.out.1, rfl, hB1, hK1⟩
    case round =>
      obtain ⟨i, j, L, rfl, rfl, hij, hj, hil, hrow, hLt, hLd, hB2, hKO⟩ := hrel
      clear hO1 hB1 hK1 HST HI
      have hLl : L.length = rs.length * 3 := hrow.1
      have hi0 : (0 : Int) ≤ (i : Int) := by omega
      have hj0 : (0 : Int) ≤ (j : Int) := by omega
      have hi1 : (i : Int) < (rs.length : Int) := by omega
      have hsz := hB2.size
      by_cases hlt : j < rs.length
      · have hj1 : (j : Int) < (rs.length : Int) := by omega
        have hgr : g < wr.heap.size := by omega
        obtain ⟨q0, q1, q2⟩ := flatC_get rs j hlt
        have e0 := (hrow.cellAt (j * 3) (by omega)).trans ((drop_get hLd.out (Nat.le_refl _)).trans q0)
        have e1 := (hrow.cellAt (j * 3 + 1) (by omega)).trans ((drop_get hLd.out (by omega)).trans q1)
        have e2 := (hrow.cellAt (j * 3 + 2) (by omega)).trans ((drop_get hLd.out (by omega)).trans q2)
        obtain ⟨u0, s0⟩ : ∃ u, wr.cell? ⟨g, i * 3, none⟩ = some u := ⟨_, (hrow.cellAt (i * 3) (by omega)).trans (List.getElem?_eq_getElem (by omega))⟩
        obtain ⟨u1, s1⟩ : ∃ u, wr.cell? ⟨g, i * 3 + 1, none⟩ = some u := ⟨_, (hrow.cellAt (i * 3 + 1) (by omega)).trans (List.getElem?_eq_getElem (by omega))⟩
        obtain ⟨u2, s2⟩ : ∃ u, wr.cell? ⟨g, i * 3 + 2, none⟩ = some u := ⟨_, (hrow.cellAt (i * 3 + 2) (by omega)).trans (List.getElem?_eq_getElem (by omega))⟩
        have hnx := nzC_next hlt
        generalize (rs[j]?.getD cr0) = r at e0 e1 e2 hnx
        clear q0 q1 q2
        have hbA : Below wr.heap.size wr (wr.alloc (oChg r)) := (Below.refl _ _).alloc (Nat.le_refl _) _
        have K0 := Blk.new wr 40 #[.int .i64 r.1, rowv r.2.1, .int .i64 r.2.2]
        obtain ⟨t, ⟨q, xs, qc⟩, n⟩ := r
        dsimp only [rowv, oChg] at *
        have HC := Lib.hid fun W => HZ.out (t, (q, xs, qc), n) W
        dsimp only [nChg, rowv] at HC
        have HROW := Lib.hid hrow
        have HNX := Lib.hid hnx
        clear hnx
        have HK0 := Lib.hid K0
        clear K0
        by_cases hz : n = 0
        · have hd : decide (n = 0) = true := decide_eq_true hz
          rw [hd] at HC
          have HN2 := Lib.hid (show nzC (rs.take (j + 1)) = nzC (rs.take j) by rw [HNX.out, if_pos hz, List.append_nil])
          clear hd hz HNX hrow
          have a0 : (wr.alloc (.cells #[.int .i64 t, .slice q xs.length qc, .int .i64 n] 40)).cell? ⟨wr.heap.size, 0, none⟩ = some (.int .i64 t) := HK0.out.cell 0
          have a1 : (wr.alloc (.cells #[.int .i64 t, .slice q xs.length qc, .int .i64 n] 40)).cell? ⟨wr.heap.size, 1, none⟩ = some (.slice q xs.length qc) := HK0.out.cell 1
          have a2 : (wr.alloc (.cells #[.int .i64 t, .slice q xs.length qc, .int .i64 n] 40)).cell? ⟨wr.heap.size, 2, none⟩ = some (.int .i64 n) := HK0.out.cell 2
          go_wp2_with fail
          refine (HC.out _).mono ?_
          rintro e w3 ⟨rfl, hb3⟩
          have hb4 : Below wr.heap.size wr w3 := hbA.trans (hb3.mono hbA.size)
          go_wp2_with fail
          go_roundw
          case rel => exact ⟨i, j + 1, L, rfl, by go_num, by omega, by omega, by rw [HN2.out]; exact hil.out, owns_below HROW.out hb4, by rw [HN2.out]; exact hLt.out, by have := congrArg (List.drop 3) hLd.out; rw [List.drop_drop, List.drop_drop] at this; rw [show (j + 1) * 3 = j * 3 + 3 by omega]; exact this, hB2.trans (hb4.mono (by omega)), hKO.trans (keepsO_of_below hb4)⟩
          case measure => simp [RowKit.intOf]; omega
        · have hd : decide (n = 0) = false := decide_eq_false hz
          rw [hd] at HC
          have HN2 := Lib.hid (show nzC (rs.take (j + 1)) = nzC (rs.take j) ++ [(t, (q, xs, qc), n)] by rw [HNX.out, if_neg hz])
          clear hd hz HNX hrow
          go_wp2_with fail
          refine (HC.out _).mono ?_
          rintro e w3 ⟨rfl, hb3⟩
          have hb4 : Below wr.heap.size wr w3 := hbA.trans (hb3.mono hbA.size)
          have hr3 := owns_below HROW.out hb4
          have K3 := HK0.out.belowV hb3 (by simp)
          have a0 : w3.cell? ⟨wr.heap.size, 0, none⟩ = some (.int .i64 t) := K3.cell 0
          have a1 : w3.cell? ⟨wr.heap.size, 1, none⟩ = some (.slice q xs.length qc) := K3.cell 1
          have a2 : w3.cell? ⟨wr.heap.size, 2, none⟩ = some (.int .i64 n) := K3.cell 2
          have t0 := (hb4.cell (p := ⟨g, i * 3, none⟩) hgr).trans s0
          have t1 := (hb4.cell (p := ⟨g, i * 3 + 1, none⟩) hgr).trans s1
          have t2 := (hb4.cell (p := ⟨g, i * 3 + 2, none⟩) hgr).trans s2
          have f0 := hr3.frozenAt (i * 3)
          have f1 := hr3.frozenAt (i * 3 + 1)
          have f2 := hr3.frozenAt (i * 3 + 2)
          have hq := (((hr3.stored (i * 3) (.int .i64 t)).1.stored (i * 3 + 1) (.slice q xs.length qc)).1.stored (i * 3 + 2) (.int .i64 n)).1
          have hB5 : Below B w (((w3.setCell ⟨g, i * 3, none⟩ (.int .i64 t)).setCell ⟨g, i * 3 + 1, none⟩ (.slice q xs.length qc)).setCell ⟨g, i * 3 + 2, none⟩ (.int .i64 n)) := (((hB2.trans (hb4.mono (by omega))).setCell hBg _).setCell hBg _).setCell hBg _
          have HT := Lib.hid (show (((L.set (i * 3) (.int .i64 t)).set (i * 3 + 1) (.slice q xs.length qc)).set (i * 3 + 2) (.int .i64 n)).take ((i + 1) * 3) = flatC (nzC (rs.take (j + 1))) by
            rw [take_set3c hLl (by omega), hLt.out, HN2.out, flatC_app]; rfl)
          have HD := Lib.hid (show (((L.set (i * 3) (.int .i64 t)).set (i * 3 + 1) (.slice q xs.length qc)).set (i * 3 + 2) (.int .i64 n)).drop ((j + 1) * 3) = (flatC rs).drop ((j + 1) * 3) by
            rw [drop_set3 (by omega)]
            have := congrArg (List.drop 3) hLd.out
            rw [List.drop_drop, List.drop_drop] at this
            rw [show (j + 1) * 3 = j * 3 + 3 by omega]; exact this)
          have HLN := Lib.hid (show i + 1 = (nzC (rs.take (j + 1))).length by rw [HN2.out, List.length_append, ← hil.out]; rfl)
          have HQ := Lib.hid hq
          have HB5 := Lib.hid hB5
          clear hq hB5 hr3 K3 hLl e0 e1 e2 s0 s1 s2
          go_wp2_with fail
          go_roundw
          case rel => exact ⟨i + 1, j + 1, _, by go_num, by go_num, by omega, by omega, HLN.out, HQ.out, HT.out, HD.out, HB5.out, (hKO.trans (keepsO_of_below hb4)).trans (((KeepsOthers.setCell _ _ _).trans (KeepsOthers.setCell _ _ _)).trans (KeepsOthers.setCell _ _ _))⟩
          case measure => simp [RowKit.intOf]; omega
      · have hje : j = rs.length := by omega
        have hge : (rs.length : Int) ≤ (j : Int) := by omega
        have hnrs : nzC (rs.take j) = nzC rs := by rw [hje, List.take_length]
        have hcl : ∀ ty, (Builtin.clear_ #[24] ty #[.slice (some ⟨g, i * 3, none⟩) (rs.length - i) (cap - i)]).run Tryz.prog wr = .ok (.tuple #[]) (wr.setCells g (i * 3) (Builtin.zeroCells #[.int .i64 0, .slice none 0 0, .int .i64 0] (rs.length - i)).toList) := fun ty =>
          run_clear_chgs wr ty g (i * 3) (rs.length - i) (cap - i) (by omega) (fun t ht => by rw [hrow.cellAt (i * 3 + t) (by omega), List.getElem?_eq_getElem (by omega)]; rfl) (fun t ht => hrow.frozenAt _)
        obtain ⟨L', o1, o2⟩ := own_setCells (Builtin.zeroCells #[.int .i64 0, .slice none 0 0, .int .i64 0] (rs.length - i)).toList (i * 3) L wr hrow
        have o3 := own_short o1 (Nat.le_of_lt (show i < rs.length by omega))
        rw [o2, hLt.out, hnrs] at o3
        have hl := hil.out
        rw [hnrs] at hl
        have hbS : Below B w (wr.setCells g (i * 3) (Builtin.zeroCells #[.int .i64 0, .slice none 0 0, .int .i64 0] (rs.length - i)).toList) := below_setCells hBg _ _ _ hB2
        have HF := Lib.hid (And.intro o3 (And.intro hbS (hKO.trans (keepsO_setCells g (Builtin.zeroCells #[.int .i64 0, .slice none 0 0, .int .i64 0] (rs.length - i)).toList (i * 3) wr))))
        have HL := Lib.hid hl
        have hci : ¬ cap = i := by omega
        have hic : (i : Int) ≤ (cap : Int) := by omega
        have hil2 : (i : Int) ≤ (rs.length : Int) := by omega
        have hcz : ¬ cap = 0 := by omega
        clear o1 o2 o3 hl hbS hrow hje hnrs
        go_wp2_with fail
        go_ret
        exact ⟨_, rfl, by rw [← HL.out]; exact HF.out.1, HF.out.2⟩
end Go.Proofs.YthoimepdioeckaaGreatDoor

/-!
  What netted changes come to: plain facts.
-/
namespace Go.Proofs.YthoimepdioeckaaGreatDoor
open Go.RowKit

/-! ### Put together as items -/
theorem gstep_strip (acc : List ChR) (x : ChR) : (gstep rowC togC acc x).map chIR = gstep rowI togI (acc.map chIR) (chIR x) := by
  have e1 : (acc.map chIR).any (fun y => decide (rowI y = rowI (chIR x))) = acc.any (fun y => decide (rowC y = rowC x)) := by rw [List.any_map]; rfl
  unfold gstep
  rw [e1]
  split
  · rw [List.map_map, List.map_map]
    refine List.map_congr_left fun y _ => ?_
    show chIR (if rowC y = rowC x then togC y x else y) = if rowI (chIR y) = rowI (chIR x) then togI (chIR y) (chIR x) else chIR y
    by_cases h : rowC y = rowC x
    · rw [if_pos h, if_pos (show rowI (chIR y) = rowI (chIR x) from h)]; rfl
    · rw [if_neg h, if_neg (show ¬ rowI (chIR y) = rowI (chIR x) from h)]
  · rw [List.map_append]; rfl
theorem gath_strip (rs : List ChR) : (gath rowC togC rs).map chIR = gath rowI togI (rs.map chIR) := by
  unfold gath
  have : ∀ (l acc : List ChR), (l.foldl (gstep rowC togC) acc).map chIR = (l.map chIR).foldl (gstep rowI togI) (acc.map chIR) := by
    intro l
    induction l with
    | nil => intro acc; rfl
    | cons x l ih => intro acc; rw [List.foldl_cons, ih, gstep_strip]; rfl
  exact this rs []
theorem nzC_its (rs : List ChR) : its (cvals (nzC rs)) = nz (its (cvals rs)) := by
  unfold its cvals nzC nz
  rw [List.map_map, List.map_map, List.filter_map]
  rfl
theorem net_its {rs zs : List ChR} (hv : ∀ r ∈ rs, validRow (rowC r) = true) (hp : zs.Perm (gath rowC togC rs)) (hs : zs.Pairwise fun x y => 0 ≤ cmpRow y.2.1.2.1 x.2.1.2.1) : its (cvals (nzC zs)) = after [] (its (cvals rs)) := by
  have h1 : (zs.map chIR).Perm (gath rowI togI (rs.map chIR)) := by rw [← gath_strip]; exact hp.map chIR
  have h2 : (zs.map chIR).Pairwise fun x y => 0 ≤ cmpRow y.1.2.1 x.1.2.1 := by rw [List.pairwise_map]; exact hs
  have h3 := gathI_bag (rs := rs.map chIR) (fun r hr => by obtain ⟨x, hx, rfl⟩ := List.mem_map.1 hr; exact hv x hx) h1 h2
  rw [chIR_vals, chIR_vals] at h3
  rw [nzC_its, h3]

/-! ### The last of a row's times -/
def lstep (r : List Val) (s : Int × Bool) (c : Ch) : Int × Bool := if cmpRow c.2.1 r = 0 ∧ (s.2 = true ∨ s.1 < c.1) then (c.1, false) else s
def lastF (l : List Ch) (r : List Val) : Int × Bool := l.foldl (lstep r) (0, true)
theorem lastF_next {l : List Ch} {r : List Val} {i : Nat} (h : i < l.length) : lastF (l.take (i + 1)) r = lstep r (lastF (l.take i) r) (l[i]?.getD ch0) := by
  rw [List.take_succ_eq_append_getElem h, List.getElem?_eq_getElem h]; unfold lastF; rw [List.foldl_append]; rfl
theorem lastF_none {l : List Ch} {r : List Val} (h : ∀ c ∈ l, cmpRow c.2.1 r ≠ 0) : lastF l r = (0, true) := by
  have : ∀ (l : List Ch) (s : Int × Bool), (∀ c ∈ l, cmpRow c.2.1 r ≠ 0) → l.foldl (lstep r) s = s := by
    intro l
    induction l with
    | nil => intro s _; rfl
    | cons c l ih =>
      intro s h
      rw [List.foldl_cons, show lstep r s c = s by unfold lstep; rw [if_neg fun hh => h c (by simp) hh.1]]
      exact ih s fun d hd => h d (by simp [hd])
  exact this l _ h
theorem lastF_inT {l : List Ch} {r : List Val} (h : ∀ c ∈ l, inT c.1) : inT (lastF l r).1 := by
  have : ∀ (l : List Ch) (s : Int × Bool), (∀ c ∈ l, inT c.1) → inT s.1 → inT (l.foldl (lstep r) s).1 := by
    intro l
    induction l with
    | nil => intro s _ h; exact h
    | cons c l ih =>
      intro s h hs
      rw [List.foldl_cons]
      refine ih _ (fun d hd => h d (by simp [hd])) ?_
      unfold lstep
      split
      · exact h c (by simp)
      · exact hs
  exact this l _ h (by unfold inT; decide)
theorem gath_last {rs : List ChR} (hv : ∀ r ∈ rs, validRow (rowC r) = true) : ∀ i, i ≤ rs.length →
    (∀ y ∈ gath rowC togC (rs.take i), lastF (cvals (rs.take i)) (rowC y) = (y.1, false)) ∧ (∀ x ∈ rs.take i, ∃ y ∈ gath rowC togC (rs.take i), rowC y = rowC x)
  | 0, _ => by simp [gath]
  | i + 1, hi => by
    obtain ⟨ih, ihc⟩ := gath_last hv i (by omega)
    have hlt : i < rs.length := by omega
    have hvx := hv rs[i] (List.getElem_mem hlt)
    have hvy : ∀ y ∈ gath rowC togC (rs.take i), validRow (rowC y) = true := fun y hy => by
      obtain ⟨x, hx, e⟩ := gath_rows (row := rowC) (tog := togC) (fun _ _ => rfl) (rs.take i) y hy
      rw [e]; exact hv x (List.mem_of_mem_take hx)
    have hnx : ∀ q, lastF (cvals (rs.take (i + 1))) q = lstep q (lastF (cvals (rs.take i)) q) (chv rs[i]) := fun q => by
      have := lastF_next (l := cvals rs) (r := q) (i := i) (by rw [cvals_len]; exact hlt)
      rw [cvals_get, List.getElem?_eq_getElem hlt] at this
      unfold cvals at this ⊢
      rw [List.map_take, List.map_take]
      exact this
    have hg := gath_next (row := rowC) (tog := togC) hlt
    have htk : ∀ x ∈ rs.take (i + 1), x ∈ rs.take i ∨ x = rs[i] := fun x hx => by
      rw [List.take_succ_eq_append_getElem hlt] at hx
      rcases List.mem_append.1 hx with h | h
      · exact .inl h
      · exact .inr (List.mem_singleton.1 h)
    rw [hg]
    generalize rs[i] = x at hvx hnx htk
    clear hg
    by_cases hh : ∃ z ∈ gath rowC togC (rs.take i), rowC z = rowC x
    · obtain ⟨z, hz, e⟩ := hh
      rw [gstep_yes hz e]
      refine ⟨fun y hy => ?_, fun u hu => ?_⟩
      · obtain ⟨v, hvm, rfl⟩ := List.mem_map.1 hy
        have hl := ih v hvm
        by_cases e2 : rowC v = rowC x
        · rw [if_pos e2]
          show lastF _ (rowC v) = (max v.1 x.1, false)
          rw [hnx, hl]
          unfold lstep
          have e3 : cmpRow (chv x).2.1 (rowC v) = 0 := by
            show cmpRow (rowC x) (rowC v) = 0
            rw [e2]; exact cmpRow_ok.refl _
          by_cases hlt2 : v.1 < x.1
          · rw [if_pos ⟨e3, .inr hlt2⟩]
            show (x.1, false) = (max v.1 x.1, false)
            rw [show max v.1 x.1 = x.1 by omega]
          · rw [if_neg (fun h => by rcases h.2 with h | h; exact absurd h (by simp); exact hlt2 h), show max v.1 x.1 = v.1 by omega]
        · rw [if_neg e2, hnx, hl]
          unfold lstep
          rw [if_neg (fun h => e2 (row_eq hvx (hvy v hvm) h.1).symm)]
      · rcases htk u hu with h | rfl
        · obtain ⟨y, hy, e3⟩ := ihc u h
          refine ⟨_, List.mem_map_of_mem hy, ?_⟩
          split
          · exact e3
          · exact e3
        · refine ⟨_, List.mem_map_of_mem hz, ?_⟩
          split
          · exact e
          · exact e
    · have hn : ∀ y ∈ gath rowC togC (rs.take i), rowC y ≠ rowC x := fun y hy e => hh ⟨y, hy, e⟩
      rw [gstep_no hn]
      refine ⟨fun y hy => ?_, fun u hu => ?_⟩
      · rcases List.mem_append.1 hy with hy | hy
        · rw [hnx, ih y hy]
          unfold lstep
          rw [if_neg (fun h => hn y hy (row_eq hvx (hvy y hy) h.1).symm)]
        · rw [List.mem_singleton] at hy
          subst hy
          rw [hnx, lastF_none]
          · unfold lstep
            rw [if_pos ⟨cmpRow_ok.refl _, .inl rfl⟩]
            rfl
          · intro c hc h
            obtain ⟨u, hu, rfl⟩ := List.mem_map.1 hc
            obtain ⟨v, hvm, e⟩ := ihc u hu
            have : validRow (rowC u) = true := hv u (List.mem_of_mem_take hu)
            exact hn v hvm (e.trans (row_eq this hvx h))
      · rcases htk u hu with h | rfl
        · obtain ⟨v, hvm, e⟩ := ihc u h
          exact ⟨v, List.mem_append_left _ hvm, e⟩
        · exact ⟨u, by simp, rfl⟩

/-! ### What Netted answers -/
def stampL (l : List Ch) (A : List It) : List Ch := A.map fun x => ((lastF l x.1).1, x.1, x.2)
theorem stampL_its (l : List Ch) (A : List It) : its (stampL l A) = A := by
  unfold its stampL; rw [List.map_map]; exact List.map_id A
theorem net_vals {rs zs : List ChR} (hv : ∀ r ∈ rs, validRow (rowC r) = true) (hp : zs.Perm (gath rowC togC rs)) (hs : zs.Pairwise fun x y => 0 ≤ cmpRow y.2.1.2.1 x.2.1.2.1) : cvals (nzC zs) = stampL (cvals rs) (after [] (its (cvals rs))) := by
  rw [← net_its hv hp hs]
  have ht : ∀ c ∈ cvals (nzC zs), c.1 = (lastF (cvals rs) c.2.1).1 := fun c hc => by
    obtain ⟨z, hz, rfl⟩ := List.mem_map.1 hc
    have h1 := (gath_last hv rs.length (Nat.le_refl _)).1 z (by rw [List.take_length]; exact hp.mem_iff.1 (List.mem_filter.1 hz).1)
    rw [List.take_length] at h1
    show z.1 = (lastF (cvals rs) (rowC z)).1
    rw [h1]
  generalize cvals (nzC zs) = m at ht
  generalize cvals rs = l at ht
  unfold stampL its
  rw [List.map_map]
  conv => lhs; rw [← List.map_id m]
  refine List.map_congr_left fun c hc => ?_
  show c = ((lastF l c.2.1).1, c.2.1, c.2.2)
  rw [← ht c hc]
theorem stampL_valid {l : List Ch} {A : List It} (hl : validCs l = true) (hA : Asc A) : validCs (stampL l A) = validBag A := by
  have hT : ∀ r, inT (lastF l r).1 := fun r => lastF_inT fun c hc => (okC_is ((validCs_iff.1 hl).2 c hc)).1
  rw [Bool.eq_iff_iff, validCs_iff, validBag_iff]
  constructor
  · rintro ⟨h1, h2⟩
    refine ⟨by unfold stampL at h1; rwa [List.length_map] at h1, fun x hx => ?_, hA.2⟩
    have h3 := okC_is (h2 _ (List.mem_map_of_mem hx))
    exact itOK_iff.2 ⟨(hA.1 x hx).1, h3.2.2⟩
  · rintro ⟨h1, h2, _⟩
    refine ⟨by unfold stampL; rwa [List.length_map], fun c hc => ?_⟩
    obtain ⟨x, hx, rfl⟩ := List.mem_map.1 hc
    have := itOK_iff.1 (h2 x hx)
    unfold okC chgOK
    rw [decide_eq_true (hT x.1), this.1, decide_eq_true this.2]; rfl
def netErr (l : List Ch) : Int := if validCs l = true then (if validBag (after [] (its l)) = true then 0 else 4) else 1
def netVal (l : List Ch) : List Ch := if validCs l = true ∧ validBag (after [] (its l)) = true then stampL l (after [] (its l)) else []
theorem its_valid {l : List Ch} (h : validCs l = true) : ∀ x ∈ its l, validRow x.1 = true := fun x hx => by
  obtain ⟨c, hc, rfl⟩ := List.mem_map.1 hx
  exact (okC_is ((validCs_iff.1 h).2 c hc)).2.1
/-- Netted changes make the same bag. -/
theorem net_after {l : List Ch} (h : netErr l = 0) {a : List It} (ha : validBag a = true) : appErr a (netVal l) = appErr a l ∧ appVal a (netVal l) = appVal a l := by
  have hv : validCs l = true := by
    cases hv : validCs l with
    | true => rfl
    | false => unfold netErr at h; rw [hv, if_neg (by decide)] at h; exact absurd h (by decide)
  have hb : validBag (after [] (its l)) = true := by
    cases hb : validBag (after [] (its l)) with
    | true => rfl
    | false => unfold netErr at h; rw [if_pos hv, hb, if_neg (by decide)] at h; exact absurd h (by decide)
  have e : netVal l = stampL l (after [] (its l)) := by unfold netVal; rw [if_pos ⟨hv, hb⟩]
  have hA : Asc (after [] (its l)) := after_asc nil_asc (its_valid hv)
  have hv2 : validCs (netVal l) = true := by rw [e, stampL_valid hv hA, hb]
  have haa := asc_of_valid ha
  have e2 : after a (its (netVal l)) = after a (its l) := by
    rw [e, stampL_its]
    exact bag_ext (after_asc haa fun x hx => (hA.1 x hx).1) (after_asc haa (its_valid hv)) fun q => by
      rw [after_cnt haa.2, after_cnt haa.2, sumC_up hA.2, after_cnt nil_asc.2]; simp [cnt]
  obtain ⟨f1, f2⟩ := appYes (a := a) (l := netVal l) ⟨ha, hv2⟩
  obtain ⟨g1, g2⟩ := appYes (a := a) (l := l) ⟨ha, hv⟩
  rw [f1, f2, g1, g2, e2]
  exact ⟨rfl, rfl⟩
theorem net_bad {l : List Ch} {a : List It} (ha : validBag a = false) : appErr a (netVal l) = appErr a l ∧ appVal a (netVal l) = appVal a l := by
  obtain ⟨f1, f2⟩ := appNo (a := a) (l := netVal l) (fun h => by rw [ha] at h; exact absurd h.1 (by decide))
  obtain ⟨g1, g2⟩ := appNo (a := a) (l := l) (fun h => by rw [ha] at h; exact absurd h.1 (by decide))
  rw [f1, f2, g1, g2]
  exact ⟨rfl, rfl⟩
theorem net_app {l : List Ch} (h : netErr l = 0) (a : List It) : appErr a (netVal l) = appErr a l ∧ appVal a (netVal l) = appVal a l := by
  cases ha : validBag a with
  | true => exact net_after h ha
  | false => exact net_bad ha
/-- .. and so do changes told in another order. -/
theorem app_perm (a : List It) {l m : List Ch} (h : l.Perm m) : appErr a m = appErr a l ∧ appVal a m = appVal a l := by
  have hv : validCs m = validCs l := by
    rw [Bool.eq_iff_iff, validCs_iff, validCs_iff, h.length_eq]
    exact ⟨fun hh => ⟨hh.1, fun c hc => hh.2 c (h.mem_iff.1 hc)⟩, fun hh => ⟨hh.1, fun c hc => hh.2 c (h.mem_iff.2 hc)⟩⟩
  by_cases hh : validBag a = true ∧ validCs l = true
  · have e : after a (its m) = after a (its l) := (after_perm (asc_of_valid hh.1) (its_valid hh.2) (h.map chI)).symm
    obtain ⟨f1, f2⟩ := appYes (a := a) (l := l) hh
    obtain ⟨g1, g2⟩ := appYes (a := a) (l := m) ⟨hh.1, hv.trans hh.2⟩
    rw [f1, f2, g1, g2, e]
    exact ⟨rfl, rfl⟩
  · obtain ⟨f1, f2⟩ := appNo (a := a) (l := l) hh
    obtain ⟨g1, g2⟩ := appNo (a := a) (l := m) (fun h2 => hh ⟨h2.1, hv ▸ h2.2⟩)
    rw [f1, f2, g1, g2]
    exact ⟨rfl, rfl⟩
end Go.Proofs.YthoimepdioeckaaGreatDoor

/-!
  Netted of package bag, as a contract.
-/
namespace Go.Proofs.YthoimepdioeckaaGreatDoor
open Go.RowKit

theorem slice_ownC {W : World} {B n : Nat} {v : Value} {L : List Value} (h : W.ownsRow B 40 3 v n L) : ∃ p cap, v = .slice p n cap ∧ n ≤ cap := by
  rcases h.2 with ⟨rfl, rfl⟩ | ⟨g, cap, cur, rfl, _, _, hnc, _⟩
  · exact ⟨none, 0, rfl, Nat.le_refl _⟩
  · exact ⟨_, cap, rfl, hnc⟩
theorem chgs_of_own {W : World} {B n cap : Nat} {p : Option Addr} {rs : List ChR} (hn : n = rs.length) (h : W.ownsRow B 40 3 (.slice p n cap) n (flatC rs)) (hr : ∀ r ∈ rs, RowOK W r.2.1 ∧ (r.2.1.1 = none → r.2.1.2.2 = 0)) : ChgIn W p rs := fun hp => by
  obtain ⟨g, cap', he, _, hgl, _⟩ := own_addrC (by omega) h
  simp only [Value.slice.injEq, true_and] at he
  obtain ⟨rfl, rfl⟩ := he
  refine ⟨g, 0, rfl, hgl, fun i hi => ?_⟩
  obtain ⟨c0, c1, c2⟩ := own_chgs hn h i hi
  have hm : rs[i]?.getD cr0 ∈ rs := by rw [List.getElem?_eq_getElem hi]; exact List.getElem_mem hi
  simp only [Nat.zero_add]
  exact ⟨c0, c1, c2, (hr _ hm).1, (hr _ hm).2⟩
theorem flatC_set : ∀ (rs : List ChR) (i : Nat) (r : RowV), flatC (rs.set i ((rs[i]?.getD cr0).1, r, (rs[i]?.getD cr0).2.2)) = (flatC rs).set (i * 3 + 1) (rowv r)
  | [], i, r => by simp [flatC]
  | x :: xs, 0, r => by simp [flatC, cellsC]
  | x :: xs, i + 1, r => by
    have h := flatC_set xs i r
    rw [show (i + 1) * 3 + 1 = i * 3 + 1 + 3 by omega]
    simp only [flatC, List.set_cons_succ, List.flatMap_cons, cellsC, List.cons_append, List.nil_append, List.getElem?_cons_succ] at h ⊢
    rw [h]
theorem cvals_set {rs : List ChR} {i : Nat} {r : RowV} (h : r.2.1 = (rs[i]?.getD cr0).2.1.2.1) : cvals (rs.set i ((rs[i]?.getD cr0).1, r, (rs[i]?.getD cr0).2.2)) = cvals rs := by
  unfold cvals
  rw [List.map_set]
  by_cases hi : i < rs.length
  · have : chv ((rs[i]?.getD cr0).1, r, (rs[i]?.getD cr0).2.2) = (rs.map chv)[i]'(by simpa using hi) := by
      rw [List.getElem_map, List.getElem?_eq_getElem hi] at *
      show (_, r.2.1, _) = _
      rw [h]; rfl
    rw [this, List.set_getElem_self]
  · rw [List.set_eq_of_length_le (by simp; omega)]
theorem nzC_mem {rs zs : List ChR} (hp : zs.Perm (gath rowC togC rs)) : ∀ r ∈ nzC zs, ∃ x ∈ rs, r.2.1 = x.2.1 := fun r hr => gathC_from rs r (hp.mem_iff.1 (List.mem_filter.1 hr).1)

set_option maxRecDepth 100000 in
set_option maxHeartbeats 4000000 in
theorem Netted_yes (p : Option Addr) (rs : List ChR) (c : Nat) (hm : rs.length ≤ 400) (w : World) (hX : ChgIn w p rs) (hT : Tab w.heap.size w) (hv : validCs (cvals rs) = true) :
    Calls Tryz.prog 17 #[.slice p rs.length c] w (ChgPost w (netVal (cvals rs)) (netErr (cvals rs))) := by
  have h1 := bagVCs_any p rs c (by omega) w hX
  rw [hv] at h1
  have hok : ∀ r ∈ rs, validRow r.2.1.2.1 = true ∧ -1000000 ≤ r.2.2 ∧ r.2.2 ≤ 1000000 := fun r hr => by
    have := okC_is ((validCs_iff.1 hv).2 (chv r) (List.mem_map_of_mem hr))
    exact ⟨this.2.1, this.2.2.2⟩
  have h2 := fun W (h : Below w.heap.size w W) => gatheredC_any p rs c (by omega) (fun r hr => (hok r hr).1) (fun r hr => (hok r hr).2) W (hX.belowV h) (hT.up h h.size)
  have hrb := rowB_of_chgs hX
  have H1 := Lib.hid h1
  have H2 := Lib.hid h2
  have HOK := Lib.hid hok
  have HRB := Lib.hid hrb
  have HV := Lib.hid hv
  clear h1 h2 hok hrb hv hX hT
  go_enter Tryz.func17, Tryz.ntmps17
  go_wp2_with fail
  refine H1.out.mono ?_
  rintro e w1 ⟨rfl, hb1⟩
  go_wp2_with fail
  refine (H2.out _ hb1).mono ?_
  rintro e w2 ⟨v2, zs, rfl, hp, hs, hown, hb2⟩
  have hB2 : Below w.heap.size w w2 := hb1.trans (hb2.mono hb1.size)
  have hlz : zs.length ≤ 1000000 := by have := hp.length_eq; have := gath_len (row := rowC) (tog := togC) rs; omega
  have HD := Lib.hid (deleteFuncC_any w.heap.size v2 zs hlz w2 hB2.size (ownsRow_base hown hb1.size))
  have hnv := net_vals (fun r hr => (HOK.out r hr).1) hp hs
  have hnm := nzC_mem hp
  have hl' : (nzC zs).length ≤ 1000000 := Nat.le_trans (nzC_len zs) hlz
  have HNV := Lib.hid hnv
  have HNM := Lib.hid hnm
  unfold DelPostC at HD
  clear hnv hnm hp hs hown hlz hb2 H1 H2
  generalize nzC zs = ts at *
  go_wp2_with fail
  refine HD.out.mono ?_
  rintro e w3 ⟨v3, rfl, ho3, hb3, _⟩
  have hB3 : Below w.heap.size w w3 := hB2.trans hb3
  obtain ⟨p3, cap, rfl, hnc⟩ := slice_ownC ho3
  have hrw3 : ∀ r ∈ ts, RowB w.heap.size w3 r.2.1 := fun r hr => by
    obtain ⟨x, hx, e⟩ := HNM.out r hr
    rw [e]; exact (HRB.out x hx).below hB3
  have hI3 : ChgIn w3 p3 ts := chgs_of_own rfl ho3 fun r h => ⟨(hrw3 r h).okW hB3.size, (hrw3 r h).2.1⟩
  have hvc := bagVCs_any p3 ts cap (by omega) w3 hI3
  have hA : Asc (after [] (its (cvals rs))) := after_asc nil_asc (its_valid HV.out)
  have hsv : validCs (cvals ts) = validBag (after [] (its (cvals rs))) := by rw [HNV.out, stampL_valid HV.out hA]
  cases hq : validBag (after [] (its (cvals rs))) with
  | false =>
    have e1 : netErr (cvals rs) = 4 := by unfold netErr; rw [if_pos HV.out, hq]; rfl
    have e2 : netVal (cvals rs) = [] := by unfold netVal; rw [hq, if_neg (fun h => absurd h.2 (by decide))]
    have E12 := Lib.hid (And.intro e1 e2)
    rw [hsv, hq] at hvc
    have HVC := Lib.hid hvc
    clear e1 e2 hvc hq hsv hA HD ho3 hI3 hrw3 HNV HNM
    go_wp2_with fail
    refine HVC.out.mono ?_
    rintro e w4 ⟨rfl, hb4⟩
    go_wp2_with fail
    go_ret2
    rw [E12.out.1, E12.out.2]
    exact chgPost_nil (hB3.trans (hb4.mono hB3.size))
  | true =>
    have e1 : netErr (cvals rs) = 0 := by unfold netErr; rw [if_pos HV.out, hq]; rfl
    have e2 : netVal (cvals rs) = cvals ts := by unfold netVal; rw [if_pos ⟨HV.out, hq⟩, HNV.out]
    have E12 := Lib.hid (And.intro e1 e2)
    have hvt : validCs (cvals ts) = true := hsv.trans hq
    rw [hvt] at hvc
    have HVC := Lib.hid hvc
    have HQ := Lib.hid hvt
    have HO3 := Lib.hid ho3
    have HR3 := Lib.hid hrw3
    clear e1 e2 hvc hq hsv hA hvt HD ho3 hI3 hrw3 HNV HNM
    go_wp2_with fail
    refine HVC.out.mono ?_
    rintro e w4 ⟨rfl, hb4⟩
    have hB4 : Below w.heap.size w w4 := hB3.trans (hb4.mono hB3.size)
    have ho4 := owns_below HO3.out hb4
    have hx4 : ∀ g cap', (p3 = some ⟨g, 0, none⟩ ∧ cap = cap' ∧ w.heap.size ≤ g) → ∀ r ∈ ts, RowX g w4 r.2.1 := fun g cap' ⟨_, _, hg⟩ r h => ((HR3.out r h).below (hb4.mono hB3.size)).x hg hB4.size
    clear hb4 HVC HO3 HR3 hB3 hb3 hB2 hb1
    go_wp2_with fail
    go_loopw [6, 19] (fun _ s wr => ∃ (i : Nat) (ss : List ChR), s = .int .i64 i ∧ i ≤ ts.length ∧ ss.length = ts.length ∧ Hid (cvals ss = cvals ts) ∧ wr.ownsRow w.heap.size 40 3 (.slice p3 ts.length cap) ts.length (flatC ss) ∧ (∀ g cap', (p3 = some ⟨g, 0, none⟩ ∧ cap = cap' ∧ w.heap.size ≤ g) → ∀ r ∈ ss, RowX g wr r.2.1) ∧ Below w.heap.size w wr) (fun _ s _ => ts.length - (intOf s).toNat)
    case atStart => exact ⟨0, ts, rfl, Nat.zero_le _, rfl, rfl, ho4, hx4, hB4⟩
    case round =>
      clear ho4 hx4 hB4
      obtain ⟨i, ss, rfl, hi, hsl, hvs, hrow, hx, hBw⟩ := hrel
      have HX := Lib.hid hx
      have HROW := Lib.hid hrow
      have HSL := Lib.hid hsl
      clear hx hsl
      by_cases hlt : i < ts.length
      · obtain ⟨g, cap', he, hBg, hgl, _⟩ := own_addrC (by omega) hrow
        simp only [Value.slice.injEq, true_and] at he
        obtain ⟨rfl, rfl⟩ := he
        have hil : i < ss.length := by rw [HSL.out]; exact hlt
        obtain ⟨_, c1, _⟩ := own_chgs HSL.out.symm hrow i hil
        have hi0 : (0 : Int) ≤ (i : Int) := by omega
        have hi1 : (i : Int) < (ts.length : Int) := by omega
        have hmem : ss[i]?.getD cr0 ∈ ss := by rw [List.getElem?_eq_getElem hil]; exact List.getElem_mem hil
        have hxr := HX.out g cap ⟨rfl, rfl, hBg⟩ _ hmem
        have hvr : validRow (ss[i]?.getD cr0).2.1.2.1 = true := (okC_is ((validCs_iff.1 HQ.out).2 (chv (ss[i]?.getD cr0)) (by rw [← hvs.out]; exact List.mem_map_of_mem hmem))).2.1
        have hlen := row_len hvr
        have hset := fun (r : RowV) (h : r.2.1 = (ss[i]?.getD cr0).2.1.2.1) => And.intro (cvals_set (i := i) h) (flatC_set ss i r)
        have HSET := Lib.hid hset
        have hmem2 : ∀ (x : ChR), ∀ y ∈ ss.set i x, y ∈ ss ∨ y = x := fun x y hy => List.mem_or_eq_of_mem_set hy
        have HM2 := Lib.hid hmem2
        have f0 := hrow.frozenAt (i * 3 + 1)
        clear hvr hmem hset hmem2 hrow
        generalize (ss[i]?.getD cr0) = r at c1 hxr hlen HSET
        obtain ⟨t, ⟨q, xs, qc⟩, n⟩ := r
        dsimp only [rowv] at c1 hxr hlen HSET
        have HC := Lib.hid (clone_any q xs qc (by omega) wr hxr.ok.2 hxr.2.1)
        have hBs := hBw.size
        clear hxr
        go_wp2_with fail
        refine HC.out.mono ?_
        rintro e w5 ⟨⟨rq, rx, rc⟩, rfl, rfl, hb5, hn5, hp5⟩
        dsimp only [rowv] at *
        have c5 := (hb5.cell (p := ⟨g, i * 3 + 1, none⟩) hgl).trans c1
        have f5 := (owns_below HROW.out hb5).frozenAt (i * 3 + 1)
        have hst := (owns_below HROW.out hb5).stored (i * 3 + 1) (.slice rq rx.length rc)
        have HST := Lib.hid hst
        have hbE : Below w.heap.size w (w5.setCell ⟨g, i * 3 + 1, none⟩ (.slice rq rx.length rc)) := (hBw.trans (hb5.mono hBs)).setCell hBg _
        have hrx : RowX g w5 (rq, rx, rc) := ClonePost.x (w := wr) rfl hn5 hp5 (by show rx.length ≤ _; omega) hgl
        have HXX := Lib.hid (show ∀ g' cap', (some (⟨g, 0, none⟩ : Addr) = some ⟨g', 0, none⟩ ∧ cap = cap' ∧ w.heap.size ≤ g') → ∀ r ∈ ss.set i (t, (rq, rx, rc), n), RowX g' (w5.setCell ⟨g, i * 3 + 1, none⟩ (.slice rq rx.length rc)) r.2.1 from by
          rintro g' cap' ⟨e, _, _⟩ r hr
          cases e
          rcases HM2.out _ r hr with h | rfl
          · exact ((HX.out g cap ⟨rfl, rfl, hBg⟩ r h).below hb5).grown HST.out.2
          · exact hrx.grown HST.out.2)
        clear hst hb5 hn5 hp5 hrx c1 f0
        go_wp2_with fail
        go_roundw
        case rel => exact ⟨i + 1, ss.set i (t, (rq, rx, rc), n), by go_num, by omega, by rw [List.length_set]; exact HSL.out, (by show _ = _; rw [(HSET.out (rq, rx, rc) rfl).1]; exact hvs.out), by rw [(HSET.out (rq, rx, rc) rfl).2]; exact HST.out.1, HXX.out, hbE⟩
        case measure => simp [intOf]; omega
      · have hge : (ts.length : Int) ≤ (i : Int) := by omega
        have HI := Lib.hid (show ChgIn wr p3 ss from chgs_of_own HSL.out.symm HROW.out fun r h => by
          obtain ⟨g, cap', he, hBg, _, _⟩ := own_addrC (by rw [← HSL.out]; exact List.length_pos_of_mem h) HROW.out
          simp only [Value.slice.injEq, true_and] at he
          have hxr := HX.out g cap' ⟨he.1, he.2, hBg⟩ r h
          exact ⟨hxr.ok, hxr.2.1⟩)
        go_wp2_with fail
        go_ret2
        rw [E12.out.1, E12.out.2]
        exact ⟨p3, ss, cap, by rw [HSL.out] <;> rfl, hvs.out, by rw [HSL.out]; exact hnc, by rw [HSL.out]; exact hl', HI.out, hBw⟩

set_option maxRecDepth 100000 in
theorem Netted_any (p : Option Addr) (rs : List ChR) (c : Nat) (hm : rs.length ≤ 9223372036854775807) (w : World) (hX : ChgIn w p rs) (hT : Tab w.heap.size w) :
    Calls Tryz.prog 17 #[.slice p rs.length c] w (ChgPost w (netVal (cvals rs)) (netErr (cvals rs))) := by
  cases hv : validCs (cvals rs) with
  | true => exact Netted_yes p rs c (by have := (validCs_iff.1 hv).1; rwa [cvals_len] at this) w hX hT hv
  | false =>
    have h1 := bagVCs_any p rs c hm w hX
    have e1 : netErr (cvals rs) = 1 := by unfold netErr; rw [hv]; rfl
    have e2 : netVal (cvals rs) = [] := by unfold netVal; rw [hv, if_neg (fun h => absurd h.1 (by decide))]
    rw [e1, e2]
    rw [hv] at h1
    have H1 := Lib.hid h1
    clear h1 hv e1 e2 hX hT
    go_enter Tryz.func17, Tryz.ntmps17
    go_wp2_with fail
    refine H1.out.mono ?_
    rintro e w1 ⟨rfl, hb1⟩
    go_wp2_with fail
    go_ret2
    exact chgPost_nil hb1
end Go.Proofs.YthoimepdioeckaaGreatDoor

