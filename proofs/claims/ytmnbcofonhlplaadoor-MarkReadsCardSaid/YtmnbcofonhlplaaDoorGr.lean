/-
  Marks of the document's own, as a contract; the chapter's first example.
-/
import Derived.Test.YtmnbcofonhlplaaDoorGm
namespace Go.Proofs.YtmnbcofonhlplaaDoor
open Go.RowKit Go.Lib
set_option linter.unusedSimpArgs false

set_option maxRecDepth 100000 in
set_option maxHeartbeats 1000000 in
theorem awake6_any (w : World) :
    Calls Tryd.prog 5 #[] w fun e w' => e = .returned (.bool true) ∧ Below w.heap.size w w' := by
  have hb0 := below_new w (.cells #[.int .i64 10, .int .i64 7, .int .i64 12, .int .i64 7] 3)
  have hI : IntsIn (w.alloc (.cells #[.int .i64 10, .int .i64 7, .int .i64 12, .int .i64 7] 3)) (some ⟨w.heap.size, 0, none⟩) [10, 7, 12, 7] := fun _ => ⟨_, 0, rfl, by simp, fun i hi => by
    match i, hi with
    | 0, _ | 1, _ | 2, _ | 3, _ => simp [World.cell?_alloc_new]
    | i + 4, h => exact absurd h (by simp)⟩
  have hm := mkMarks_any 5 _ [10, 7, 12, 7] 4 _ hI
  rw [show marksErr 5 [10, 7, 12, 7] = 0 by decide, show marksVal 5 [10, 7, 12, 7] = [6, 6, 8, 8] by decide] at hm
  have HM := Lib.hid hm
  have HB := Lib.hid hb0
  clear hm hI hb0
  go_enter Tryd.func5, Tryd.ntmps5
  go_wp2_with fail
  refine HM.out.mono ?_
  rintro e w1 ⟨p, c, rfl, hi1, hb1⟩
  have HB1 := Lib.hid (HB.out.trans (hb1.mono HB.out.size))
  have hb2 := below_new w1 (.cells #[.int .i64 6, .int .i64 6, .int .i64 8, .int .i64 8] 3)
  have hI2 : IntsIn (w1.alloc (.cells #[.int .i64 6, .int .i64 6, .int .i64 8, .int .i64 8] 3)) (some ⟨w1.heap.size, 0, none⟩) [6, 6, 8, 8] := fun _ => ⟨_, 0, rfl, by simp, fun i hi => by
    match i, hi with
    | 0, _ | 1, _ | 2, _ | 3, _ => simp [World.cell?_alloc_new]
    | i + 4, h => exact absurd h (by simp)⟩
  have HS := Lib.hid (sameInts_any p _ [6, 6, 8, 8] c 4 (by simp) _ (hi1.belowV hb2) hI2)
  have HB2 := Lib.hid (HB1.out.trans (hb2.mono HB1.out.size))
  clear hi1 hb1 hb2 hI2
  go_wp2_with fail
  refine HS.out.mono ?_
  rintro e w2 ⟨rfl, hb3⟩
  have HB3 := Lib.hid (HB2.out.trans (hb3.mono HB2.out.size))
  clear hb3
  go_wp2_with fail
  go_ret
  exact ⟨rfl, HB3.out⟩
end Go.Proofs.YtmnbcofonhlplaaDoor
