/-
  What the listed tables give the walks; and a start that meets the rows' conditions.
-/
import Derived.Test.YtlhhkiglpehnfaaDoorRows
import Derived.Test.YtlhhkiglpehnfaaDoorTie
import Derived.Test.YtlhhkiglpehnfaaDoorText
import Derived.Test.YtlhhkiglpehnfaaDoorOpenR
import Derived.LaidMore
import Derived.Lib.LaidTab
import Derived.Stop.Joined
import Derived.SevenTiedAt
namespace Go.Proofs.YtlhhkiglpehnfaaDoor
open Go.ChangeShapes Go.WideShapes Go.ChangeAt Go.RowKit

theorem gPow : Tryd.prog.globalNamed "internal/strconv.uint64pow10" = some 3 := by kernel_rfl
theorem tPow : (Tryd.prog.globals[3]?).map (·.type) = some 95 := by kernel_rfl

theorem tab_below {W : World} (h : Lib.TabIs Tryd.prog W "internal/strconv.uint64pow10" .u64 Lib.pow10Tab) : Tab W.heap.size W := fun w' hb => by
  have hg := World.var?_cell gPow h 0
  have hlt : 3 < W.heap.size := World.block_lt_of_cell? W ⟨3, 0, none⟩ (u := .int .u64 1) (by simpa [Lib.pow10Tab] using hg)
  have hbk := hb.block _ hlt
  unfold Lib.TabIs World.var? at *
  simp only [gPow, Option.bind_some] at h ⊢
  rw [hbk]
  exact h

/-- The three tables. -/
abbrev laid3 : List (String × DataW Unit) := [("math/bits.deBruijn32tab", Rows.laid_math_bits_deBruijn32tab), ("math/bits.deBruijn64tab", Rows.laid_math_bits_deBruijn64tab), ("internal/strconv.uint64pow10", Rows.laid_internal_strconv_uint64pow10)]

set_option maxRecDepth 100000 in
theorem tab_of_laid {W : World} (h : laidMetH Tryd.prog laid3 W) : Tab W.heap.size W := by
  rw [MakeChecks.laidMetH_plain _ _ _ (by kernel_rfl)] at h
  obtain ⟨ps, ⟨g0, t0, cs0, f0, p0, q0, hg0, ht0, hv0, hd0, ⟨g1, t1, cs1, f1, p1, q1, hg1, ht1, hv1, hd1, ⟨g2, t2, cs2, f2, p2, q2, hg2, ht2, hv2, hd2, _, _⟩, _⟩, _⟩, _, _⟩ := h
  obtain rfl := Option.some.inj (gPow.symm.trans hg2)
  obtain rfl := Option.some.inj (tPow.symm.trans ht2)
  refine tab_below ?_
  have e := Lib.cells_of_tab (zs := Lib.pow10Tab) Tryd.underlying95 Tryd.underlying80 (by kernel_rfl) (by kernel_rfl) hd2
  unfold Lib.TabIs
  rw [hv2, ← e]

set_option maxRecDepth 100000 in
/-- The heap that the program's own start leaves meets the condition. -/
theorem door_met (os : Os) (args : Array Value) : laidMetH Tryd.prog laid3 ((World.doorLaid Tryd.prog 4000 os).forCall (fun _ _ => 0) ⟨#[], args, []⟩).memory :=
  laidMetH_of_parts3 (fuel := 8) (laidMet_of_run' 8 (by kernel_rfl) (by kernel_rfl)) (by kernel_rfl) (by kernel_rfl)
end Go.Proofs.YtlhhkiglpehnfaaDoor
