/-
  What the listed variables give the walks.
-/
import Derived.Test.YtledgnolmiecfaaGreatDoorRows
import Derived.Test.YtledgnolmiecfaaGreatDoorTie
import Derived.Test.YtledgnolmiecfaaGreatDoorJA
import Derived.LaidMore
import Derived.Lib.LaidTab
import Derived.Stop.Joined
import Derived.Stop.LaidErr
import Derived.MakeChecks
import Derived.SevenTiedAt
namespace Go.Proofs.YtledgnolmiecfaaGreatDoor
open Go.ChangeShapes Go.WideShapes Go.ChangeAt Go.RowKit
set_option linter.unusedSimpArgs false

theorem gPow : Tryz.prog.globalNamed "internal/strconv.uint64pow10" = some 0 := by kernel_rfl
theorem tPow : (Tryz.prog.globals[0]?).map (·.type) = some 140 := by kernel_rfl
theorem gErr : Tryz.prog.globalNamed "strconv.ErrSyntax" = some 2 := by kernel_rfl
theorem tErr : (Tryz.prog.globals[2]?).map (·.type) = some 52 := by kernel_rfl
theorem star : "*" ++ "errors.errorString" = "*errors.errorString" := by decide
theorem rowErr (u : TypeId) (h : Tryz.prog.typeName? 3 u = some "*errors.errorString") : u = 159 :=
  typeName_ptr_named (nm := "errors.errorString") (by rw [star]; kernel_rfl) (by kernel_rfl) (by decide) u (by rw [star]; exact h)

theorem gErrR : Tryz.prog.globalNamed "strconv.ErrRange" = some 3 := by kernel_rfl
theorem tErrR : (Tryz.prog.globals[3]?).map (·.type) = some 52 := by kernel_rfl
/-- The listed variables. -/
abbrev laid5 : List (String × DataW Unit) := [("math/bits.deBruijn32tab", Rows.laid_math_bits_deBruijn32tab), ("math/bits.deBruijn64tab", Rows.laid_math_bits_deBruijn64tab), ("internal/strconv.uint64pow10", Rows.laid_internal_strconv_uint64pow10), ("strconv.ErrRange", Rows.laid_strconv_ErrRange), ("strconv.ErrSyntax", Rows.laid_strconv_ErrSyntax)]

set_option maxRecDepth 100000 in
theorem env_of_laid {W : World} (h : laidMetH Tryz.prog laid5 W) (hsh : W.ShapedOpen Tryz.prog) : Env W.heap.size W := by
  rw [MakeChecks.laidMetH_plain _ _ _ (by kernel_rfl)] at h
  have h4 : laidMet Tryz.prog [("strconv.ErrRange", Rows.laid_strconv_ErrRange), ("strconv.ErrSyntax", Rows.laid_strconv_ErrSyntax)] W := laidMet.tail (laidMet.tail (laidMet.tail h))
  have h5 := laidMet.tail h4
  obtain ⟨a', s', hv', _, _, _⟩ := laid_sentinel h4 gErrR tErrR Tryz.underlying52 rowErr Tryz.underlying159 Tryz.underlying161 rfl rfl Tryz.underlying9 (by kernel_rfl) (by kernel_rfl)
  have hce' : W.cell? ⟨3, 0, none⟩ = some (.iface 159 (.pointer (some a'))) := World.var?_cell gErrR hv' 0
  obtain ⟨a, s, hv, _, _, _⟩ := laid_sentinel h5 gErr tErr Tryz.underlying52 rowErr Tryz.underlying159 Tryz.underlying161 rfl rfl Tryz.underlying9 (by kernel_rfl) (by kernel_rfl)
  have hce : W.cell? ⟨2, 0, none⟩ = some (.iface 159 (.pointer (some a))) := World.var?_cell gErr hv 0
  obtain ⟨m, hm⟩ := Go.Proofs.cell_of_shapedOpen_int (g := 1) (zero := #[.int .i64 0]) (t := 3) hsh (of_decide_eq_true (by kernel_rfl)) (by kernel_rfl) rfl (by kernel_rfl) (by kernel_rfl) Tryz.underlying3
  obtain ⟨ps, ⟨g0, t0, cs0, f0, p0, q0, hg0, ht0, hv0, hd0, ⟨g1, t1, cs1, f1, p1, q1, hg1, ht1, hv1, hd1, ⟨g2, t2, cs2, f2, p2, q2, hg2, ht2, hv2, hd2, _, _⟩, _⟩, _⟩, _, _⟩ := h
  obtain rfl := Option.some.inj (gPow.symm.trans hg2)
  obtain rfl := Option.some.inj (tPow.symm.trans ht2)
  have e := Lib.cells_of_tab (zs := Lib.pow10Tab) Tryz.underlying140 Tryz.underlying113 (by kernel_rfl) (by kernel_rfl) hd2
  refine ⟨Lib.tabBelow_of_tabIs (by unfold Lib.TabIs; rw [hv2, ← e]), fun w' hb => ⟨m, ?_⟩, fun w' hb => ⟨159, .pointer (some a), ?_⟩, fun w' hb => ⟨159, .pointer (some a'), ?_⟩⟩
  · exact (hb.cell (World.block_lt_of_cell? W _ hm)).trans hm
  · exact (hb.cell (World.block_lt_of_cell? W _ hce)).trans hce
  · exact (hb.cell (World.block_lt_of_cell? W _ hce')).trans hce'

end Go.Proofs.YtledgnolmiecfaaGreatDoor
