/-
  The document's own 'Same' at two rows that read as one list.
-/
import Derived.Test.YtkldokmmboebmaaRow
import Derived.LoopTactic
namespace Go.Proofs.Ytkldokmmboebmaa
open Go.RowKit

theorem neqV (a0 a1 : Int) (s : ByteArray) (w : World) :
    (binOp .neq 51 (.agg #[.int .i64 a0, .int .i64 a1, .string s]) (.agg #[.int .i64 a0, .int .i64 a1, .string s])).run Try.prog w = .ok (.bool false) w := by
  have uI := Try.underlying3
  have gI := Try.isAgg3
  have zI := Try.sizeOf3
  have uS := Try.underlying9
  have gS := Try.isAgg9
  have zS := Try.sizeOf9
  have hS : Try.prog.underlying 51 = some (.struct (Try.prog.fieldsOf 51)) := by kernel_rfl
  have hp : Try.prog.stoodInHeld 51 = false := by kernel_rfl
  rw [run_neq_struct, show (10000 : Nat) = 9999 + 1 from rfl, run_equalIn_agg w 9999 51 _ _ hS hp]
  simp only [Program.fieldsOf, Try.underlying51]
  go_simp
  try simp
theorem guardV : Try.prog.eqGuardType Try.prog.depth 51 = false := by kernel_rfl

end Go.Proofs.Ytkldokmmboebmaa
