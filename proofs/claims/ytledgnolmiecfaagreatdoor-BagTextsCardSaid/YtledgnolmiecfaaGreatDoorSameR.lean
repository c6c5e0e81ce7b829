/-
  The document's own 'Same' at two rows that read as one list.
-/
import Derived.Test.YtledgnolmiecfaaGreatDoorRow
import Derived.LoopTactic
namespace Go.Proofs.YtledgnolmiecfaaGreatDoor
open Go.RowKit
set_option linter.unusedSimpArgs false

theorem neqV (a0 a1 : Int) (s : ByteArray) (w : World) :
    (binOp .neq 40 (.agg #[.int .i64 a0, .int .i64 a1, .string s]) (.agg #[.int .i64 a0, .int .i64 a1, .string s])).run Tryz.prog w = .ok (.bool false) w := by
  have uI := Tryz.underlying3
  have gI := Tryz.isAgg3
  have zI := Tryz.sizeOf3
  have uS := Tryz.underlying9
  have gS := Tryz.isAgg9
  have zS := Tryz.sizeOf9
  have hS : Tryz.prog.underlying 40 = some (.struct (Tryz.prog.fieldsOf 40)) := by kernel_rfl
  have hp : Tryz.prog.stoodInHeld 40 = false := by kernel_rfl
  rw [run_neq_struct, show (10000 : Nat) = 9999 + 1 from rfl, run_equalIn_agg w 9999 40 _ _ hS hp]
  simp only [Program.fieldsOf, Tryz.underlying40]
  go_simp
  try simp
theorem guardV : Tryz.prog.eqGuardType Tryz.prog.depth 40 = false := by kernel_rfl

set_option maxRecDepth 100000 in
set_option maxHeartbeats 1000000 in
theorem Same_any (p q : Option Addr) (xs : List Val) (c d n : Nat) (hn : n = xs.length) (hm : xs.length ≤ 9223372036854775807) (w : World) (hX : ValsIn w p xs) (hY : ValsIn w q xs) :
    Calls Tryz.prog 27 #[.slice p xs.length c, .slice q n d] w fun e w' => e = .returned (.bool true) ∧ Below w.heap.size w w' := by
  subst hn
  have HX := Lib.hid hX
  have HY := Lib.hid hY
  clear hX hY
  go_enter Tryz.func27, Tryz.ntmps27
  have hm0 := guardV
  go_wp2_with fail
  go_loopw [5] (fun s wr => ∃ i : Nat, i ≤ xs.length ∧ s = .int .i64 i ∧ Below w.heap.size w wr) (fun s _ => xs.length - (intOf s).toNat)
  case atStart => exact ⟨0, Nat.zero_le _, rfl, Below.refl _ _⟩
  case round =>
    obtain ⟨i, hi, rfl, hB⟩ := hrel
    by_cases hlt : i < xs.length
    · obtain ⟨b, off, rfl, hbl, hra⟩ := HX.out (by omega)
      obtain ⟨b2, off2, rfl, hbl2, hra2⟩ := HY.out (by omega)
      obtain ⟨c0, c1, c2⟩ := (hra.belowV hB hbl) i hlt
      obtain ⟨d0, d1, d2⟩ := (hra2.belowV hB hbl2) i hlt
      have hi0 : (0 : Int) ≤ (i : Int) := by omega
      have hi1 : (i : Int) < (xs.length : Int) := by omega
      clear hra hra2
      generalize (xs[i]?.getD v0) = x at c0 c1 c2 d0 d1 d2
      obtain ⟨x0, x1, x2⟩ := x
      dsimp only at c0 c1 c2 d0 d1 d2
      have hq := fun W => neqV x0 x1 x2 W
      go_wp2_with fail
      go_quiet (fail)
      go_wp2_with fail
      go_roundw
      case rel => exact ⟨i + 1, by omega, by go_num, ⟨hB.os, hB.tape, hB.output, hB.size, hB.block⟩⟩
      case measure => simp [intOf]; omega
    · have hge : xs.length ≤ i := by omega
      go_wp2_with fail
      go_ret
      exact ⟨rfl, hB⟩
end Go.Proofs.YtledgnolmiecfaaGreatDoor
