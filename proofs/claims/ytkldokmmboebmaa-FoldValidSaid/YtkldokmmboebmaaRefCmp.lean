/-
  The document's own order of values, as a contract.
-/
import Derived.Test.YtkldokmmboebmaaCmp
import Derived.Deep.RegionHeld3
namespace Go.Proofs.Ytkldokmmboebmaa
open Go.RowKit

theorem bytes_zero : ∀ x y, Lib.compareBytes x y = 0 ↔ x = y
  | [], [] => by simp [Lib.compareBytes]
  | [], _ :: _ => by simp [Lib.compareBytes]
  | _ :: _, [] => by simp [Lib.compareBytes]
  | a :: x, b :: y => by
    have ih := bytes_zero x y
    simp only [Lib.compareBytes, List.cons.injEq]
    by_cases h1 : a < b
    · rw [if_pos h1]
      constructor
      · intro h; omega
      · rintro ⟨rfl, _⟩; exact absurd h1 (UInt8.lt_irrefl a)
    · rw [if_neg h1]
      by_cases h2 : b < a
      · rw [if_pos h2]
        constructor
        · intro h; omega
        · rintro ⟨rfl, _⟩; exact absurd h2 (UInt8.lt_irrefl a)
      · rw [if_neg h2, ih]
        have e : a = b := by
          rw [UInt8.lt_iff_toNat_lt] at h1 h2
          exact UInt8.toNat_inj.1 (by omega)
        simp [e]
theorem bytes_less : ∀ x y, Op.bytesLess x y = decide (Lib.compareBytes x y = -1)
  | [], [] => by simp [Lib.compareBytes, Op.bytesLess]
  | [], _ :: _ => by simp [Lib.compareBytes, Op.bytesLess]
  | _ :: _, [] => by simp [Lib.compareBytes, Op.bytesLess]
  | a :: x, b :: y => by
    have ih := bytes_less x y
    simp only [Lib.compareBytes, Op.bytesLess]
    by_cases h1 : a < b
    · simp [h1]
    · by_cases h2 : b < a
      · have hne : a ≠ b := fun e => by subst e; exact h1 h2
        simp [h1, h2, hne]
      · have e : a = b := by
          rw [UInt8.lt_iff_toNat_lt] at h1 h2
          exact UInt8.toNat_inj.1 (by omega)
        simp [e, ih]
theorem less_S (s r : ByteArray) : Op.bytesLess s.toList r.toList = decide (Lib.compareBytes s.data.toList r.data.toList = -1) := by
  rw [ByteArray.toList_eq, ByteArray.toList_eq, bytes_less]
theorem eq_S (s r : ByteArray) : (s.toList == r.toList) = decide (Lib.compareBytes s.data.toList r.data.toList = 0) := by
  rw [ByteArray.toList_eq, ByteArray.toList_eq, Bool.eq_iff_iff, beq_iff_eq, decide_eq_true_iff, bytes_zero]

end Go.Proofs.Ytkldokmmboebmaa
