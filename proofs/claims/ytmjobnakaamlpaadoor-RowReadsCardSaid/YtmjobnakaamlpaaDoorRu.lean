/-
  Hash of package row, and the document's own.
-/
import Derived.Test.YtmjobnakaamlpaaDoorRt
namespace Go.Proofs.YtmjobnakaamlpaaDoor
open Go.RowKit Go.Lib
set_option linter.unusedSimpArgs false
set_option linter.unusedVariables false

def hashN (f : Int → Int → Int) (s : ByteArray) : Nat → Int
  | 0 => 14695981039346656037
  | i + 1 => f (hashN f s i) ((s.data.toList[i]?.getD 0).toNat : Int)
def fnv (h c : Int) : Int := IntKind.u64.wrap (bits BinOp.xor IntKind.u64 h (IntKind.u64.wrap c) * 1099511628211)
theorem hash_next {s : ByteArray} {i : Nat} (h : i < s.size) : hashN fnv s (i + 1) = IntKind.u64.wrap (bits BinOp.xor IntKind.u64 (hashN fnv s i) (IntKind.u64.wrap (s[i].toNat : Int)) * 1099511628211) := by
  have hl : i < s.data.toList.length := by simpa using h
  show fnv (hashN fnv s i) ((s.data.toList[i]?.getD 0).toNat : Int) = _
  rw [List.getElem?_eq_getElem hl]
  rfl
set_option maxRecDepth 100000 in
set_option maxHeartbeats 1000000 in
theorem rowHash_any (s : ByteArray) (hs : s.size ≤ 1000000) (w : World) :
    Calls Tryd.prog 13 #[.string s] w fun e w' => e = .returned (.int .u64 (hashN fnv s s.size)) ∧ w = w' := by
  go_enter Tryd.func13, Tryd.ntmps13
  go_wp2_with fail
  go_loop [3, 7] (fun h k => ∃ i : Nat, i ≤ s.size ∧ k = .int .i64 i ∧ h = .int .u64 (hashN fnv s i)) (fun _ k => s.size - (RowKit.intOf k).toNat)
  case atStart => exact ⟨0, Nat.zero_le _, rfl, rfl⟩
  case round =>
    obtain ⟨i, hi, rfl, rfl⟩ := hrel
    by_cases hlt : i < s.size
    · have hi0 : (0 : Int) ≤ (i : Int) := by omega
      have hi1 : (i : Int) < (s.size : Int) := by omega
      have HLT := Lib.hid hlt
      go_wp2_with fail
      go_round
      case rel => exact ⟨i + 1, HLT.out, by go_num, by rw [hash_next HLT.out]⟩
      case measure => have := HLT.out; simp [RowKit.intOf]; omega
    · have hie : i = s.size := by omega
      subst hie
      go_wp2_with fail
      go_ret
      exact ⟨rfl, rfl⟩
theorem refHash_any (s : ByteArray) (hs : s.size ≤ 1000000) (w : World) :
    Calls Tryd.prog 14 #[.string s] w fun e w' => e = .returned (.int .u64 (hashN fnv s s.size)) ∧ w = w' := by
  go_enter Tryd.func14, Tryd.ntmps14
  go_wp2_with fail
  go_loop [3, 4] (fun h k => ∃ i : Nat, i ≤ s.size ∧ k = .int .i64 i ∧ h = .int .u64 (hashN fnv s i)) (fun _ k => s.size - (RowKit.intOf k).toNat)
  case atStart => exact ⟨0, Nat.zero_le _, rfl, rfl⟩
  case round =>
    obtain ⟨i, hi, rfl, rfl⟩ := hrel
    by_cases hlt : i < s.size
    · have hi0 : (0 : Int) ≤ (i : Int) := by omega
      have hi1 : (i : Int) < (s.size : Int) := by omega
      have HLT := Lib.hid hlt
      go_wp2_with fail
      go_round
      case rel => exact ⟨i + 1, HLT.out, by go_num, by rw [hash_next HLT.out]⟩
      case measure => have := HLT.out; simp [RowKit.intOf]; omega
    · have hie : i = s.size := by omega
      subst hie
      go_wp2_with fail
      go_ret
      exact ⟨rfl, rfl⟩
end Go.Proofs.YtmjobnakaamlpaaDoor
