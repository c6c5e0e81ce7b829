/-
  Texts of gauges: what is written, and that it is read again; no model.
-/
import Derived.Lib.AtoiAllCases
import Derived.Lib.ItoaMem
import Derived.Lib.ItoaLen
import Derived.Lib.IndexMore
namespace Go.Proofs.YtledgnolmiecfaaGreatDoor
open Go.Lib
set_option linter.unusedSimpArgs false

theorem dig_nat {d : Nat} (h : d < 10) : (UInt8.ofNat (48 + d)).toNat = 48 + d := by
  rw [UInt8.toNat_ofNat']; omega
theorem parse_dec (u : Nat) : ∀ r : List UInt8, u < 1000000000000000000 → parseUint10 0 (decDigits u ++ r) = parseUint10 u r := by
  induction u using Nat.strongRecOn with
  | ind u ih =>
    intro r hu
    rw [decDigits]
    split
    · rename_i h
      have e := dig_nat h
      simp only [List.cons_append, List.nil_append, parseUint10, e]
      rw [if_pos (by omega), if_neg (by omega), if_neg (by omega)]
      congr 1
      omega
    · rename_i h
      have e := dig_nat (d := u % 10) (by omega)
      rw [List.append_assoc, ih (u / 10) (by omega) _ (by omega)]
      simp only [List.cons_append, List.nil_append, parseUint10, e]
      rw [if_pos (by omega), if_neg (by omega), if_neg (by omega)]
      congr 1
      omega
theorem dec_ne (u : Nat) : decDigits u ≠ [] := by
  rw [decDigits]
  split <;> simp
theorem dec_digit (u : Nat) : ∀ c ∈ decDigits u, 48 ≤ c.toNat ∧ c.toNat ≤ 57 := by
  induction u using Nat.strongRecOn with
  | ind u ih =>
    intro c hc
    rw [decDigits] at hc
    split at hc
    · rename_i h
      rw [List.mem_singleton] at hc
      subst hc
      rw [dig_nat h]
      omega
    · rename_i h
      rcases List.mem_append.1 hc with h1 | h1
      · exact ih (u / 10) (by omega) c h1
      · rw [List.mem_singleton] at h1
        subst h1
        rw [dig_nat (d := u % 10) (by omega)]
        omega
theorem mag_dec {u : Nat} (h : u < 1000000000000000000) : parseMag (decDigits u) = .ok u := by
  unfold parseMag
  rw [if_neg (dec_ne u), ← List.append_nil (decDigits u), parse_dec u [] h]
  rfl
theorem atoi_itoa {n : Int} (h0 : -1000000000000000000 < n) (h1 : n < 1000000000000000000) : atoiAll (itoa n) = .ok n := by
  unfold itoa
  split
  · rw [atoiAll_minus, mag_dec (by omega)]
    show (if 9223372036854775808 < n.natAbs then NumEnd.range else NumEnd.ok (-(n.natAbs : Int))) = NumEnd.ok n
    rw [if_neg (by omega)]
    congr 1
    omega
  · have hm := mag_dec (u := n.toNat) (by omega)
    have hd := dec_digit n.toNat
    have hne := dec_ne n.toNat
    cases hl : decDigits n.toNat with
    | nil => exact absurd hl hne
    | cons c r =>
      rw [hl] at hm hd
      have := hd c (by simp)
      rw [atoiAll_plain c r (by omega) (by omega), hm]
      show (if 9223372036854775808 ≤ n.toNat then NumEnd.range else NumEnd.ok (n.toNat : Int)) = NumEnd.ok n
      rw [if_neg (by omega)]
      congr 1
      omega
theorem itoa_byte (n : Int) : ∀ c ∈ itoa n, c.toNat = 45 ∨ 48 ≤ c.toNat ∧ c.toNat ≤ 57 := by
  intro c hc
  unfold itoa at hc
  split at hc
  · rcases List.mem_cons.1 hc with rfl | h
    · left; rfl
    · right; exact dec_digit _ c h
  · right; exact dec_digit _ c hc
/-- The word that stands in place of the mark of a gauge that is closed. -/
def closedT : List UInt8 := [99, 108, 111, 115, 101, 100]
theorem itoa_closed (n : Int) : itoa n ≠ closedT := fun h => by
  have := itoa_byte n 99 (by rw [h]; simp [closedT])
  revert this
  decide
def gTail (m : Int) (q : Bool) : List UInt8 := if q = true then closedT else itoa m
/-- The text of a gauge. -/
def gText (b m : Int) (q : Bool) : List UInt8 := itoa b ++ 32 :: gTail m q
theorem cut_at {l r : List UInt8} (h : ∀ c ∈ l, c ≠ 32) : cut (l ++ 32 :: r) [32] = (l, r, true) := by
  have hi : index (l ++ 32 :: r) [32] = l.length := by
    refine index_first (by simp) ?_ ?_
    · simp [occAt, List.isPrefixOf]
    · intro j hj
      have hd : (l ++ 32 :: r).drop j = l[j] :: (l ++ 32 :: r).drop (j + 1) := by
        rw [List.drop_eq_getElem_cons (by simp; omega), List.getElem_append_left hj]
      unfold occAt
      rw [hd]
      have := h l[j] (List.getElem_mem hj)
      simp only [List.isPrefixOf, Bool.and_true]
      rw [beq_eq_false_iff_ne]
      exact fun e => this e.symm
  unfold cut
  rw [hi, if_pos (by omega)]
  simp
theorem cut_text (b m : Int) (q : Bool) : cut (gText b m q) [32] = (itoa b, gTail m q, true) :=
  cut_at fun c hc e => by
    have := itoa_byte b c hc
    subst e
    revert this
    decide
theorem cut_none : cut [] [32] = ([], [], false) := by decide +kernel
theorem tail_len {m : Int} (q : Bool) (h0 : -9223372036854775808 ≤ m) (h1 : m ≤ 9223372036854775807) : (gTail m q).length ≤ 21 := by
  unfold gTail
  split
  · simp [closedT]
  · exact itoa_length_le m h0 h1
theorem text_len {b m : Int} (q : Bool) (b0 : -9223372036854775808 ≤ b) (b1 : b ≤ 9223372036854775807) (h0 : -9223372036854775808 ≤ m) (h1 : m ≤ 9223372036854775807) : (gText b m q).length ≤ 43 := by
  have := tail_len q h0 h1
  have := itoa_length_le b b0 b1
  simp [gText]
  omega
end Go.Proofs.YtledgnolmiecfaaGreatDoor
