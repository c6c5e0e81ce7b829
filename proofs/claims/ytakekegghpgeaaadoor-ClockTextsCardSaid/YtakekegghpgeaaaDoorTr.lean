/-
  What the document's own reader makes of a text: its words at blanks, its numbers; a gauge's text read so.
-/
import Derived.Test.YtakekegghpgeaaaDoorTq
import Derived.Test.YtakekegghpgeaaaDoorProg
import Derived.WalkKit
namespace Go.Proofs.YtakekegghpgeaaaDoor
open Go.Lib

/-! Words. -/
def stepW (ws : List (List UInt8)) (c : UInt8) : List (List UInt8) := if c = 32 then ws ++ [[]] else ws.set (ws.length - 1) ((ws[ws.length - 1]?.getD []) ++ [c])
def wordsL (l : List UInt8) : List (List UInt8) := l.foldl stepW [[]]
theorem wordsL_snoc (l : List UInt8) (c : UInt8) : wordsL (l ++ [c]) = stepW (wordsL l) c := by simp [wordsL]
theorem words_run {a : List UInt8} : ∀ (pre : List (List UInt8)) (x : List UInt8), (∀ c ∈ a, c ≠ 32) → a.foldl stepW (pre ++ [x]) = pre ++ [x ++ a] := by
  induction a with
  | nil => intro pre x _; simp
  | cons c r ih =>
    intro pre x h
    have hc : c ≠ 32 := h c (by simp)
    have e : stepW (pre ++ [x]) c = pre ++ [x ++ [c]] := by
      unfold stepW
      rw [if_neg hc]
      simp
    rw [List.foldl_cons, e, ih pre (x ++ [c]) (fun d hd => h d (by simp [hd]))]
    simp
theorem words_two {a r : List UInt8} (ha : ∀ c ∈ a, c ≠ 32) (hr : ∀ c ∈ r, c ≠ 32) : wordsL (a ++ 32 :: r) = [a, r] := by
  have h1 := words_run (a := a) [] [] ha
  have h2 := words_run (a := r) [a] [] hr
  simp only [List.nil_append] at h1 h2
  unfold wordsL
  rw [List.foldl_append, h1, List.foldl_cons]
  have e : stepW [a] 32 = [a] ++ [[]] := by simp [stepW]
  rw [e, h2]
  rfl
theorem itoa_blank (n : Int) : ∀ c ∈ itoa n, c ≠ 32 := fun c hc e => by
  have := itoa_byte n c hc
  subst e
  revert this
  decide
theorem tail_blank (m : Int) (q : Bool) : ∀ c ∈ gTail m q, c ≠ 32 := by
  unfold gTail
  split
  · intro c hc
    simp only [closedT, List.mem_cons, List.not_mem_nil, or_false] at hc
    rcases hc with rfl | rfl | rfl | rfl | rfl | rfl <;> decide
  · exact itoa_blank m
theorem words_text (b m : Int) (q : Bool) : wordsL (gText b m q) = [itoa b, gTail m q] := words_two (itoa_blank b) (tail_blank m q)
theorem stepW_len (ws : List (List UInt8)) (c : UInt8) : (stepW ws c).length ≤ ws.length + 1 := by
  unfold stepW; split <;> simp

/-! Numbers. -/
def numGo : List UInt8 → Int → Nat → Option Int
  | [], acc, _ => some acc
  | c :: r, acc, k =>
    if c.toNat < 48 ∨ 57 < c.toNat then none
    else if 18 ≤ k then none
    else numGo r (IntKind.i64.wrap (IntKind.i64.wrap (10 * acc) + ((c.toNat : Int) - 48))) (k + 1)
def numFrom (l : List UInt8) : Nat := if l.head? = some 45 then 1 else 0
def numOut (f len : Nat) : Option Int → Int × Bool
  | none => (0, false)
  | some n => (if f = 1 then IntKind.i64.wrap (-n) else n, decide (f < len))
def numVal (l : List UInt8) : Int × Bool := numOut (numFrom l) l.length (numGo (l.drop (numFrom l)) 0 0)
theorem num_dec (u : Nat) : ∀ (r : List UInt8) (k : Nat), u < 10 ^ (k + 1) → k < 18 → ∃ j, j ≤ k + 1 ∧ numGo (decDigits u ++ r) 0 0 = numGo r u j := by
  induction u using Nat.strongRecOn with
  | ind u ih =>
    intro r k hu hk
    have h18 : (10 : Nat) ^ (k + 1) ≤ 10 ^ 18 := Nat.pow_le_pow_right (by omega) (by omega)
    have hb : u < 1000000000000000000 := Nat.lt_of_lt_of_le hu h18
    rw [decDigits]
    split
    · rename_i h
      have e := dig_nat h
      refine ⟨1, by omega, ?_⟩
      simp only [List.cons_append, List.nil_append, numGo, e]
      rw [if_neg (by omega), if_neg (by omega)]
      congr 1
      rw [IntKind.wrap_i64, IntKind.wrap_i64] <;> (try rw [IntKind.wrap_i64]) <;> omega
    · rename_i h
      have e := dig_nat (d := u % 10) (by omega)
      cases k with
      | zero => omega
      | succ k =>
        have hd : u / 10 < 10 ^ (k + 1) := by
          rw [Nat.div_lt_iff_lt_mul (by omega), ← Nat.pow_succ]; exact hu
        obtain ⟨j, hj, hg⟩ := ih (u / 10) (by omega) ([UInt8.ofNat (48 + u % 10)] ++ r) k hd (by omega)
        refine ⟨j + 1, by omega, ?_⟩
        rw [List.append_assoc, hg]
        simp only [List.cons_append, List.nil_append, numGo, e]
        rw [if_neg (by omega), if_neg (by omega)]
        congr 1
        rw [IntKind.wrap_i64, IntKind.wrap_i64] <;> (try rw [IntKind.wrap_i64]) <;> omega
theorem num_dec_all {u : Nat} (h : u < 1000000000000000000) : numGo (decDigits u) 0 0 = some (u : Int) := by
  obtain ⟨j, _, hg⟩ := num_dec u [] 17 h (by omega)
  rw [List.append_nil] at hg
  rw [hg]
  rfl
theorem num_itoa {n : Int} (h0 : -1000000000000000000 < n) (h1 : n < 1000000000000000000) : numVal (itoa n) = (n, true) := by
  unfold itoa
  split
  · have hf : numFrom (45 :: decDigits n.natAbs) = 1 := by simp [numFrom]
    have hne := dec_ne n.natAbs
    have hl : 0 < (decDigits n.natAbs).length := List.length_pos_iff.2 hne
    unfold numVal
    rw [hf]
    simp only [List.drop_succ_cons, List.drop_zero]
    rw [num_dec_all (by omega)]
    simp only [numOut, if_true, List.length_cons]
    rw [IntKind.wrap_i64, decide_eq_true (by omega)]
    congr 1
    omega
  · have hd := dec_digit n.toNat
    have hne := dec_ne n.toNat
    have hl : 0 < (decDigits n.toNat).length := List.length_pos_iff.2 hne
    have hf : numFrom (decDigits n.toNat) = 0 := by
      unfold numFrom
      rw [if_neg]
      intro h
      cases hq : decDigits n.toNat with
      | nil => exact hne hq
      | cons c r =>
        rw [hq] at h hd
        simp only [List.head?_cons, Option.some.injEq] at h
        have := hd c (by simp)
        subst h
        revert this
        decide
    unfold numVal
    rw [hf, List.drop_zero, num_dec_all (by omega)]
    simp only [numOut]
    rw [if_neg (by omega), decide_eq_true hl]
    congr 1
    omega
end Go.Proofs.YtakekegghpgeaaaDoor
