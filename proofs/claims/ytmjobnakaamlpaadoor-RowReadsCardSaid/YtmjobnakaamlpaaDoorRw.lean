/-
  What the document's own reader makes of a byte between quotes, plain; digit.
-/
import Derived.Test.YtmjobnakaamlpaaDoorRv
namespace Go.Proofs.YtmjobnakaamlpaaDoor
open Go.RowKit Go.Lib
set_option linter.unusedSimpArgs false
set_option linter.unusedVariables false

def digN (c : UInt8) : Int := if 48 ≤ c.toNat ∧ c.toNat ≤ 57 then (c.toNat : Int) - 48 else if 97 ≤ c.toNat ∧ c.toNat ≤ 102 then (c.toNat : Int) - 87 else -1
def docDec (l : List UInt8) : Option (UInt8 × List UInt8) :=
  match l with
  | [] => none
  | c :: r => if c = 92 then (match r with
      | [] => none
      | d :: s => if d = 110 then some (10, s) else if d = 34 ∨ d = 92 then some (d, s) else if d = 120 then (match s with
          | a :: b :: q => if 0 ≤ digN a ∧ 0 ≤ digN b then some (UInt8.ofNat (16 * digN a + digN b).toNat, q) else none
          | _ => none) else none) else some (c, r)
theorem dig_hex : ∀ n : Nat, n < 16 → digN (UInt8.ofNat (hexd n)) = n := by decide +kernel
theorem docDec_q (c : UInt8) (r : List UInt8) : docDec (qB c ++ r) = some (c, r) := by
  unfold qB
  split
  · rename_i hc
    have e1 : c ≠ 110 := fun e => by subst e; exact absurd hc (by decide)
    have e2 : c = 34 ∨ c = 92 := hc.elim (fun h => .inl (UInt8.toNat_inj.1 h)) (fun h => .inr (UInt8.toNat_inj.1 h))
    simp [docDec, e1, e2]
  · rename_i hc
    split
    · rename_i h10
      have : c = 10 := UInt8.toNat_inj.1 h10
      subst this
      rfl
    · split
      · have h1 := dig_hex (c.toNat / 16) (by have := c.toNat_lt; omega)
        have h2 := dig_hex (c.toNat % 16) (by omega)
        have h3 : (UInt8.ofNat (16 * ((c.toNat / 16 : Nat) : Int) + ((c.toNat % 16 : Nat) : Int)).toNat) = c := by
          rw [show (16 * ((c.toNat / 16 : Nat) : Int) + ((c.toNat % 16 : Nat) : Int)).toNat = c.toNat by omega]
          exact UInt8.ofNat_toNat
        simp only [docDec, List.cons_append, List.nil_append]
        rw [h1, h2, h3]
        simp
        omega
      · have e1 : c ≠ 92 := fun e => by subst e; exact hc (by decide)
        simp [docDec, e1]
theorem q_head (c : UInt8) (r : List UInt8) : (qB c ++ r).head? ≠ some 34 := by
  have := q_first c r
  intro h
  cases hq : qB c ++ r with
  | nil => rw [hq] at h; cases h
  | cons d q =>
    rw [hq] at h this
    simp only [List.head?_cons, Option.some.injEq] at h
    subst h
    simp [Lib.hasPrefix, List.isPrefixOf] at this
/-- How far a text between quotes has been read: what is read and what is left agree with whatever it is the text of. -/
def ReadQ (t l u : List UInt8) : Prop := ∀ L r, t = quoted L ++ r → ∃ M, L = l ++ M ∧ u = M.flatMap qB ++ 34 :: r
theorem readQ_start (c : UInt8) (u : List UInt8) : ReadQ (c :: u) [] u := fun L r h => by
  unfold quoted at h
  simp only [List.cons_append, List.cons.injEq, List.append_assoc] at h
  exact ⟨L, rfl, h.2⟩
theorem readQ_step {t l u u' : List UInt8} {c : UInt8} (h : ReadQ t l u) (hn : u.head? ≠ some 34) (hd : docDec u = some (c, u')) : ReadQ t (l ++ [c]) u' := fun L r e => by
  obtain ⟨M, rfl, hu⟩ := h L r e
  cases M with
  | nil => rw [hu] at hn; exact absurd rfl hn
  | cons d M =>
    rw [List.flatMap_cons, List.append_assoc] at hu
    rw [hu, docDec_q] at hd
    simp only [Option.some.injEq, Prod.mk.injEq] at hd
    obtain ⟨rfl, rfl⟩ := hd
    exact ⟨M, by simp, rfl⟩
theorem readQ_none {t l u : List UInt8} (h : ReadQ t l u) (hn : u.head? ≠ some 34) (hd : docDec u = none) (L r : List UInt8) : t ≠ quoted L ++ r := fun e => by
  obtain ⟨M, rfl, hu⟩ := h L r e
  cases M with
  | nil => rw [hu] at hn; exact absurd rfl hn
  | cons d M =>
    rw [List.flatMap_cons, List.append_assoc] at hu
    rw [hu, docDec_q] at hd
    cases hd
theorem readQ_end {t l : List UInt8} (h : ReadQ t l []) (L r : List UInt8) : t ≠ quoted L ++ r := fun e => by
  obtain ⟨M, rfl, hu⟩ := h L r e
  exact absurd hu (by simp)
theorem readQ_shut {t l u : List UInt8} (h : ReadQ t l (34 :: u)) (L r : List UInt8) (e : t = quoted L ++ r) : L = l ∧ r = u := by
  obtain ⟨M, rfl, hu⟩ := h L r e
  cases M with
  | nil => simp at hu; exact ⟨by simp, hu.symm⟩
  | cons d M =>
    rw [List.flatMap_cons, List.append_assoc] at hu
    have := q_head d (M.flatMap qB ++ 34 :: r)
    rw [← hu] at this
    exact absurd rfl this

set_option maxRecDepth 100000 in
theorem digit_any (c : UInt8) (w : World) :
    Calls Tryd.prog 37 #[.int .u8 (c.toNat : Int)] w fun e w' => e = .returned (.int .i64 (digN c)) ∧ w = w' := by
  have hc := c.toNat_lt
  unfold digN
  by_cases h1 : 48 ≤ c.toNat
  · by_cases h2 : c.toNat ≤ 57
    · rw [if_pos ⟨h1, h2⟩]
      have g1 : (48 : Int) ≤ (c.toNat : Int) := by omega
      have g2 : (c.toNat : Int) ≤ 57 := by omega
      have u1 : IntKind.u8.wrap ((c.toNat : Int) - 48) = (c.toNat : Int) - 48 := by rw [IntKind.wrap_u8]; omega
      have u2 : IntKind.i64.wrap ((c.toNat : Int) - 48) = (c.toNat : Int) - 48 := by rw [IntKind.wrap_i64]; omega
      go_enter Tryd.func37, Tryd.ntmps37
      go_wp2_with fail
      go_ret
      exact ⟨rfl, rfl⟩
    · rw [if_neg (by omega)]
      have g1 : (48 : Int) ≤ (c.toNat : Int) := by omega
      have g2 : ¬ (c.toNat : Int) ≤ 57 := by omega
      by_cases h3 : 97 ≤ c.toNat
      · have g3 : (97 : Int) ≤ (c.toNat : Int) := by omega
        by_cases h4 : c.toNat ≤ 102
        · rw [if_pos ⟨h3, h4⟩]
          have g4 : (c.toNat : Int) ≤ 102 := by omega
          have u1 : IntKind.u8.wrap ((c.toNat : Int) - 97) = (c.toNat : Int) - 97 := by rw [IntKind.wrap_u8]; omega
          have u2 : IntKind.i64.wrap ((c.toNat : Int) - 97) = (c.toNat : Int) - 97 := by rw [IntKind.wrap_i64]; omega
          have u3 : IntKind.i64.wrap ((c.toNat : Int) - 97 + 10) = (c.toNat : Int) - 87 := by rw [IntKind.wrap_i64]; omega
          have u4 : wrap64 ((c.toNat : Int) - 97 + 10) = (c.toNat : Int) - 87 := by unfold wrap64; omega
          go_enter Tryd.func37, Tryd.ntmps37
          go_wp2_with fail
          go_ret
          exact ⟨by first | rfl | (simp only [u1, u2, u3, u4]), rfl⟩
        · rw [if_neg (by omega)]
          have g4 : ¬ (c.toNat : Int) ≤ 102 := by omega
          go_enter Tryd.func37, Tryd.ntmps37
          go_wp2_with fail
          go_ret
          exact ⟨rfl, rfl⟩
      · rw [if_neg (by omega)]
        have g3 : ¬ (97 : Int) ≤ (c.toNat : Int) := by omega
        go_enter Tryd.func37, Tryd.ntmps37
        go_wp2_with fail
        go_ret
        exact ⟨rfl, rfl⟩
  · rw [if_neg (by omega), if_neg (by omega)]
    have g1 : ¬ (48 : Int) ≤ (c.toNat : Int) := by omega
    have g3 : ¬ (97 : Int) ≤ (c.toNat : Int) := by omega
    go_enter Tryd.func37, Tryd.ntmps37
    go_wp2_with fail
    go_ret
    exact ⟨rfl, rfl⟩
end Go.Proofs.YtmjobnakaamlpaaDoor
