/-
  The document's own Valid of bags, as a contract.
-/
import Derived.Test.YtkldokmmboebmaaFollows
import Derived.Deep.RegionHeld3
namespace Go.Proofs.Ytkldokmmboebmaa
open Go.RowKit

/-- Each item in itself, and behind the one ahead of it. -/
def stepB (l : List It) (i : Nat) : Bool := itOK (l[i]?.getD it0) && (decide (i = 0) || decide (cmpRow (l[i - 1]?.getD it0).1 (l[i]?.getD it0).1 < 0))
def goodTo (l : List It) (i : Nat) : Prop := ∀ k, k < i → stepB l k = true
theorem up_of_steps {l : List It} (h : ∀ k, k + 1 < l.length → cmpRow (l[k]?.getD it0).1 (l[k + 1]?.getD it0).1 < 0) : Up l := by
  induction l with
  | nil => exact .nil
  | cons x l ih =>
    have hl : Up l := ih fun k hk => by
      have := h (k + 1) (by simp only [List.length_cons]; omega)
      simpa using this
    refine List.pairwise_cons.2 ⟨fun y hy => ?_, hl⟩
    cases l with
    | nil => cases hy
    | cons z l =>
      have h0 : cmpRow x.1 z.1 < 0 := by simpa using h 0 (by simp)
      rcases List.mem_cons.1 hy with rfl | hy
      · exact h0
      · exact cmp_lt_trans h0 (up_head hl hy)
theorem valid_of_good {l : List It} : validBag l = true ↔ goodTo l l.length ∧ l.length ≤ 400 := by
  rw [validBag_iff]
  constructor
  · rintro ⟨h1, h2, h3⟩
    refine ⟨fun k hk => ?_, h1⟩
    unfold stepB
    rw [Bool.and_eq_true, Bool.or_eq_true, decide_eq_true_eq, decide_eq_true_eq]
    refine ⟨by rw [List.getElem?_eq_getElem hk]; exact h2 _ (List.getElem_mem hk), ?_⟩
    by_cases e : k = 0
    · exact .inl e
    · refine .inr ?_
      rw [List.getElem?_eq_getElem hk, List.getElem?_eq_getElem (by omega)]
      exact List.pairwise_iff_getElem.1 h3 (k - 1) k (by omega) hk (by omega)
  · rintro ⟨h1, h2⟩
    have hs : ∀ k, k < l.length → itOK (l[k]?.getD it0) = true ∧ (k = 0 ∨ cmpRow (l[k - 1]?.getD it0).1 (l[k]?.getD it0).1 < 0) := fun k hk => by
      have := h1 k hk
      unfold stepB at this
      rwa [Bool.and_eq_true, Bool.or_eq_true, decide_eq_true_eq, decide_eq_true_eq] at this
    refine ⟨h2, fun x hx => ?_, up_of_steps fun k hk => ?_⟩
    · obtain ⟨k, hk, rfl⟩ := List.getElem_of_mem hx
      have := (hs k hk).1
      rwa [List.getElem?_eq_getElem hk] at this
    · rcases (hs (k + 1) hk).2 with h | h
      · omega
      · simpa using h
theorem bad_of_step {l : List It} {i : Nat} (hi : i < l.length) (h : stepB l i = false) : validBag l = false := by
  cases e : validBag l with
  | false => rfl
  | true => have := (valid_of_good.1 e).1 i hi; rw [h] at this; exact this.symm
theorem good_next {l : List It} {i : Nat} (h : goodTo l i) (hi : stepB l i = true) : goodTo l (i + 1) := fun k hk => by
  by_cases e : k = i
  · subst e; exact hi
  · exact h k (by omega)

end Go.Proofs.Ytkldokmmboebmaa
