/-
  The document's own Merged, as a contract: what it hands back ascends, does not touch, and covers what came in.
-/
import Derived.Test.YthbpdalkifocaaaPut
import Derived.StillTailTactics
namespace Go.Proofs.Ythbpdalkifocaaa
open Go.RowKit

/-- Merged's result. -/
def MergedPost (w : World) (xs : List (Int × Int)) (e : Ending) (w' : World) : Prop :=
  ∃ ys, Sep ys ∧ (∀ p, cov ys p ↔ cov xs p) ∧ ys.length ≤ xs.length ∧ RowPost w.heap.size w ys e w'

def lenOf : Value → Nat
  | .slice _ n _ => n
  | _ => 0
def bitOf : Value → Nat
  | .bool true => 1
  | _ => 0
theorem lenOf_owns {w : World} {base : Nat} {o : Value} {n : Nat} {xs : List Value} (h : w.ownsRow base 31 2 o n xs) : lenOf o = n := by
  rcases h.2 with ⟨rfl, h0⟩ | ⟨g, cap, cur, rfl, _⟩
  · exact h0.symm
  · rfl

/-- What the outer loop knows when i windows are merged. -/
def OutI (xs ys : List (Int × Int)) (i : Nat) : Prop := Sep ys ∧ ∀ p, cov ys p ↔ cov (xs.take i) p
/-- What the middle loop knows. -/
def MidI (xs ys : List (Int × Int)) (w : Win) (again : Bool) (i : Nat) : Prop :=
  Sep ys ∧ okW w ∧ (∀ p, (cov ys p ∨ covW w p) ↔ cov (xs.take (i + 1)) p) ∧ (again = false → ∀ x ∈ ys, touches x.1 x.2 w.1 w.2 = false)

theorem take_cov (xs : List (Int × Int)) (i : Nat) (h : i < xs.length) (p : Int) : cov (xs.take (i + 1)) p ↔ cov (xs.take i) p ∨ covW (xs[i]?.getD (0, 0)) p := by
  rw [List.take_succ_eq_append_getElem h, cov_append, cov_cons]
  have := cov_nil p
  simp only [List.getElem?_eq_getElem h, Option.getD_some]
  constructor
  · rintro (h | h | h)
    · exact .inl h
    · exact .inr h
    · exact absurd h this
  · rintro (h | h)
    · exact .inl h
    · exact .inr (.inl h)

theorem mid_start {xs ys : List (Int × Int)} {i : Nat} (h : OutI xs ys i) (hi : i < xs.length) (hok : okW (xs[i]?.getD (0, 0))) : MidI xs ys (xs[i]?.getD (0, 0)) true i :=
  ⟨h.1, hok, fun p => by rw [take_cov xs i hi, h.2 p], fun h => by cases h⟩

theorem mid_pass {xs ys : List (Int × Int)} {w : Win} {i : Nat} {again : Bool} (h : MidI xs ys w again i) : MidI xs (pass ys ([], w, false)).1 (pass ys ([], w, false)).2.1 (pass ys ([], w, false)).2.2 i ∧
    (pass ys ([], w, false)).1.length ≤ ys.length ∧ ((pass ys ([], w, false)).2.2 = true → (pass ys ([], w, false)).1.length < ys.length) := by
  obtain ⟨h1, h2, h3, h4⟩ := h
  have hf := pass_facts ys ([], w, false) h2 h1.1
  obtain ⟨k, k1, k2, k3, k4⟩ := hf.sub
  simp only [List.nil_append] at k1
  refine ⟨⟨by rw [k1]; exact h1.sublist k2, hf.ok, fun p => ?_, fun hb => ?_⟩, by rw [k1]; exact k2.length_le, fun hb => by rw [k1]; exact k4 rfl hb⟩
  · rw [hf.cov p, ← h3 p]
    have := cov_nil p
    constructor
    · rintro (h | h | h)
      · exact absurd h this
      · exact .inr h
      · exact .inl h
    · rintro (h | h)
      · exact .inr (.inr h)
      · exact .inr (.inl h)
  · obtain ⟨_, g2, g3⟩ := hf.still hb
    rw [k1, k3 hb, g2]
    exact g3

theorem mid_end {xs ys : List (Int × Int)} {w : Win} {i : Nat} (h : MidI xs ys w false i) : OutI xs (putF w ys) (i + 1) := by
  obtain ⟨h1, h2, h3, h4⟩ := h
  refine ⟨putF_sep w h2 h1 fun x hx => beside (h1.1 x hx) h2 (h4 rfl x hx), fun p => ?_⟩
  rw [putF_cov, ← h3 p]
  exact Or.comm

theorem putF_len (w : Win) : ∀ l : List Win, (putF w l).length ≤ l.length + 1
  | [] => by simp [putF]
  | x :: l => by
    unfold putF
    have := putF_len w l
    split
    · split <;> simp
    · simp; omega
end Go.Proofs.Ythbpdalkifocaaa
