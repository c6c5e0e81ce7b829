/-
  Items of the call's own, with rows of the call's own.
-/
import Derived.Test.YtledgnolmiecfaaGreatDoorAsBag
namespace Go.Proofs.YtledgnolmiecfaaGreatDoor
open Go.RowKit
set_option linter.unusedSimpArgs false

/-- Items on a row of the call's own, whose rows are the call's own too. -/
def OwnItems (W : World) (B : Nat) (v : Value) (os : List ItR) : Prop :=
  W.ownsRow B 38 2 v os.length (flatI os) ∧ ∀ r ∈ os, OwnsV W B (rowv r.1) r.1.2.1
theorem OwnItems.nil (W : World) (B : Nat) : OwnItems W B (.slice none 0 0) [] := ⟨World.ownsRow_nil _ _ _ _, by simp⟩
theorem OwnItems.below {W W' : World} {B : Nat} {v : Value} {os : List ItR} (h : OwnItems W B v os) (hb : Below W.heap.size W W') : OwnItems W' B v os := ⟨owns_below h.1 hb, fun r hr => owns_below (h.2 r hr) hb⟩
/-- Two rows of the call's own of two types lie in two blocks. -/
theorem own_apart {W : World} {B n m : Nat} {v u : Value} {L M : List Value} (h : W.ownsRow B 38 2 v n L) (k : W.ownsRow B 40 3 u m M) : u.ownBlock = none ∨ u.ownBlock ≠ v.ownBlock := by
  rcases k.2 with ⟨rfl, _⟩ | ⟨g, cap, cur, rfl, _, hg, _⟩
  · exact .inl rfl
  · refine .inr fun e => ?_
    rcases h.2 with ⟨rfl, _⟩ | ⟨g2, cap2, cur2, rfl, _, hg2, _⟩
    · simp [Value.ownBlock] at e
    · simp only [Value.ownBlock, Option.some.injEq] at e
      subst e
      rw [hg] at hg2
      simp at hg2
theorem OwnItems.appended {W w5 : World} {B : Nat} {v v' : Value} {os : List ItR} {x : ItR} {tmp : Obj} (h : OwnItems W B v os) (hx : OwnsV W B (rowv x.1) x.1.2.1)
    (hown' : w5.ownsRow B 38 2 v' (os.length + 1) (flatI os ++ cellsI x)) (hg : (W.alloc tmp).grownBy w5 v.ownBlock) : OwnItems w5 B v' (os ++ [x]) := by
  refine ⟨by rw [List.length_append, flatI_app]; simpa [flatI] using hown', fun r hr => ?_⟩
  have key : ∀ r : ItR, OwnsV W B (rowv r.1) r.1.2.1 → OwnsV w5 B (rowv r.1) r.1.2.1 := fun r hr => (hr.alloc tmp).kept hg (own_apart h.1 hr)
  rcases List.mem_append.1 hr with hr | hr
  · exact key r (h.2 r hr)
  · rw [List.mem_singleton] at hr
    subst hr
    exact key r hx
theorem rowOK_of_owns {W : World} {B : Nat} {r : RowV} (h : OwnsV W B (rowv r) r.2.1) (hl : r.2.1.length ≤ 9223372036854775807) : RowOK W r ∧ (r.1 = none → r.2.2 = 0) := by
  obtain ⟨p, xs, c⟩ := r
  refine ⟨⟨hl, valsIn_of_owns h⟩, fun e => ?_⟩
  dsimp only at e
  subst e
  rcases h.2 with ⟨e, _⟩ | ⟨g, cap, cur, e, _⟩
  · simp only [rowv, Value.slice.injEq] at e; exact e.2.2
  · simp [rowv] at e
theorem OwnItems.items {W : World} {B n cap : Nat} {p : Option Addr} {os : List ItR} (h : OwnItems W B (.slice p n cap) os) (hn : n = os.length) (hl : ∀ r ∈ os, r.1.2.1.length ≤ 9223372036854775807) : ItemsIn W p os :=
  items_of_own hn (by have := h.1; rwa [← hn] at this) fun r hr => rowOK_of_owns (h.2 r hr) (hl r hr)

end Go.Proofs.YtledgnolmiecfaaGreatDoor
