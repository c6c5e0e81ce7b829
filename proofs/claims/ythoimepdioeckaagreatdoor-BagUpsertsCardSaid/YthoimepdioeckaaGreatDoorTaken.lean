/-
  What has come of a map's elements, in whatever order; plain facts. And how a map's element reads that is looked at as it stands.
-/
import Derived.Test.YthoimepdioeckaaGreatDoorGath
import Derived.Maps.RangeWalk
import Derived.Sort.MapsRangeIn
namespace Go.Proofs.YthoimepdioeckaaGreatDoor
open Go.RowKit

/-- An element reads as itself. -/
def heldR (v : Value) : Option (DataW Value × List MemPlace) := some (.held v, [])
theorem heldR_inv {v : Value} {y : DataW Value × List MemPlace} (h : heldR v = some y) : y = (.held v, []) := by unfold heldR at h; exact (Option.some.inj h).symm

section
variable {E : Type} {row : E → List Val}
variable (row) in
structure Taken (acc : List E) (left : Lit → Bool) (ps : List E) : Prop where
  sub : ∀ y ∈ ps, y ∈ acc
  diff : Diff row ps
  mem : ∀ y ∈ acc, y ∈ ps ↔ left (.string (textOf (row y))) = false
theorem Taken.start {enc : E → Value} {acc : List E} {D : DataW Value} (h : GatOf row enc acc D) : Taken row acc (Maps.has D) [] where
  sub _ hy := by cases hy
  diff := .nil
  mem y hy := by
    have := (h.has (textOf (row y))).2 ⟨y, hy, rfl⟩
    rw [this]; simp
theorem diff_uniq {acc : List E} (h : Diff row acc) {u y : E} (hu : u ∈ acc) (hy : y ∈ acc) (e : row u = row y) : u = y := by
  have := List.pairwise_iff_getElem.1 h
  obtain ⟨i, hi, rfl⟩ := List.getElem_of_mem hu
  obtain ⟨j, hj, rfl⟩ := List.getElem_of_mem hy
  rcases Nat.lt_trichotomy i j with hl | hl | hl
  · exact absurd e (this i j hi hj hl)
  · subst hl; rfl
  · exact absurd e.symm (this j i hj hi hl)
theorem Taken.step {enc : E → Value} {acc : List E} {D : DataW Value} (h : GatOf row enc acc D) {left : Lit → Bool} {ps : List E} (t : Taken row acc left ps) {x : E} (hx : x ∈ acc) (hl : left (.string (textOf (row x))) = true) :
    Taken row acc (fun z => left z && !z.sameKey (.string (textOf (row x)))) (ps ++ [x]) := by
  have hnot : x ∉ ps := fun hm => by have := (t.mem x hx).1 hm; rw [hl] at this; cases this
  refine ⟨fun y hy => ?_, ?_, fun y hy => ?_⟩
  · rcases List.mem_append.1 hy with hy | hy
    · exact t.sub y hy
    · rw [List.mem_singleton] at hy; rw [hy]; exact hx
  · have := t.diff
    unfold Diff at *
    rw [List.pairwise_append]
    refine ⟨this, by simp, fun a ha b hb e => ?_⟩
    rw [List.mem_singleton] at hb
    subst hb
    exact hnot (diff_uniq h.diff (t.sub a ha) hx e ▸ ha)
  · rw [List.mem_append, List.mem_singleton]
    by_cases e : y = x
    · subst e
      rw [WideAt.sameKey_self (show WideAt.IsKeyLit (Lit.string _) from trivial)]
      simp
    · have hk : (Lit.string (textOf (row y))).sameKey (.string (textOf (row x))) = false := by
        cases hs : (Lit.string (textOf (row y))).sameKey (.string (textOf (row x))) with
        | false => rfl
        | true =>
          have := WideAt.sameKey_eq hs
          have e2 : textOf (row y) = textOf (row x) := by simpa using this
          exact absurd (diff_uniq h.diff hy hx (text_inj (h.valid y hy) (h.valid x hx) e2)) e
      rw [hk]
      simp only [e, or_false, Bool.not_false, Bool.and_true]
      exact t.mem y hy
theorem Taken.end_ {acc : List E} {left : Lit → Bool} {ps : List E} (h : Diff row acc) (t : Taken row acc left ps) (hl : ∀ kl, left kl = false) : ps.Perm acc := by
  have nd : ∀ {l : List E}, Diff row l → l.Nodup := fun h => List.Pairwise.imp (fun {a b} hab e => hab (by rw [e])) h
  exact (List.perm_ext_iff_of_nodup (nd t.diff) (nd h)).2 fun y => ⟨t.sub y, fun hy => (t.mem y hy).2 (hl _)⟩
end
end Go.Proofs.YthoimepdioeckaaGreatDoor
