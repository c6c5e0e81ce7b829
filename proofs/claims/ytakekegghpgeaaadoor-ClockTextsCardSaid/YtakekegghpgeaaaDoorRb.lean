/-
  Parse of the document's own clock, as a contract.
-/
import Derived.Test.YtakekegghpgeaaaDoorRp
import Derived.BigRegion
namespace Go.Proofs.YtakekegghpgeaaaDoor
open Go.RowKit Go.Lib
set_option linter.unusedSimpArgs false

/-- What the document's Parse makes of the words. -/
def refSpecL (l : List (List UInt8)) : List Int :=
  match l with
  | [_] => [4, 0, 0, 0, 0]
  | [_, a] => [3, 0, 0, (numVal a).1, 0]
  | [_, a, b] => [1, (numVal a).1, 0, 0, (numVal b).1]
  | [_, a, b, c] => [2, (numVal a).1, (numVal b).1, 0, (numVal c).1]
  | _ => [0, 0, 0, 0, 0]
theorem refSpecL_len (l : List (List UInt8)) : (refSpecL l).length = 5 := by
  unfold refSpecL
  split <;> rfl
theorem refSpecL_spec {k sz st g sh : Int} (hok : specOK k sz st g sh = true) : refSpecL (nameT k :: (numsT k sz st g sh).map itoa) = [k, sz, st, g, sh] := by
  have hp := (specOK_iff k sz st g sh).1 hok
  unfold specP at hp
  rcases hp with ⟨rfl, rfl, rfl, hp⟩ | ⟨rfl, rfl, hp⟩ | ⟨rfl, rfl, rfl, rfl, hp⟩ | ⟨rfl, rfl, rfl, rfl, rfl⟩
  · have a1 := num_itoa (n := sz) (by omega) (by omega)
    have a2 := num_itoa (n := sh) (by omega) (by omega)
    simp [refSpecL, numsT, a1, a2]
  · have a1 := num_itoa (n := sz) (by omega) (by omega)
    have a2 := num_itoa (n := st) (by omega) (by omega)
    have a3 := num_itoa (n := sh) (by omega) (by omega)
    simp [refSpecL, numsT, a1, a2, a3]
  · have a1 := num_itoa (n := g) (by omega) (by omega)
    simp [refSpecL, numsT, a1]
  · simp [refSpecL, numsT]
theorem heap_ne {w : World} {o : Obj} {g : Nat} (h : g < w.heap.size) : w.heap.size ≠ g := by omega
theorem drew_cell (W : World) (p : Addr) : W.drew.cell? p = W.cell? p := rfl
theorem spl_drew {W : World} {S : Nat} {l : List Int} (h : SpL W S l) : SpL W.drew S l := h
theorem cell_far5 {w : World} {g S : Nat} {i : Nat} {u : Value} {x0 x1 x2 x3 x4 : Value} (h : g ≠ S) (hc : w.cell? ⟨g, i, none⟩ = some u) : (((((w.setCell ⟨S, 0, none⟩ x0).setCell ⟨S, 1, none⟩ x1).setCell ⟨S, 2, none⟩ x2).setCell ⟨S, 3, none⟩ x3).setCell ⟨S, 4, none⟩ x4).cell? ⟨g, i, none⟩ = some u := by
  have e : ∀ (W : World) (p : Addr) (x : Value), p.block = S → (W.setCell p x).heap[g]? = W.heap[g]? := fun W p x hp => Below.heap_setCell W p x g (by rw [hp]; exact h)
  unfold World.cell? at hc ⊢
  rw [e _ _ _ rfl, e _ _ _ rfl, e _ _ _ rfl, e _ _ _ rfl, e _ _ _ rfl]
  exact hc
theorem spl_far5 {w : World} {g S : Nat} {l : List Int} {x0 x1 x2 x3 x4 : Value} (h : g ≠ S) (hc : SpL w g l) : SpL (((((w.setCell ⟨S, 0, none⟩ x0).setCell ⟨S, 1, none⟩ x1).setCell ⟨S, 2, none⟩ x2).setCell ⟨S, 3, none⟩ x3).setCell ⟨S, 4, none⟩ x4) g l := by
  have e : ∀ (W : World) (p : Addr) (x : Value), p.block = S → (W.setCell p x).heap[g]? = W.heap[g]? := fun W p x hp => Below.heap_setCell W p x g (by rw [hp]; exact h)
  unfold SpL at hc ⊢
  rw [e _ _ _ rfl, e _ _ _ rfl, e _ _ _ rfl, e _ _ _ rfl, e _ _ _ rfl]
  exact hc
theorem specT_ne {k sz st g sh : Int} (hok : specOK k sz st g sh = true) : specT k sz st g sh ≠ [] := by
  have hp := (specOK_iff k sz st g sh).1 hok
  unfold specP at hp
  unfold specT
  rcases hp with ⟨rfl, _⟩ | ⟨rfl, _⟩ | ⟨rfl, _⟩ | ⟨rfl, _⟩ <;> exact fun h => absurd (List.append_eq_nil_iff.1 h).1 (by decide)
end Go.Proofs.YtakekegghpgeaaaDoor
