/-
  Find and Fits, in both packages.
-/
import Derived.Test.YtlhhkiglpehnfaaDoorRefSchema
namespace Go.Proofs.YtlhhkiglpehnfaaDoor
open Go.RowKit

theorem firstAt_cases (l : List Col) (s : ByteArray) : (firstAt l s = -1 ∧ ∀ j, j < l.length → (colAt l j).1 ≠ s) ∨ (∃ j : Nat, j < l.length ∧ firstAt l s = (j : Int) ∧ (colAt l j).1 = s) := by
  by_cases h : l.findIdx (fun c => decide (c.1 = s)) < l.length
  · right
    refine ⟨_, h, by unfold firstAt; rw [if_pos h], ?_⟩
    have h2 := List.findIdx_getElem (w := h)
    simp only [decide_eq_true_eq] at h2
    simpa [colAt, h] using h2
  · left
    refine ⟨by unfold firstAt; rw [if_neg h], fun j hj e => h (List.findIdx_lt_length_of_exists ⟨l[j], List.getElem_mem hj, by simpa [colAt, hj] using e⟩)⟩
def findErr (l : List Col) (s : ByteArray) : Int := if schemaOK l = false then 1 else if firstAt l s = -1 then 5 else 0
def findVal (l : List Col) (s : ByteArray) : Int := if findErr l s = 0 then firstAt l s else 0
def NumsPost (w : World) (n er : Int) (e : Ending) (w' : World) : Prop := e = .returned (.tuple #[.int .i64 n, .int .i64 er]) ∧ Below w.heap.size w w'
theorem zeroI (w : World) : (zeroValue 3).run Tryd.prog w = .ok (.int .i64 0) w := by first | exact Tryd.zero3 w | kernel_rfl | rfl

end Go.Proofs.YtlhhkiglpehnfaaDoor
