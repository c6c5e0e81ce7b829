/-
  Fits, in both packages.
-/
import Derived.Test.YtlhhkiglpehnfaaDoorFind
import Derived.Test.YtlhhkiglpehnfaaDoorText
namespace Go.Proofs.YtlhhkiglpehnfaaDoor
open Go.RowKit
set_option linter.unusedVariables false

def valAt (xs : List Val) (i : Nat) : Val := xs[i]?.getD v0
def fitAt (l : List Col) (xs : List Val) (i : Nat) : Prop := (valAt xs i).1 = 0 ∨ (valAt xs i).1 = (colAt l i).2
instance (l : List Col) (xs : List Val) (i : Nat) : Decidable (fitAt l xs i) := by unfold fitAt; infer_instance
def fitOK (l : List Col) (xs : List Val) : Bool := schemaOK l && (validRow xs && (decide (xs.length = l.length) && decide (∀ i, i < xs.length → fitAt l xs i)))

end Go.Proofs.YtlhhkiglpehnfaaDoor
