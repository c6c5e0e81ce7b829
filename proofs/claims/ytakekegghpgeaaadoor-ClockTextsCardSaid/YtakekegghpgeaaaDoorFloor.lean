/-
  The quotient rounded down, in both packages, as contracts.
-/
import Derived.Test.YtakekegghpgeaaaDoorRefs
namespace Go.Proofs.YtakekegghpgeaaaDoor
open Go.RowKit

def floorErr (a b : Int) : Int := if inR a (-1000000000000000) 1000000000000000 = true ∧ inR b 1 1000000000 = true then 0 else 7
def floorVal (a b : Int) : Int := if inR a (-1000000000000000) 1000000000000000 = true ∧ inR b 1 1000000000 = true then a / b else 0

end Go.Proofs.YtakekegghpgeaaaDoor
