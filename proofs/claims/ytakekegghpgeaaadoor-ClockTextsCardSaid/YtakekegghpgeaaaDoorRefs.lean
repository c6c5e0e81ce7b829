/-
  Valid, ValidWindow, Contains, Touch, Compare, Floor: of package clock and of the document's own answers, as contracts.
-/
import Derived.Test.YtakekegghpgeaaaDoorLeaf
import Derived.Test.YtakekegghpgeaaaDoorSame
import Derived.WalkLawsBesides
namespace Go.Proofs.YtakekegghpgeaaaDoor
open Go.RowKit

def winOK (a b : Int) : Bool := decide (a < b ∧ -2000000000000 ≤ a ∧ b ≤ 2000000000000)
theorem winOK_iff (a b : Int) : winOK a b = true ↔ a < b ∧ -2000000000000 ≤ a ∧ b ≤ 2000000000000 := decide_eq_true_iff
theorem winOK_yes {a b : Int} (h : a < b ∧ -2000000000000 ≤ a ∧ b ≤ 2000000000000) : winOK a b = true := decide_eq_true h
theorem winOK_no {a b : Int} (h : ¬ (a < b ∧ -2000000000000 ≤ a ∧ b ≤ 2000000000000)) : winOK a b = false := decide_eq_false h
def inWin (a b t : Int) : Bool := decide ((a < b ∧ -2000000000000 ≤ a ∧ b ≤ 2000000000000) ∧ (-1000000000000 ≤ t ∧ t ≤ 1000000000000) ∧ a ≤ t ∧ t < b)
def touches (a b c d : Int) : Bool := decide ((a < b ∧ -2000000000000 ≤ a ∧ b ≤ 2000000000000) ∧ (c < d ∧ -2000000000000 ≤ c ∧ d ≤ 2000000000000) ∧ a < d ∧ c < b)
def cmpW (a b c d : Int) : Int := if a = c ∧ b = d then 0 else if a < c ∨ (a = c ∧ b < d) then -1 else 1
theorem retB {a b : Bool} (h : a = b) : Ending.returned (.bool a) = .returned (.bool b) := by rw [h]

theorem refWithin_any (n lo hi : Int) (w : World) :
    Calls Tryd.prog 25 #[.int .i64 n, .int .i64 lo, .int .i64 hi] w fun e w' => e = .returned (.bool (inR n lo hi)) ∧ w = w' := by
  by_cases h : lo ≤ n
  · go_enter Tryd.func25, Tryd.ntmps25
    go_wp2
    go_ret
    exact ⟨by simp [inR, h], rfl⟩
  · have h' : n < lo := by omega
    go_enter Tryd.func25, Tryd.ntmps25
    go_wp2
    go_ret
    exact ⟨by rw [inR_no (by omega)]; rfl, rfl⟩

theorem clkValid_any (t : Int) (w : World) :
    Calls Tryd.prog 20 #[.int .i64 t] w fun e w' => e = .returned (.bool (inR t (-1000000000000) 1000000000000)) ∧ w = w' := by
  go_enter Tryd.func20, Tryd.ntmps20
  go_wp2_with (go_at_call 17; refine (within_any _ _ _ _).mono ?_; rintro e w' ⟨rfl, rfl⟩)
  go_ret
  exact ⟨rfl, rfl⟩

end Go.Proofs.YtakekegghpgeaaaDoor
