/-
  number of the document's own clock; what its Parse makes of the words.
-/
import Derived.Test.YtakekegghpgeaaaDoorPa
namespace Go.Proofs.YtakekegghpgeaaaDoor
open Go.RowKit Go.Lib
set_option linter.unusedSimpArgs false

theorem refNumber_any (x : ByteArray) (hx : x.size ≤ 100) (w : World) : Calls Tryd.prog 19 #[.string x] w fun e w' => e = .returned (.int .i64 (numVal x.data.toList).1) ∧ w = w' := by
  have HN := Lib.hid fun W => number_any x (by omega) W
  clear hx
  generalize (numVal x.data.toList).1 = n at HN ⊢
  generalize (numVal x.data.toList).2 = b at HN
  go_enter Tryd.func19, Tryd.ntmps19
  go_wp2_with fail
  refine (HN.out _).mono ?_
  rintro e w1 ⟨rfl, rfl⟩
  go_wp2_with fail
  go_ret
  exact ⟨rfl, rfl⟩
/-- What the document's Parse makes of the words. -/
def refSpec (ws : List ByteArray) : List Int :=
  match ws with
  | [_] => [4, 0, 0, 0, 0]
  | [_, a] => [3, 0, 0, (numVal a.data.toList).1, 0]
  | [_, a, b] => [1, (numVal a.data.toList).1, 0, 0, (numVal b.data.toList).1]
  | [_, a, b, c] => [2, (numVal a.data.toList).1, (numVal b.data.toList).1, 0, (numVal c.data.toList).1]
  | _ => [0, 0, 0, 0, 0]
end Go.Proofs.YtakekegghpgeaaaDoor
