/-
  Set, Idle, Busy, Close of a meet of package mark, as contracts.
-/
import Derived.Test.YtmnbcofonhlplaaDoorMp
namespace Go.Proofs.YtmnbcofonhlplaaDoor
open Go.RowKit Go.Lib
set_option linter.unusedSimpArgs false

theorem keep2_of_grew {w w1 : World} {B I : Nat} (k : Grew w I w1) : Keep2 w w1 B (some I) := keep2_of_grown k
/-- What Set comes to: its error, the inputs and the mark behind it. -/
def setErr (xs : List Inp) (i m : Int) : Int := if inR i 0 ((xs.length : Int) - 1) = false ∨ inR m (-1000000000000) 1000000000001 = false then 7 else if m < (xs[i.toNat]?.getD in0).1 then 10 else 0
def setXs (xs : List Inp) (i m : Int) : List Inp := if setErr xs i m = 0 then xs.set i.toNat (m, false, (xs[i.toNat]?.getD in0).2.2) else xs
def setAt (xs : List Inp) (i m at_ : Int) : Int := if setErr xs i m = 0 then onM (setXs xs i m) at_ else at_

/-- What Idle, Busy and Close come to. -/
def chgErr (xs : List Inp) (i : Int) : Int := if inR i 0 ((xs.length : Int) - 1) = false then 7 else if (xs[i.toNat]?.getD in0).2.2 = true then 10 else 0
def turnI (k : Int) (x : Inp) : Inp := if k = 1 then (x.1, true, x.2.2) else if k = 2 then (x.1, false, x.2.2) else (1000000000001, false, true)
def chgXs (k : Int) (xs : List Inp) (i : Int) : List Inp := if chgErr xs i = 0 then xs.set i.toNat (turnI k (xs[i.toNat]?.getD in0)) else xs
def chgAt (k : Int) (xs : List Inp) (i at_ : Int) : Int := if chgErr xs i = 0 then onM (chgXs k xs i) at_ else at_
end Go.Proofs.YtmnbcofonhlplaaDoor
