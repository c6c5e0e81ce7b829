/-
  A meet of package mark: its inputs and its mark in blocks of the call's own; the least mark of the busy inputs.
-/
import Derived.Test.YtmnbcofonhlplaaDoorLf
import Derived.Laws.MakeOwn
namespace Go.Proofs.YtmnbcofonhlplaaDoor
open Go.RowKit Go.Lib

theorem quiet_eq {P : Program} {f : FuncId} {args : Array Value} {w : World} {n : Nat} {v : Value} (h : Calls P f args (w.drewN n) fun e w' => e = .returned v ∧ w.drewN n = w') : Calls P f args (w.drewN n) fun e w'' => e = .returned v ∧ ∃ m, w'' = w.drewN m :=
  h.mono fun _ _ ⟨he, hm⟩ => ⟨he, n, hm.symm⟩

theorem below_drewN {n₀ : Nat} {w w' : World} (h : Below n₀ w w') (n : Nat) : Below n₀ w (w'.drewN n) := ⟨h.os, h.tape, h.output, h.size, h.block⟩
/-- An input: its mark, whether it is idle, whether it is closed. -/
abbrev Inp := Int × Bool × Bool
abbrev in0 : Inp := (-1000000000000, false, false)
def markR (m : Int) : Prop := -1000000000000 ≤ m ∧ m ≤ 1000000000001
def cellsP (x : Inp) : List Value := [.int .i64 (x.1 + 1000000000000), .bool x.2.1, .bool x.2.2]
def flatP (xs : List Inp) : List Value := xs.flatMap cellsP
theorem flatP_len (xs : List Inp) : (flatP xs).length = xs.length * 3 := by
  induction xs with
  | nil => rfl
  | cons x xs ih => simp only [flatP, List.flatMap_cons, cellsP, List.length_append, List.length_cons, List.length_nil] at ih ⊢; omega
theorem flatP_get (xs : List Inp) : ∀ i, i < xs.length → (flatP xs)[i * 3]? = some (.int .i64 ((xs[i]?.getD in0).1 + 1000000000000)) ∧ (flatP xs)[i * 3 + 1]? = some (.bool (xs[i]?.getD in0).2.1) ∧ (flatP xs)[i * 3 + 2]? = some (.bool (xs[i]?.getD in0).2.2) := by
  induction xs with
  | nil => intro i h; simp at h
  | cons x xs ih =>
    intro i h
    cases i with
    | zero => simp [flatP, cellsP]
    | succ i =>
      have := ih i (by simpa using h)
      rw [show (i + 1) * 3 = i * 3 + 3 by omega]
      simpa [flatP, cellsP] using this
/-- The inputs lie in block I. -/
def InsP (W : World) (I : Nat) (xs : List Inp) : Prop :=
  ∀ i, i < xs.length → W.cell? ⟨I, i * 3, none⟩ = some (.int .i64 ((xs[i]?.getD in0).1 + 1000000000000)) ∧ W.cell? ⟨I, i * 3 + 1, none⟩ = some (.bool (xs[i]?.getD in0).2.1) ∧ W.cell? ⟨I, i * 3 + 2, none⟩ = some (.bool (xs[i]?.getD in0).2.2)
theorem InsP.belowV {n₀ I : Nat} {W W' : World} {xs : List Inp} (h : InsP W I xs) (hb : Below n₀ W W') (hI : I < n₀) : InsP W' I xs := fun i hi =>
  ⟨(hb.cell (p := ⟨I, i * 3, none⟩) hI).trans (h i hi).1, (hb.cell (p := ⟨I, i * 3 + 1, none⟩) hI).trans (h i hi).2.1, (hb.cell (p := ⟨I, i * 3 + 2, none⟩) hI).trans (h i hi).2.2⟩
/-- The least mark of the busy inputs, as far as it is found. -/
def stepL (a : Int × Bool) (x : Inp) : Int × Bool := if x.2.1 = false ∧ (a.2 = false ∨ x.1 < a.1) then (x.1, true) else a
def leastM (xs : List Inp) : Int × Bool := xs.foldl stepL (0, false)
theorem least_next {xs : List Inp} {i : Nat} (hi : i < xs.length) : leastM (xs.take (i + 1)) = stepL (leastM (xs.take i)) (xs[i]?.getD in0) := by
  unfold leastM
  rw [List.take_succ_eq_append_getElem hi, List.foldl_append, List.getElem?_eq_getElem hi]
  rfl
theorem mark_at {xs : List Inp} (h : ∀ x ∈ xs, markR x.1) {i : Nat} (hi : i < xs.length) : markR (xs[i]?.getD in0).1 := by
  rw [List.getElem?_eq_getElem hi]; exact h _ (List.getElem_mem hi)

def LeastPost (w : World) (xs : List Inp) (e : Ending) (w' : World) : Prop := e = .returned (.tuple #[.int .i64 (leastM xs).1, .bool (leastM xs).2]) ∧ Below w.heap.size w w'
end Go.Proofs.YtmnbcofonhlplaaDoor
