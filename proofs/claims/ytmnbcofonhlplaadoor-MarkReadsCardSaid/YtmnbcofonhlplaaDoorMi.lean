/-
  NewMeet, Inputs, IsIdle of package mark, as contracts.
-/
import Derived.Test.YtmnbcofonhlplaaDoorMr
import Derived.Test.YtmnbcofonhlplaaDoorInt6
namespace Go.Proofs.YtmnbcofonhlplaaDoor
open Go.RowKit Go.Lib
set_option linter.unusedSimpArgs false

theorem infoN : (Tryd.prog.info? 3).map (fun i => (i.zero, i.size, i.bytes)) = some (some (.int .i64 0), 1, 8) := by kernel_rfl
theorem make_ints (n : Nat) (h : n ≤ 1000000) (W : World) :
    (Instr.makeSlice 42 (.int .i64 (n : Int)) (.int .i64 (n : Int))).run Tryd.prog W = .ok (.slice (some ⟨W.heap.size, 0, none⟩) n n) (W.alloc (.cells (madeCells #[.int .i64 0] (n * 1)) 3)) := by
  obtain ⟨i0, hi, hz0, hz1, hz2⟩ := info_parts infoN
  have hr := run_make W 42 3 i0 _ Tryd.underlying42 hi hz0 .i64 .i64 (n : Int) (n : Int) (by omega) (Int.le_refl _) (by rw [hz2]; omega) (by omega)
  rw [hz1, Int.toNat_natCast] at hr
  exact hr
theorem made_zero (n : Nat) : madeCells #[Value.int .i64 0] (n * 1) = (flatN (List.replicate n 0)).toArray := by
  apply Array.ext
  · simp [madeCells, flatN]
  · intro i h1 h2
    simp [madeCells, flatN, Nat.mod_one]
theorem made_ins (n : Nat) (h : n ≤ 8) : madeCells #[Value.int .i64 0, .bool false, .bool false] (n * 3) = (flatP (List.replicate n in0)).toArray := by
  match n, h with
  | 0, _ | 1, _ | 2, _ | 3, _ | 4, _ | 5, _ | 6, _ | 7, _ | 8, _ => show _ = _; kernel_rfl

theorem owned_ints {W : World} {lo g c : Nat} {ts : List Int} (h : W.ownsRow lo 3 1 (.slice (some ⟨g, 0, none⟩) ts.length c) ts.length (flatN ts)) : IntsIn W (some ⟨g, 0, none⟩) ts := by
  obtain ⟨p, c', e, hi⟩ := intsIn_of_owns (v := .slice (some ⟨g, 0, none⟩) ts.length c) h
  simp only [Value.slice.injEq] at e
  rw [e.1]; exact hi
def ListPost (w : World) (ts : List Int) (e : Ending) (w' : World) : Prop := ∃ p c, e = .returned (.slice p ts.length c) ∧ IntsIn w' p ts ∧ Below w.heap.size w w'
def ListPost2 (w : World) (ts : List Int) (er : Int) (e : Ending) (w' : World) : Prop := ∃ p c, e = .returned (.tuple #[.slice p ts.length c, .int .i64 er]) ∧ IntsIn w' p ts ∧ Below w.heap.size w w'
def marksM (xs : List Inp) : List Int := xs.map (·.1)
theorem marksM_get {xs : List Inp} {i : Nat} (hi : i < xs.length) : (marksM xs)[i]?.getD 0 = (xs[i]?.getD in0).1 := by simp [marksM, List.getElem?_eq_getElem hi]
theorem flatN_get {ts : List Int} {i : Nat} (hi : i < ts.length) : (flatN ts)[i]? = some (.int .i64 (ts[i]?.getD 0)) := by simp [flatN, List.getElem?_eq_getElem hi]

/-- Whether an input is idle. -/
def idleM (xs : List Inp) (i : Int) : Bool := inR i 0 ((xs.length : Int) - 1) && (xs[i.toNat]?.getD in0).2.1
end Go.Proofs.YtmnbcofonhlplaaDoor
