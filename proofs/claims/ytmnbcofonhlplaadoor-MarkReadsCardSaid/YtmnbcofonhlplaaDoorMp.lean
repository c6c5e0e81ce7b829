/-
  A meet of package mark, in memory: its two blocks; what its methods leave.
-/
import Derived.Test.YtmnbcofonhlplaaDoorKp6
namespace Go.Proofs.YtmnbcofonhlplaaDoor
open Go.RowKit Go.Lib

theorem flatP_set1 : ∀ (xs : List Inp) (i : Nat) (a : Bool), flatP (xs.set i ((xs[i]?.getD in0).1, a, (xs[i]?.getD in0).2.2)) = (flatP xs).set (i * 3 + 1) (.bool a)
  | [], i, a => by simp [flatP]
  | x :: xs, 0, a => by simp [flatP, cellsP]
  | x :: xs, i + 1, a => by
    have h := flatP_set1 xs i a
    rw [show (i + 1) * 3 + 1 = i * 3 + 1 + 3 by omega]
    simp only [flatP, List.set_cons_succ, List.flatMap_cons, cellsP, List.cons_append, List.nil_append, List.getElem?_cons_succ] at h ⊢
    rw [h]
theorem flatP_set2 : ∀ (xs : List Inp) (i : Nat) (m : Int) (a : Bool), flatP (xs.set i (m, a, (xs[i]?.getD in0).2.2)) = ((flatP xs).set (i * 3) (.int .i64 (m + 1000000000000))).set (i * 3 + 1) (.bool a)
  | [], i, m, a => by simp [flatP]
  | x :: xs, 0, m, a => by simp [flatP, cellsP]
  | x :: xs, i + 1, m, a => by
    have h := flatP_set2 xs i m a
    rw [show (i + 1) * 3 + 1 = i * 3 + 1 + 3 by omega, show (i + 1) * 3 = i * 3 + 3 by omega]
    simp only [flatP, List.set_cons_succ, List.flatMap_cons, cellsP, List.cons_append, List.nil_append, List.getElem?_cons_succ] at h ⊢
    rw [h]
theorem flatP_set3 : ∀ (xs : List Inp) (i : Nat) (m : Int) (a b : Bool), flatP (xs.set i (m, a, b)) = (((flatP xs).set (i * 3) (.int .i64 (m + 1000000000000))).set (i * 3 + 1) (.bool a)).set (i * 3 + 2) (.bool b)
  | [], i, m, a, b => by simp [flatP]
  | x :: xs, 0, m, a, b => by simp [flatP, cellsP]
  | x :: xs, i + 1, m, a, b => by
    have h := flatP_set3 xs i m a b
    rw [show (i + 1) * 3 + 2 = i * 3 + 2 + 3 by omega, show (i + 1) * 3 + 1 = i * 3 + 1 + 3 by omega, show (i + 1) * 3 = i * 3 + 3 by omega]
    simp only [flatP, List.set_cons_succ, List.flatMap_cons, cellsP, List.cons_append, List.nil_append] at h ⊢
    rw [h]

theorem marks_set {xs : List Inp} (h : ∀ x ∈ xs, markR x.1) {x : Inp} (hx : markR x.1) (i : Nat) : ∀ y ∈ xs.set i x, markR y.1 := fun y hy => by
  rcases List.mem_or_eq_of_mem_set hy with h1 | h1
  · exact h y h1
  · rw [h1]; exact hx
def onM (xs : List Inp) (at_ : Int) : Int := if (leastM xs).2 = true then max at_ (leastM xs).1 else at_
theorem foldL_range (xs : List Inp) (h : ∀ x ∈ xs, markR x.1) : ∀ a : Int × Bool, (a.2 = true → markR a.1) → (xs.foldl stepL a).2 = true → markR (xs.foldl stepL a).1 := by
  induction xs with
  | nil => intro a ha; exact ha
  | cons x xs ih =>
    intro a ha
    refine ih (fun y hy => h y (by simp [hy])) _ ?_
    unfold stepL
    split
    · intro _; exact h x (by simp)
    · exact ha
theorem least_range {xs : List Inp} (h : ∀ x ∈ xs, markR x.1) (hq : (leastM xs).2 = true) : markR (leastM xs).1 := foldL_range xs h _ (fun e => by cases e) hq
theorem onM_range {xs : List Inp} (h : ∀ x ∈ xs, markR x.1) {at_ : Int} (ha : markR at_) : markR (onM xs at_) := by
  unfold onM
  split
  · have := least_range h (by assumption)
    unfold markR at *
    omega
  · exact ha

end Go.Proofs.YtmnbcofonhlplaaDoor
