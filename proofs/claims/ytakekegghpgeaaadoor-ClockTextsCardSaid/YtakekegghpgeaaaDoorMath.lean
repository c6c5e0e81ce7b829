/-
  Plain facts on whole numbers and lists of windows: nothing here names the program.
-/
import Derived.WalkKit
namespace Go.Proofs.YtakekegghpgeaaaDoor

theorem tdiv_floor (a b : Int) (hb : 1 ≤ b) : (a.tmod b < 0 → a.tdiv b - 1 = a / b) ∧ (0 ≤ a.tmod b → a.tdiv b = a / b) := by
  have h1 := Int.lt_tmod_of_pos a (show 0 < b by omega)
  have h2 := Int.tmod_lt_of_pos a (show 0 < b by omega)
  have h3 := Int.mul_tdiv_add_tmod a b
  generalize a.tmod b = r at *
  generalize a.tdiv b = q at *
  refine ⟨fun h => ?_, fun h => ?_⟩
  · exact ((Int.ediv_emod_unique (a := a) (b := b) (r := r + b) (q := q - 1) (by omega)).2 ⟨by rw [Int.mul_sub]; omega, by omega, by omega⟩).1.symm
  · exact ((Int.ediv_emod_unique (a := a) (b := b) (r := r) (q := q) (by omega)).2 ⟨by omega, by omega, by omega⟩).1.symm
theorem ediv_bound (a b M : Int) (hb : 1 ≤ b) (hM : 0 ≤ M) (h1 : -M ≤ a) (h2 : a ≤ M) : -M ≤ a / b ∧ a / b ≤ M := by
  refine ⟨?_, ?_⟩
  · have := Int.le_ediv_of_mul_le (a := -M) (b := a) (c := b) (by omega) (by have := Int.mul_le_mul_of_nonneg_left hb hM; rw [Int.neg_mul]; omega)
    omega
  · have := Int.ediv_le_of_le_mul (a := a) (b := M) (c := b) (by omega) (by have := Int.mul_le_mul_of_nonneg_left hb hM; omega)
    omega

theorem tdiv_mul (a b : Int) (hb : 1 ≤ b) : a - b < a.tdiv b * b ∧ a.tdiv b * b < a + b ∧ (a.tmod b < 0 → a < a.tdiv b * b) ∧ (0 ≤ a.tmod b → a.tdiv b * b ≤ a) := by
  have h1 := Int.lt_tmod_of_pos a (show 0 < b by omega)
  have h2 := Int.tmod_lt_of_pos a (show 0 < b by omega)
  have h3 := Int.mul_tdiv_add_tmod a b
  rw [Int.mul_comm] at h3
  omega

def inR (n lo hi : Int) : Bool := decide (lo ≤ n ∧ n ≤ hi)
theorem inR_iff (n lo hi : Int) : inR n lo hi = true ↔ lo ≤ n ∧ n ≤ hi := by simp [inR]
theorem inR_yes {n lo hi : Int} (h : lo ≤ n ∧ n ≤ hi) : inR n lo hi = true := (inR_iff _ _ _).2 h
theorem inR_no {n lo hi : Int} (h : ¬ (lo ≤ n ∧ n ≤ hi)) : inR n lo hi = false := by simp only [inR, h, decide_false]

def stepOf (k sz st : Int) : Int := if k = 1 then sz else if k = 2 then st else 0

/-- The least beginning above a number: of windows whose beginnings lie d from each other, sh from 0. -/
def after (d sh t : Int) : Int := ((t - sh) / d + 1) * d + sh
theorem after_bounds (d sh t : Int) (hd : 1 ≤ d) : t < after d sh t ∧ after d sh t ≤ t + d := by
  have h1 := Int.mul_ediv_add_emod (t - sh) d
  have h2 := Int.emod_nonneg (t - sh) (show d ≠ 0 by omega)
  have h3 := Int.emod_lt_of_pos (t - sh) (show 0 < d by omega)
  unfold after
  rw [Int.add_mul, Int.mul_comm]
  generalize d * ((t - sh) / d) = p at *
  omega

/-- How many windows begin from A on, d from each other, at most at 'to'. -/
def nWin (A d to : Int) : Nat := ((to - A) / d + 1).toNat
theorem nWin_lt (A d to : Int) (hd : 1 ≤ d) (i : Nat) : A + i * d ≤ to ↔ i < nWin A d to := by
  have h : (i : Int) ≤ (to - A) / d ↔ i * d ≤ to - A := Int.le_ediv_iff_mul_le (by omega)
  unfold nWin
  constructor
  · intro h1
    have := h.2 (by omega)
    omega
  · intro h1
    have := h.1 (by omega)
    omega
/-- The first i windows of size sz from A on, d from each other. -/
def upto (A d sz : Int) (i : Nat) : List (Int × Int) := (List.range i).map fun (j : Nat) => (A + (j : Int) * d, A + (j : Int) * d + sz)
theorem upto_succ (A d sz : Int) (i : Nat) : upto A d sz (i + 1) = upto A d sz i ++ [(A + (i : Int) * d, A + (i : Int) * d + sz)] := by
  unfold upto; rw [List.range_succ, List.map_append]; rfl
theorem upto_len (A d sz : Int) (i : Nat) : (upto A d sz i).length = i := by simp [upto]
theorem upto_pre (A d sz : Int) {i j : Nat} (h : i ≤ j) : upto A d sz i <+: upto A d sz j := by
  refine ⟨((List.range j).drop i).map fun (j : Nat) => (A + (j : Int) * d, A + (j : Int) * d + sz), ?_⟩
  unfold upto
  rw [← List.map_append]
  congr 1
  rw [show List.range i = (List.range j).take i by rw [List.take_range]; congr 1; omega]
  exact List.take_append_drop _ _

theorem nWin_le (A d to M : Int) (hd : 1 ≤ d) (hM : 0 ≤ M) (h : to - A + 1 ≤ M) : (nWin A d to : Int) ≤ M := by
  unfold nWin
  by_cases h0 : 0 ≤ to - A
  · have := (ediv_bound (to - A) d (to - A) hd h0 (by omega) (by omega)).2
    omega
  · have : (to - A) / d < 0 := Int.ediv_neg_of_neg_of_pos (by omega) (by omega)
    omega

def specP (k sz st g sh : Int) : Prop :=
  (k = 1 ∧ st = 0 ∧ g = 0 ∧ (1 ≤ sz ∧ sz ≤ 1000000000) ∧ 0 ≤ sh ∧ sh ≤ sz - 1) ∨
  (k = 2 ∧ g = 0 ∧ (1 ≤ sz ∧ sz ≤ 1000000000) ∧ (1 ≤ st ∧ st ≤ sz) ∧ sz ≤ 50 * st ∧ 0 ≤ sh ∧ sh ≤ st - 1) ∨
  (k = 3 ∧ sz = 0 ∧ st = 0 ∧ sh = 0 ∧ 1 ≤ g ∧ g ≤ 1000000000) ∨
  (k = 4 ∧ sz = 0 ∧ st = 0 ∧ g = 0 ∧ sh = 0)
instance (k sz st g sh : Int) : Decidable (specP k sz st g sh) := by unfold specP; infer_instance
def specOK (k sz st g sh : Int) : Bool := decide (specP k sz st g sh)
theorem specOK_yes {k sz st g sh : Int} (h : specP k sz st g sh) : specOK k sz st g sh = true := decide_eq_true h
theorem specOK_no {k sz st g sh : Int} (h : ¬ specP k sz st g sh) : specOK k sz st g sh = false := decide_eq_false h
theorem specOK_iff (k sz st g sh : Int) : specOK k sz st g sh = true ↔ specP k sz st g sh := decide_eq_true_iff

/-- The greatest beginning that is at most a number. -/
def firstAt (d sh n : Int) : Int := (n - sh) / d * d + sh
theorem firstAt_bounds (d sh n : Int) (hd : 1 ≤ d) : n - d < firstAt d sh n ∧ firstAt d sh n ≤ n := by
  have h1 := Int.mul_ediv_add_emod (n - sh) d
  have h2 := Int.emod_nonneg (n - sh) (show d ≠ 0 by omega)
  have h3 := Int.emod_lt_of_pos (n - sh) (show 0 < d by omega)
  unfold firstAt
  rw [Int.mul_comm]
  generalize d * ((n - sh) / d) = p at *
  omega
theorem firstAt_after (d sh t sz : Int) (hd : 1 ≤ d) (hz : 0 ≤ sz) : firstAt d sh t = after d sh (t - sz) + ((nWin (after d sh (t - sz)) d t : Int) - 1) * d := by
  have hq : (t - sz - sh) / d ≤ (t - sh) / d := Int.ediv_le_ediv (by omega) (by omega)
  have hA : (t - after d sh (t - sz)) / d = (t - sh) / d - ((t - sz - sh) / d + 1) := by
    unfold after
    rw [show t - (((t - sz - sh) / d + 1) * d + sh) = (t - sh) + (-((t - sz - sh) / d + 1)) * d by rw [Int.neg_mul]; omega, Int.add_mul_ediv_right _ _ (by omega)]
    omega
  have hN : (nWin (after d sh (t - sz)) d t : Int) = (t - sh) / d - ((t - sz - sh) / d + 1) + 1 := by
    unfold nWin
    rw [hA]
    omega
  rw [hN]
  unfold firstAt after
  generalize (t - sh) / d = a
  generalize (t - sz - sh) / d = b
  rw [show a - (b + 1) + 1 - 1 = a - (b + 1) by omega, Int.sub_mul]
  omega
/-- The windows from the last one back. -/
def back (A d sz : Int) (N i : Nat) : List (Int × Int) := (List.range i).map fun (j : Nat) => (A + ((N : Int) - 1 - (j : Int)) * d, A + ((N : Int) - 1 - (j : Int)) * d + sz)
theorem back_succ (A d sz : Int) (N i : Nat) : back A d sz N (i + 1) = back A d sz N i ++ [(A + ((N : Int) - 1 - (i : Int)) * d, A + ((N : Int) - 1 - (i : Int)) * d + sz)] := by
  unfold back; rw [List.range_succ, List.map_append]; rfl
theorem back_len (A d sz : Int) (N i : Nat) : (back A d sz N i).length = i := by simp [back]
theorem back_get (A d sz : Int) (N i j : Nat) (h : j < i) : (back A d sz N i)[j]?.getD (0, 0) = (A + ((N : Int) - 1 - (j : Int)) * d, A + ((N : Int) - 1 - (j : Int)) * d + sz) := by
  simp [back, h]

/-- The windows of a range, for a spec that comes in steps. -/
def range (k sz st sh fr to : Int) : List (Int × Int) :=
  upto (after (stepOf k sz st) sh (fr - sz)) (stepOf k sz st) sz (nWin (after (stepOf k sz st) sh (fr - sz)) (stepOf k sz st) to)
/-- The windows of a time, for a spec and a time that are valid. -/
def windowsAt (k sz st g sh t : Int) : List (Int × Int) :=
  if k = 3 then [(t, t + g)] else if k = 4 then [(-1000000000000, 1000000000001)] else range k sz st sh t t
def windowsErr (k sz st g sh t : Int) : Int := if specOK k sz st g sh = false then 1 else if inR t (-1000000000000) 1000000000000 = false then 7 else 0
def windowsOf (k sz st g sh t : Int) : List (Int × Int) := if windowsErr k sz st g sh t = 0 then windowsAt k sz st g sh t else []
end Go.Proofs.YtakekegghpgeaaaDoor
