/-
  Plain facts on the windows of a time.
-/
import Derived.Test.YtbiaalpnabkkfaaRefs
namespace Go.Proofs.Ytbiaalpnabkkfaa

theorem upto_get (A d sz : Int) (N i : Nat) (h : i < N) : (upto A d sz N)[i]?.getD (0, 0) = (A + (i : Int) * d, A + (i : Int) * d + sz) := by
  simp [upto, h]

/-- How many windows a time has, between the size's steps rounded down and up. -/
theorem nWin_steps (A d sz t : Int) (hd : 1 ≤ d) (hz : 1 ≤ sz) (hA : t - sz < A) (hA' : A ≤ t - sz + d) : (nWin A d t : Int) = sz / d ∨ (nWin A d t : Int) = (sz + d - 1) / d := by
  have h1 := Int.mul_ediv_add_emod sz d
  have h2 := Int.emod_nonneg sz (show d ≠ 0 by omega)
  have h3 := Int.emod_lt_of_pos sz (show 0 < d by omega)
  have k1 := Int.mul_ediv_add_emod (sz + d - 1) d
  have k2 := Int.emod_nonneg (sz + d - 1) (show d ≠ 0 by omega)
  have k3 := Int.emod_lt_of_pos (sz + d - 1) (show 0 < d by omega)
  have hq0 : 0 ≤ sz / d := Int.ediv_nonneg (by omega) (by omega)
  have hc0 : 0 ≤ (sz + d - 1) / d := Int.ediv_nonneg (by omega) (by omega)
  have hlt := nWin_lt A d t hd
  have hcq : (sz + d - 1) / d ≤ sz / d + 1 := by
    have : (sz + d - 1) / d < sz / d + 2 := Int.ediv_lt_of_lt_mul (by omega) (by rw [Int.add_mul, Int.mul_comm]; omega)
    omega
  generalize sz / d = q at *
  generalize (sz + d - 1) / d = c at *
  obtain ⟨q, rfl⟩ := Int.eq_ofNat_of_zero_le hq0
  obtain ⟨c, rfl⟩ := Int.eq_ofNat_of_zero_le hc0
  have u1 : c ≥ nWin A d t := by
    by_cases hh : c < nWin A d t
    · have := (hlt c).2 hh
      rw [Int.mul_comm] at this
      omega
    · omega
  have u2 : q ≤ nWin A d t := by
    cases q with
    | zero => omega
    | succ q =>
      have := (hlt q).1 (by
        rw [show d * ((q + 1 : Nat) : Int) = (q : Int) * d + d by rw [Int.natCast_add, Int.mul_add, Int.mul_comm]; simp] at h1
        omega)
      omega
  omega

/-- What the law asks of each window of a time, and of its neighbour. -/
structure WinFacts (k sz st t : Int) (xs : List (Int × Int)) : Prop where
  inside : ∀ i, i < xs.length → inWin (xs[i]?.getD (0, 0)).1 (xs[i]?.getD (0, 0)).2 t = true
  sorted : ∀ i, i + 1 < xs.length → cmpW (xs[i]?.getD (0, 0)).1 (xs[i]?.getD (0, 0)).2 (xs[i + 1]?.getD (0, 0)).1 (xs[i + 1]?.getD (0, 0)).2 = -1
  two : k = 2 → (xs.length : Int) = sz / st ∨ (xs.length : Int) = (sz + st - 1) / st
  one : k ≠ 2 → xs.length = 1
  small : (xs.length : Int) ≤ 3000000000000
  pos : 1 ≤ xs.length

theorem winFacts (k sz st g sh t : Int) (hp : specP k sz st g sh) (ht : -1000000000000 ≤ t) (ht' : t ≤ 1000000000000) : WinFacts k sz st t (windowsAt k sz st g sh t) := by
  by_cases h3 : k = 3
  · obtain ⟨rfl, rfl, rfl, rfl, hg⟩ : k = 3 ∧ sz = 0 ∧ st = 0 ∧ sh = 0 ∧ 1 ≤ g ∧ g ≤ 1000000000 := by unfold specP at hp; omega
    refine ⟨fun i hi => ?_, fun i hi => ?_, fun h => ?_, fun _ => rfl, by simp [windowsAt], by simp [windowsAt]⟩
    · simp [windowsAt] at hi
      subst hi
      simp [windowsAt, inWin]; omega
    · simp [windowsAt] at hi
    · omega
  · by_cases h4 : k = 4
    · obtain ⟨rfl, rfl, rfl, rfl, rfl⟩ : k = 4 ∧ sz = 0 ∧ st = 0 ∧ sh = 0 ∧ g = 0 := by unfold specP at hp; omega
      refine ⟨fun i hi => ?_, fun i hi => ?_, fun h => ?_, fun _ => rfl, by simp [windowsAt], by simp [windowsAt]⟩
      · simp [windowsAt] at hi
        subst hi
        simp [windowsAt, inWin]; omega
      · simp [windowsAt] at hi
      · omega
    · have hk : k = 1 ∨ k = 2 := by unfold specP at hp; omega
      obtain ⟨hd, hd', hs, hs', hz, hz', hdz⟩ : 1 ≤ stepOf k sz st ∧ stepOf k sz st ≤ 1000000000 ∧ 0 ≤ sh ∧ sh ≤ 1000000000 ∧ 1 ≤ sz ∧ sz ≤ 1000000000 ∧ stepOf k sz st ≤ sz := by
        unfold specP at hp
        rcases hk with rfl | rfl <;> simp [stepOf] <;> omega
      have hab := after_bounds (stepOf k sz st) sh (t - sz) hd
      have hN := nWin_le (after (stepOf k sz st) sh (t - sz)) (stepOf k sz st) t 3000000000000 hd (by omega) (by omega)
      have hlt := nWin_lt (after (stepOf k sz st) sh (t - sz)) (stepOf k sz st) t hd
      have hst := nWin_steps (after (stepOf k sz st) sh (t - sz)) (stepOf k sz st) sz t hd hz hab.1 hab.2
      have hE : windowsAt k sz st g sh t = upto (after (stepOf k sz st) sh (t - sz)) (stepOf k sz st) sz (nWin (after (stepOf k sz st) sh (t - sz)) (stepOf k sz st) t) := by simp [windowsAt, h3, h4, range]
      rw [hE]
      have hd2 : k = 2 → stepOf k sz st = st := fun h => by subst h; rfl
      have hd1 : k ≠ 2 → stepOf k sz st = sz := fun h => by
        rcases hk with rfl | rfl
        · rfl
        · exact absurd rfl h
      generalize after (stepOf k sz st) sh (t - sz) = A at *
      generalize nWin A (stepOf k sz st) t = N at *
      generalize stepOf k sz st = d at *
      refine ⟨fun i hi => ?_, fun i hi => ?_, fun h => ?_, fun h => ?_, ?_, ?_⟩
      · rw [upto_len] at hi
        rw [upto_get A d sz N i hi]
        have h1 := (hlt i).2 hi
        have h2 := Int.mul_nonneg (show (0 : Int) ≤ (i : Int) by omega) (show 0 ≤ d by omega)
        simp [inWin]; omega
      · rw [upto_len] at hi
        rw [upto_get A d sz N i (by omega), upto_get A d sz N (i + 1) hi]
        have h2 : ((i + 1 : Nat) : Int) * d = (i : Int) * d + d := by rw [Int.natCast_add, Int.add_mul]; simp
        rw [h2]
        unfold cmpW
        rw [if_neg (by omega), if_pos (.inl (by omega))]
      · rw [upto_len, ← hd2 h]
        exact hst
      · rw [upto_len]
        have := hd1 h
        subst this
        have e1 : d / d = 1 := Int.ediv_self (by omega)
        have e2 : (d + d - 1) / d = 1 := by
          rw [show d + d - 1 = (d - 1) + 1 * d by omega, Int.add_mul_ediv_right _ _ (by omega), Int.ediv_eq_zero_of_lt (by omega) (by omega)]
          rfl
        rw [e1, e2] at hst
        omega
      · rw [upto_len]; exact hN
      · rw [upto_len]
        have := (hlt 0).1 (by simp; omega)
        omega
end Go.Proofs.Ytbiaalpnabkkfaa
