/-
  Valid, ValidWindow, Contains, Touch, Compare, Floor: of package clock and of the document's own answers, as contracts.
-/
import Derived.Test.YthbpdalkifocaaaLeaf
import Derived.Test.YthbpdalkifocaaaSame
import Derived.WalkLawsBesides
namespace Go.Proofs.Ythbpdalkifocaaa
open Go.RowKit

def winOK (a b : Int) : Bool := decide (a < b ∧ -2000000000000 ≤ a ∧ b ≤ 2000000000000)
theorem winOK_iff (a b : Int) : winOK a b = true ↔ a < b ∧ -2000000000000 ≤ a ∧ b ≤ 2000000000000 := decide_eq_true_iff
theorem winOK_yes {a b : Int} (h : a < b ∧ -2000000000000 ≤ a ∧ b ≤ 2000000000000) : winOK a b = true := decide_eq_true h
theorem winOK_no {a b : Int} (h : ¬ (a < b ∧ -2000000000000 ≤ a ∧ b ≤ 2000000000000)) : winOK a b = false := decide_eq_false h
def inWin (a b t : Int) : Bool := decide ((a < b ∧ -2000000000000 ≤ a ∧ b ≤ 2000000000000) ∧ (-1000000000000 ≤ t ∧ t ≤ 1000000000000) ∧ a ≤ t ∧ t < b)
def touches (a b c d : Int) : Bool := decide ((a < b ∧ -2000000000000 ≤ a ∧ b ≤ 2000000000000) ∧ (c < d ∧ -2000000000000 ≤ c ∧ d ≤ 2000000000000) ∧ a < d ∧ c < b)
def cmpW (a b c d : Int) : Int := if a = c ∧ b = d then 0 else if a < c ∨ (a = c ∧ b < d) then -1 else 1
theorem retB {a b : Bool} (h : a = b) : Ending.returned (.bool a) = .returned (.bool b) := by rw [h]

theorem refWithin_any (n lo hi : Int) (w : World) :
    Calls Try.prog 26 #[.int .i64 n, .int .i64 lo, .int .i64 hi] w fun e w' => e = .returned (.bool (inR n lo hi)) ∧ w = w' := by
  by_cases h : lo ≤ n
  · go_enter Try.func26, Try.ntmps26
    go_wp2
    go_ret
    exact ⟨by simp [inR, h], rfl⟩
  · have h' : n < lo := by omega
    go_enter Try.func26, Try.ntmps26
    go_wp2
    go_ret
    exact ⟨by rw [inR_no (by omega)]; rfl, rfl⟩

theorem clkValid_any (t : Int) (w : World) :
    Calls Try.prog 28 #[.int .i64 t] w fun e w' => e = .returned (.bool (inR t (-1000000000000) 1000000000000)) ∧ w = w' := by
  go_enter Try.func28, Try.ntmps28
  go_wp2_with (go_at_call 42; refine (within_any _ _ _ _).mono ?_; rintro e w' ⟨rfl, rfl⟩)
  go_ret
  exact ⟨rfl, rfl⟩

theorem clkValidWindow_any (a b : Int) (w : World) :
    Calls Try.prog 18 #[.agg #[.int .i64 a, .int .i64 b]] w fun e w' => e = .returned (.bool (winOK a b)) ∧ w' = w.alloc (.cells #[.int .i64 a, .int .i64 b] 31) := by
  by_cases h : a < b
  · by_cases h2 : -2000000000000 ≤ a
    · go_enter Try.func18, Try.ntmps18
      go_wp2
      go_ret
      exact ⟨retB (by rw [Bool.eq_iff_iff]; simp [winOK]; omega), rfl⟩
    · have h2' : a < -2000000000000 := by omega
      go_enter Try.func18, Try.ntmps18
      go_wp2
      go_ret
      exact ⟨retB (by rw [winOK_no (by omega)]), rfl⟩
  · have h' : b ≤ a := by omega
    go_enter Try.func18, Try.ntmps18
    go_wp2
    go_ret
    exact ⟨retB (by rw [winOK_no (by omega)]), rfl⟩

theorem clkContains_any (a b t : Int) (w : World) :
    Calls Try.prog 29 #[.agg #[.int .i64 a, .int .i64 b], .int .i64 t] w fun e w' => e = .returned (.bool (inWin a b t)) ∧ w' = (w.alloc (.cells #[.int .i64 a, .int .i64 b] 31)).alloc (.cells #[.int .i64 a, .int .i64 b] 31) := by
  by_cases h : winOK a b = true
  · have hw := (winOK_iff _ _).1 h
    obtain ⟨hw1, hw2, hw3⟩ := hw
    by_cases h2 : inR t (-1000000000000) 1000000000000 = true
    · have ht := (inR_iff _ _ _).1 h2
      obtain ⟨ht1, ht2⟩ := ht
      by_cases h3 : a ≤ t
      · go_enter Try.func29, Try.ntmps29
        go_wp2_with (first | (go_at_call 28; refine (clkValid_any _ _).mono ?_; rintro e w' ⟨rfl, rfl⟩) | (go_at_call 18; refine (clkValidWindow_any _ _ _).mono ?_; rintro e w' ⟨rfl, rfl⟩) | (go_at_call 42; refine (within_any _ _ _ _).mono ?_; rintro e w' ⟨rfl, rfl⟩))
        go_ret
        exact ⟨retB (by rw [Bool.eq_iff_iff]; simp [inWin]; omega), rfl⟩
      · have h3' : t < a := by omega
        go_enter Try.func29, Try.ntmps29
        go_wp2_with (first | (go_at_call 28; refine (clkValid_any _ _).mono ?_; rintro e w' ⟨rfl, rfl⟩) | (go_at_call 18; refine (clkValidWindow_any _ _ _).mono ?_; rintro e w' ⟨rfl, rfl⟩) | (go_at_call 42; refine (within_any _ _ _ _).mono ?_; rintro e w' ⟨rfl, rfl⟩))
        go_ret
        exact ⟨retB (by rw [Bool.eq_iff_iff]; simp [inWin]; omega), rfl⟩
    · have h2' : inR t (-1000000000000) 1000000000000 = false := by simpa using h2
      have ht : ¬ (-1000000000000 ≤ t ∧ t ≤ 1000000000000) := fun h => h2 (inR_yes h)
      have HT := Lib.hid ht
      clear h2 ht
      go_enter Try.func29, Try.ntmps29
      go_wp2_with (first | (go_at_call 28; refine (clkValid_any _ _).mono ?_; rintro e w' ⟨rfl, rfl⟩) | (go_at_call 18; refine (clkValidWindow_any _ _ _).mono ?_; rintro e w' ⟨rfl, rfl⟩) | (go_at_call 42; refine (within_any _ _ _ _).mono ?_; rintro e w' ⟨rfl, rfl⟩))
      go_ret
      have ht := HT.out
      exact ⟨retB (by unfold inWin; rw [eq_comm, decide_eq_false (by omega)]), rfl⟩
  · have h' : winOK a b = false := by simpa using h
    have hw : ¬ (a < b ∧ -2000000000000 ≤ a ∧ b ≤ 2000000000000) := fun h2 => h (winOK_yes h2)
    have HW := Lib.hid hw
    clear h hw
    go_enter Try.func29, Try.ntmps29
    go_wp2_with (first | (go_at_call 28; refine (clkValid_any _ _).mono ?_; rintro e w' ⟨rfl, rfl⟩) | (go_at_call 18; refine (clkValidWindow_any _ _ _).mono ?_; rintro e w' ⟨rfl, rfl⟩) | (go_at_call 42; refine (within_any _ _ _ _).mono ?_; rintro e w' ⟨rfl, rfl⟩))
    go_ret
    have hw := HW.out
    exact ⟨retB (by unfold inWin; rw [eq_comm, decide_eq_false (by omega)]), rfl⟩

set_option maxHeartbeats 1000000 in
theorem clkTouch_any (a b c d : Int) (w : World) :
    Calls Try.prog 11 #[.agg #[.int .i64 a, .int .i64 b], .agg #[.int .i64 c, .int .i64 d]] w fun e w' => e = .returned (.bool (touches a b c d)) ∧ Below w.heap.size w w' := by
  by_cases h : winOK a b = true
  · have hw := (winOK_iff _ _).1 h
    obtain ⟨hw1, hw2, hw3⟩ := hw
    by_cases h2 : winOK c d = true
    · have hv := (winOK_iff _ _).1 h2
      obtain ⟨hv1, hv2, hv3⟩ := hv
      by_cases h3 : a < d
      · go_enter Try.func11, Try.ntmps11
        go_wp2_with (go_at_call 18; refine (clkValidWindow_any _ _ _).mono ?_; rintro e w' ⟨rfl, rfl⟩)
        go_ret
        exact ⟨retB (by rw [Bool.eq_iff_iff]; simp [touches]; omega), ((((Below.refl _ _).alloc (Nat.le_refl _) _).alloc (by simp) _).alloc (by simp; omega) _).alloc (by simp; omega) _⟩
      · have h3' : d ≤ a := by omega
        go_enter Try.func11, Try.ntmps11
        go_wp2_with (go_at_call 18; refine (clkValidWindow_any _ _ _).mono ?_; rintro e w' ⟨rfl, rfl⟩)
        go_ret
        exact ⟨retB (by unfold touches; rw [eq_comm, decide_eq_false (by omega)]), ((((Below.refl _ _).alloc (Nat.le_refl _) _).alloc (by simp) _).alloc (by simp; omega) _).alloc (by simp; omega) _⟩
    · have h2' : winOK c d = false := by simpa using h2
      have hv : ¬ (c < d ∧ -2000000000000 ≤ c ∧ d ≤ 2000000000000) := fun h3 => h2 (winOK_yes h3)
      have HV := Lib.hid hv
      clear h2 hv
      go_enter Try.func11, Try.ntmps11
      go_wp2_with (go_at_call 18; refine (clkValidWindow_any _ _ _).mono ?_; rintro e w' ⟨rfl, rfl⟩)
      go_ret
      have hv := HV.out
      exact ⟨retB (by unfold touches; rw [eq_comm, decide_eq_false (by omega)]), ((((Below.refl _ _).alloc (Nat.le_refl _) _).alloc (by simp) _).alloc (by simp; omega) _).alloc (by simp; omega) _⟩
  · have h' : winOK a b = false := by simpa using h
    have hw : ¬ (a < b ∧ -2000000000000 ≤ a ∧ b ≤ 2000000000000) := fun h2 => h (winOK_yes h2)
    have HW := Lib.hid hw
    clear h hw
    go_enter Try.func11, Try.ntmps11
    go_wp2_with (go_at_call 18; refine (clkValidWindow_any _ _ _).mono ?_; rintro e w' ⟨rfl, rfl⟩)
    go_ret
    have hw := HW.out
    exact ⟨retB (by unfold touches; rw [eq_comm, decide_eq_false (by omega)]), (((Below.refl _ _).alloc (Nat.le_refl _) _).alloc (by simp) _).alloc (by simp; omega) _⟩

set_option maxRecDepth 100000 in
theorem clkCompare_any (a b c d : Int) (w : World) :
    Calls Try.prog 37 #[.agg #[.int .i64 a, .int .i64 b], .agg #[.int .i64 c, .int .i64 d]] w fun e w' => e = .returned (.int .i64 (cmpW a b c d)) ∧ w' = (w.alloc (.cells #[.int .i64 a, .int .i64 b] 31)).alloc (.cells #[.int .i64 c, .int .i64 d] 31) := by
  have hm := guardW
  have he := fun W => eqlW a b c d W
  by_cases h : a = c ∧ b = d
  · obtain ⟨rfl, rfl⟩ := h
    go_enter Try.func37, Try.ntmps37
    go_wp2
    go_ret
    exact ⟨by simp [cmpW], rfl⟩
  · have h' : (a == c && b == d) = false := by simp; omega
    by_cases h1 : a < c
    · have e1 : cmpW a b c d = -1 := by unfold cmpW; rw [if_neg h, if_pos (.inl h1)]
      have E := Lib.hid e1
      clear h e1
      go_enter Try.func37, Try.ntmps37
      go_wp2
      go_ret
      exact ⟨by rw [E.out]; rfl, rfl⟩
    · have h1' : c ≤ a := by omega
      by_cases h2 : a = c
      · have h2' : (a == c) = true := by simpa using h2
        by_cases h3 : b < d
        · have e1 : cmpW a b c d = -1 := by unfold cmpW; rw [if_neg h, if_pos (.inr ⟨h2, h3⟩)]
          have E := Lib.hid e1
          clear h e1 h1 h2
          go_enter Try.func37, Try.ntmps37
          go_wp2
          go_ret
          exact ⟨by rw [E.out]; rfl, rfl⟩
        · have h3' : d ≤ b := by omega
          have e1 : cmpW a b c d = 1 := by unfold cmpW; rw [if_neg h, if_neg (by omega)]
          have E := Lib.hid e1
          have hbd : (b == d) = false := by simp; omega
          clear h e1 h1 h2 h3
          go_enter Try.func37, Try.ntmps37
          go_wp2
          all_goals first | (exfalso; omega) | (go_ret; exact ⟨by rw [E.out]; rfl, rfl⟩)
      · have h2' : (a == c) = false := by simpa using h2
        have e1 : cmpW a b c d = 1 := by unfold cmpW; rw [if_neg h, if_neg (by omega)]
        have E := Lib.hid e1
        clear h e1 h1 h2
        go_enter Try.func37, Try.ntmps37
        go_wp2
        go_ret
        exact ⟨by rw [E.out]; rfl, rfl⟩

theorem refValid_any (t : Int) (w : World) :
    Calls Try.prog 27 #[.int .i64 t] w fun e w' => e = .returned (.bool (inR t (-1000000000000) 1000000000000)) ∧ w = w' := by
  go_enter Try.func27, Try.ntmps27
  go_wp2_with (go_at_call 26; refine (refWithin_any _ _ _ _).mono ?_; rintro e w' ⟨rfl, rfl⟩)
  go_ret
  exact ⟨rfl, rfl⟩

theorem refValidWindow_any (a b : Int) (w : World) :
    Calls Try.prog 22 #[.agg #[.int .i64 a, .int .i64 b]] w fun e w' => e = .returned (.bool (winOK a b)) ∧ w' = w.alloc (.cells #[.int .i64 a, .int .i64 b] 31) := by
  by_cases h : a < b
  · by_cases h2 : -2000000000000 ≤ a ∧ a ≤ 2000000000000
    · have i2 := inR_yes h2
      go_enter Try.func22, Try.ntmps22
      go_wp2_with (go_at_call 26; refine (refWithin_any _ _ _ _).mono ?_; rintro e w' ⟨rfl, rfl⟩)
      go_ret
      exact ⟨retB (by rw [Bool.eq_iff_iff, inR_iff, winOK_iff]; omega), rfl⟩
    · have i2 := inR_no h2
      go_enter Try.func22, Try.ntmps22
      go_wp2_with (go_at_call 26; refine (refWithin_any _ _ _ _).mono ?_; rintro e w' ⟨rfl, rfl⟩)
      go_ret
      exact ⟨retB (by rw [winOK_no (by omega)]), rfl⟩
  · have h' : b ≤ a := by omega
    go_enter Try.func22, Try.ntmps22
    go_wp2_with fail
    go_ret
    exact ⟨retB (by rw [winOK_no (by omega)]), rfl⟩

theorem refContains_any (a b t : Int) (w : World) :
    Calls Try.prog 30 #[.agg #[.int .i64 a, .int .i64 b], .int .i64 t] w fun e w' => e = .returned (.bool (inWin a b t)) ∧ w' = (w.alloc (.cells #[.int .i64 a, .int .i64 b] 31)).alloc (.cells #[.int .i64 a, .int .i64 b] 31) := by
  by_cases h : winOK a b = true
  · have hw := (winOK_iff _ _).1 h
    obtain ⟨hw1, hw2, hw3⟩ := hw
    by_cases h2 : inR t (-1000000000000) 1000000000000 = true
    · have ht := (inR_iff _ _ _).1 h2
      obtain ⟨ht1, ht2⟩ := ht
      by_cases h3 : a ≤ t
      · go_enter Try.func30, Try.ntmps30
        go_wp2_with (first | (go_at_call 27; refine (refValid_any _ _).mono ?_; rintro e w' ⟨rfl, rfl⟩) | (go_at_call 22; refine (refValidWindow_any _ _ _).mono ?_; rintro e w' ⟨rfl, rfl⟩) | (go_at_call 26; refine (refWithin_any _ _ _ _).mono ?_; rintro e w' ⟨rfl, rfl⟩))
        go_ret
        exact ⟨retB (by rw [Bool.eq_iff_iff]; simp [inWin, inR]; omega), rfl⟩
      · have h3' : t < a := by omega
        go_enter Try.func30, Try.ntmps30
        go_wp2_with (first | (go_at_call 27; refine (refValid_any _ _).mono ?_; rintro e w' ⟨rfl, rfl⟩) | (go_at_call 22; refine (refValidWindow_any _ _ _).mono ?_; rintro e w' ⟨rfl, rfl⟩) | (go_at_call 26; refine (refWithin_any _ _ _ _).mono ?_; rintro e w' ⟨rfl, rfl⟩))
        go_ret
        exact ⟨retB (by rw [Bool.eq_iff_iff]; simp [inWin, inR]; omega), rfl⟩
    · have h2' : inR t (-1000000000000) 1000000000000 = false := by simpa using h2
      have ht : ¬ (-1000000000000 ≤ t ∧ t ≤ 1000000000000) := fun h => h2 (inR_yes h)
      have HT := Lib.hid ht
      clear h2 ht
      go_enter Try.func30, Try.ntmps30
      go_wp2_with (first | (go_at_call 27; refine (refValid_any _ _).mono ?_; rintro e w' ⟨rfl, rfl⟩) | (go_at_call 22; refine (refValidWindow_any _ _ _).mono ?_; rintro e w' ⟨rfl, rfl⟩) | (go_at_call 26; refine (refWithin_any _ _ _ _).mono ?_; rintro e w' ⟨rfl, rfl⟩))
      go_ret
      have ht := HT.out
      exact ⟨retB (by unfold inWin; rw [eq_comm, decide_eq_false (by omega)]), rfl⟩
  · have h' : winOK a b = false := by simpa using h
    have hw : ¬ (a < b ∧ -2000000000000 ≤ a ∧ b ≤ 2000000000000) := fun h2 => h (winOK_yes h2)
    have HW := Lib.hid hw
    clear h hw
    go_enter Try.func30, Try.ntmps30
    go_wp2_with (first | (go_at_call 27; refine (refValid_any _ _).mono ?_; rintro e w' ⟨rfl, rfl⟩) | (go_at_call 22; refine (refValidWindow_any _ _ _).mono ?_; rintro e w' ⟨rfl, rfl⟩) | (go_at_call 26; refine (refWithin_any _ _ _ _).mono ?_; rintro e w' ⟨rfl, rfl⟩))
    go_ret
    have hw := HW.out
    exact ⟨retB (by unfold inWin; rw [eq_comm, decide_eq_false (by omega)]), rfl⟩

set_option maxHeartbeats 1000000 in
theorem refTouch_any (a b c d : Int) (w : World) :
    Calls Try.prog 39 #[.agg #[.int .i64 a, .int .i64 b], .agg #[.int .i64 c, .int .i64 d]] w fun e w' => e = .returned (.bool (touches a b c d)) ∧ Below w.heap.size w w' := by
  by_cases h : winOK a b = true
  · have hw := (winOK_iff _ _).1 h
    obtain ⟨hw1, hw2, hw3⟩ := hw
    by_cases h2 : winOK c d = true
    · have hv := (winOK_iff _ _).1 h2
      obtain ⟨hv1, hv2, hv3⟩ := hv
      go_enter Try.func39, Try.ntmps39
      go_wp2_with (go_at_call 22; refine (refValidWindow_any _ _ _).mono ?_; rintro e w' ⟨rfl, rfl⟩)
      all_goals go_ret
      all_goals exact ⟨retB (by rw [Bool.eq_iff_iff]; simp [touches]; omega), ((((Below.refl _ _).alloc (Nat.le_refl _) _).alloc (by simp) _).alloc (by simp; omega) _).alloc (by simp; omega) _⟩
    · have h2' : winOK c d = false := by simpa using h2
      have hv : ¬ (c < d ∧ -2000000000000 ≤ c ∧ d ≤ 2000000000000) := fun h3 => h2 (winOK_yes h3)
      have HV := Lib.hid hv
      clear h2 hv
      go_enter Try.func39, Try.ntmps39
      go_wp2_with (go_at_call 22; refine (refValidWindow_any _ _ _).mono ?_; rintro e w' ⟨rfl, rfl⟩)
      go_ret
      have hv := HV.out
      exact ⟨retB (by unfold touches; rw [eq_comm, decide_eq_false (by omega)]), ((((Below.refl _ _).alloc (Nat.le_refl _) _).alloc (by simp) _).alloc (by simp; omega) _).alloc (by simp; omega) _⟩
  · have h' : winOK a b = false := by simpa using h
    have hw : ¬ (a < b ∧ -2000000000000 ≤ a ∧ b ≤ 2000000000000) := fun h2 => h (winOK_yes h2)
    have HW := Lib.hid hw
    clear h hw
    go_enter Try.func39, Try.ntmps39
    go_wp2_with (go_at_call 22; refine (refValidWindow_any _ _ _).mono ?_; rintro e w' ⟨rfl, rfl⟩)
    go_ret
    have hw := HW.out
    exact ⟨retB (by unfold touches; rw [eq_comm, decide_eq_false (by omega)]), (((Below.refl _ _).alloc (Nat.le_refl _) _).alloc (by simp) _).alloc (by simp; omega) _⟩

set_option maxRecDepth 100000 in
theorem refCompare_any (a b c d : Int) (w : World) :
    Calls Try.prog 50 #[.agg #[.int .i64 a, .int .i64 b], .agg #[.int .i64 c, .int .i64 d]] w fun e w' => e = .returned (.int .i64 (cmpW a b c d)) ∧ w' = (w.alloc (.cells #[.int .i64 a, .int .i64 b] 31)).alloc (.cells #[.int .i64 c, .int .i64 d] 31) := by
  have hm := guardW
  have he := fun W => eqlW a b c d W
  by_cases h : a = c ∧ b = d
  · obtain ⟨rfl, rfl⟩ := h
    go_enter Try.func50, Try.ntmps50
    go_wp2
    go_ret
    exact ⟨by simp [cmpW], rfl⟩
  · have h' : (a == c && b == d) = false := by simp; omega
    by_cases h1 : a < c
    · have e1 : cmpW a b c d = -1 := by unfold cmpW; rw [if_neg h, if_pos (.inl h1)]
      have E := Lib.hid e1
      clear h e1
      go_enter Try.func50, Try.ntmps50
      go_wp2
      go_ret
      exact ⟨by rw [E.out]; rfl, rfl⟩
    · have h1' : c ≤ a := by omega
      by_cases h2 : a = c
      · have h2' : (a == c) = true := by simpa using h2
        by_cases h3 : b < d
        · have e1 : cmpW a b c d = -1 := by unfold cmpW; rw [if_neg h, if_pos (.inr ⟨h2, h3⟩)]
          have E := Lib.hid e1
          clear h e1 h1 h2
          go_enter Try.func50, Try.ntmps50
          go_wp2
          go_ret
          exact ⟨by rw [E.out]; rfl, rfl⟩
        · have h3' : d ≤ b := by omega
          have e1 : cmpW a b c d = 1 := by unfold cmpW; rw [if_neg h, if_neg (by omega)]
          have E := Lib.hid e1
          have hbd : (b == d) = false := by simp; omega
          clear h e1 h1 h2 h3
          go_enter Try.func50, Try.ntmps50
          go_wp2
          all_goals first | (exfalso; omega) | (go_ret; exact ⟨by rw [E.out]; rfl, rfl⟩)
      · have h2' : (a == c) = false := by simpa using h2
        have e1 : cmpW a b c d = 1 := by unfold cmpW; rw [if_neg h, if_neg (by omega)]
        have E := Lib.hid e1
        clear h e1 h1 h2
        go_enter Try.func50, Try.ntmps50
        go_wp2
        go_ret
        exact ⟨by rw [E.out]; rfl, rfl⟩

end Go.Proofs.Ythbpdalkifocaaa
