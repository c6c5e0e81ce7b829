/-
  Valid, ValidWindow, Contains, Touch, Compare, Floor: of package clock and of the document's own answers, as contracts.
-/
import Derived.Test.YtbiaalpnabkkfaaLeaf
import Derived.Test.YtbiaalpnabkkfaaSame
import Derived.WalkLawsBesides
namespace Go.Proofs.Ytbiaalpnabkkfaa
open Go.RowKit

def winOK (a b : Int) : Bool := decide (a < b ∧ -2000000000000 ≤ a ∧ b ≤ 2000000000000)
theorem winOK_iff (a b : Int) : winOK a b = true ↔ a < b ∧ -2000000000000 ≤ a ∧ b ≤ 2000000000000 := decide_eq_true_iff
theorem winOK_yes {a b : Int} (h : a < b ∧ -2000000000000 ≤ a ∧ b ≤ 2000000000000) : winOK a b = true := decide_eq_true h
theorem winOK_no {a b : Int} (h : ¬ (a < b ∧ -2000000000000 ≤ a ∧ b ≤ 2000000000000)) : winOK a b = false := decide_eq_false h
def inWin (a b t : Int) : Bool := decide ((a < b ∧ -2000000000000 ≤ a ∧ b ≤ 2000000000000) ∧ (-1000000000000 ≤ t ∧ t ≤ 1000000000000) ∧ a ≤ t ∧ t < b)
def touches (a b c d : Int) : Bool := decide ((a < b ∧ -2000000000000 ≤ a ∧ b ≤ 2000000000000) ∧ (c < d ∧ -2000000000000 ≤ c ∧ d ≤ 2000000000000) ∧ a < d ∧ c < b)
def cmpW (a b c d : Int) : Int := if a = c ∧ b = d then 0 else if a < c ∨ (a = c ∧ b < d) then -1 else 1
theorem retB {a b : Bool} (h : a = b) : Ending.returned (.bool a) = .returned (.bool b) := by rw [h]

theorem refWithin_any (n lo hi : Int) (w : World) :
    Calls Try.prog 40 #[.int .i64 n, .int .i64 lo, .int .i64 hi] w fun e w' => e = .returned (.bool (inR n lo hi)) ∧ w = w' := by
  by_cases h : lo ≤ n
  · go_enter Try.func40, Try.ntmps40
    go_wp2
    go_ret
    exact ⟨by simp [inR, h], rfl⟩
  · have h' : n < lo := by omega
    go_enter Try.func40, Try.ntmps40
    go_wp2
    go_ret
    exact ⟨by rw [inR_no (by omega)]; rfl, rfl⟩

theorem clkValid_any (t : Int) (w : World) :
    Calls Try.prog 10 #[.int .i64 t] w fun e w' => e = .returned (.bool (inR t (-1000000000000) 1000000000000)) ∧ w = w' := by
  go_enter Try.func10, Try.ntmps10
  go_wp2_with (go_at_call 39; refine (within_any _ _ _ _).mono ?_; rintro e w' ⟨rfl, rfl⟩)
  go_ret
  exact ⟨rfl, rfl⟩

theorem clkValidWindow_any (a b : Int) (w : World) :
    Calls Try.prog 12 #[.agg #[.int .i64 a, .int .i64 b]] w fun e w' => e = .returned (.bool (winOK a b)) ∧ w' = w.alloc (.cells #[.int .i64 a, .int .i64 b] 25) := by
  by_cases h : a < b
  · by_cases h2 : -2000000000000 ≤ a
    · go_enter Try.func12, Try.ntmps12
      go_wp2
      go_ret
      exact ⟨retB (by rw [Bool.eq_iff_iff]; simp [winOK]; omega), rfl⟩
    · have h2' : a < -2000000000000 := by omega
      go_enter Try.func12, Try.ntmps12
      go_wp2
      go_ret
      exact ⟨retB (by rw [winOK_no (by omega)]), rfl⟩
  · have h' : b ≤ a := by omega
    go_enter Try.func12, Try.ntmps12
    go_wp2
    go_ret
    exact ⟨retB (by rw [winOK_no (by omega)]), rfl⟩

theorem clkContains_any (a b t : Int) (w : World) :
    Calls Try.prog 16 #[.agg #[.int .i64 a, .int .i64 b], .int .i64 t] w fun e w' => e = .returned (.bool (inWin a b t)) ∧ w' = (w.alloc (.cells #[.int .i64 a, .int .i64 b] 25)).alloc (.cells #[.int .i64 a, .int .i64 b] 25) := by
  by_cases h : winOK a b = true
  · have hw := (winOK_iff _ _).1 h
    obtain ⟨hw1, hw2, hw3⟩ := hw
    by_cases h2 : inR t (-1000000000000) 1000000000000 = true
    · have ht := (inR_iff _ _ _).1 h2
      obtain ⟨ht1, ht2⟩ := ht
      by_cases h3 : a ≤ t
      · go_enter Try.func16, Try.ntmps16
        go_wp2_with (first | (go_at_call 10; refine (clkValid_any _ _).mono ?_; rintro e w' ⟨rfl, rfl⟩) | (go_at_call 12; refine (clkValidWindow_any _ _ _).mono ?_; rintro e w' ⟨rfl, rfl⟩) | (go_at_call 39; refine (within_any _ _ _ _).mono ?_; rintro e w' ⟨rfl, rfl⟩))
        go_ret
        exact ⟨retB (by rw [Bool.eq_iff_iff]; simp [inWin]; omega), rfl⟩
      · have h3' : t < a := by omega
        go_enter Try.func16, Try.ntmps16
        go_wp2_with (first | (go_at_call 10; refine (clkValid_any _ _).mono ?_; rintro e w' ⟨rfl, rfl⟩) | (go_at_call 12; refine (clkValidWindow_any _ _ _).mono ?_; rintro e w' ⟨rfl, rfl⟩) | (go_at_call 39; refine (within_any _ _ _ _).mono ?_; rintro e w' ⟨rfl, rfl⟩))
        go_ret
        exact ⟨retB (by rw [Bool.eq_iff_iff]; simp [inWin]; omega), rfl⟩
    · have h2' : inR t (-1000000000000) 1000000000000 = false := by simpa using h2
      have ht : ¬ (-1000000000000 ≤ t ∧ t ≤ 1000000000000) := fun h => h2 (inR_yes h)
      have HT := Lib.hid ht
      clear h2 ht
      go_enter Try.func16, Try.ntmps16
      go_wp2_with (first | (go_at_call 10; refine (clkValid_any _ _).mono ?_; rintro e w' ⟨rfl, rfl⟩) | (go_at_call 12; refine (clkValidWindow_any _ _ _).mono ?_; rintro e w' ⟨rfl, rfl⟩) | (go_at_call 39; refine (within_any _ _ _ _).mono ?_; rintro e w' ⟨rfl, rfl⟩))
      go_ret
      have ht := HT.out
      exact ⟨retB (by unfold inWin; rw [eq_comm, decide_eq_false (by omega)]), rfl⟩
  · have h' : winOK a b = false := by simpa using h
    have hw : ¬ (a < b ∧ -2000000000000 ≤ a ∧ b ≤ 2000000000000) := fun h2 => h (winOK_yes h2)
    have HW := Lib.hid hw
    clear h hw
    go_enter Try.func16, Try.ntmps16
    go_wp2_with (first | (go_at_call 10; refine (clkValid_any _ _).mono ?_; rintro e w' ⟨rfl, rfl⟩) | (go_at_call 12; refine (clkValidWindow_any _ _ _).mono ?_; rintro e w' ⟨rfl, rfl⟩) | (go_at_call 39; refine (within_any _ _ _ _).mono ?_; rintro e w' ⟨rfl, rfl⟩))
    go_ret
    have hw := HW.out
    exact ⟨retB (by unfold inWin; rw [eq_comm, decide_eq_false (by omega)]), rfl⟩

set_option maxHeartbeats 1000000 in
theorem clkTouch_any (a b c d : Int) (w : World) :
    Calls Try.prog 18 #[.agg #[.int .i64 a, .int .i64 b], .agg #[.int .i64 c, .int .i64 d]] w fun e w' => e = .returned (.bool (touches a b c d)) ∧ Below w.heap.size w w' := by
  by_cases h : winOK a b = true
  · have hw := (winOK_iff _ _).1 h
    obtain ⟨hw1, hw2, hw3⟩ := hw
    by_cases h2 : winOK c d = true
    · have hv := (winOK_iff _ _).1 h2
      obtain ⟨hv1, hv2, hv3⟩ := hv
      by_cases h3 : a < d
      · go_enter Try.func18, Try.ntmps18
        go_wp2_with (go_at_call 12; refine (clkValidWindow_any _ _ _).mono ?_; rintro e w' ⟨rfl, rfl⟩)
        go_ret
        exact ⟨retB (by rw [Bool.eq_iff_iff]; simp [touches]; omega), ((((Below.refl _ _).alloc (Nat.le_refl _) _).alloc (by simp) _).alloc (by simp; omega) _).alloc (by simp; omega) _⟩
      · have h3' : d ≤ a := by omega
        go_enter Try.func18, Try.ntmps18
        go_wp2_with (go_at_call 12; refine (clkValidWindow_any _ _ _).mono ?_; rintro e w' ⟨rfl, rfl⟩)
        go_ret
        exact ⟨retB (by unfold touches; rw [eq_comm, decide_eq_false (by omega)]), ((((Below.refl _ _).alloc (Nat.le_refl _) _).alloc (by simp) _).alloc (by simp; omega) _).alloc (by simp; omega) _⟩
    · have h2' : winOK c d = false := by simpa using h2
      have hv : ¬ (c < d ∧ -2000000000000 ≤ c ∧ d ≤ 2000000000000) := fun h3 => h2 (winOK_yes h3)
      have HV := Lib.hid hv
      clear h2 hv
      go_enter Try.func18, Try.ntmps18
      go_wp2_with (go_at_call 12; refine (clkValidWindow_any _ _ _).mono ?_; rintro e w' ⟨rfl, rfl⟩)
      go_ret
      have hv := HV.out
      exact ⟨retB (by unfold touches; rw [eq_comm, decide_eq_false (by omega)]), ((((Below.refl _ _).alloc (Nat.le_refl _) _).alloc (by simp) _).alloc (by simp; omega) _).alloc (by simp; omega) _⟩
  · have h' : winOK a b = false := by simpa using h
    have hw : ¬ (a < b ∧ -2000000000000 ≤ a ∧ b ≤ 2000000000000) := fun h2 => h (winOK_yes h2)
    have HW := Lib.hid hw
    clear h hw
    go_enter Try.func18, Try.ntmps18
    go_wp2_with (go_at_call 12; refine (clkValidWindow_any _ _ _).mono ?_; rintro e w' ⟨rfl, rfl⟩)
    go_ret
    have hw := HW.out
    exact ⟨retB (by unfold touches; rw [eq_comm, decide_eq_false (by omega)]), (((Below.refl _ _).alloc (Nat.le_refl _) _).alloc (by simp) _).alloc (by simp; omega) _⟩

set_option maxRecDepth 100000 in
theorem clkCompare_any (a b c d : Int) (w : World) :
    Calls Try.prog 20 #[.agg #[.int .i64 a, .int .i64 b], .agg #[.int .i64 c, .int .i64 d]] w fun e w' => e = .returned (.int .i64 (cmpW a b c d)) ∧ w' = (w.alloc (.cells #[.int .i64 a, .int .i64 b] 25)).alloc (.cells #[.int .i64 c, .int .i64 d] 25) := by
  have hm := guardW
  have he := fun W => eqlW a b c d W
  by_cases h : a = c ∧ b = d
  · obtain ⟨rfl, rfl⟩ := h
    go_enter Try.func20, Try.ntmps20
    go_wp2
    go_ret
    exact ⟨by simp [cmpW], rfl⟩
  · have h' : (a == c && b == d) = false := by simp; omega
    by_cases h1 : a < c
    · have e1 : cmpW a b c d = -1 := by unfold cmpW; rw [if_neg h, if_pos (.inl h1)]
      have E := Lib.hid e1
      clear h e1
      go_enter Try.func20, Try.ntmps20
      go_wp2
      go_ret
      exact ⟨by rw [E.out]; rfl, rfl⟩
    · have h1' : c ≤ a := by omega
      by_cases h2 : a = c
      · have h2' : (a == c) = true := by simpa using h2
        by_cases h3 : b < d
        · have e1 : cmpW a b c d = -1 := by unfold cmpW; rw [if_neg h, if_pos (.inr ⟨h2, h3⟩)]
          have E := Lib.hid e1
          clear h e1 h1 h2
          go_enter Try.func20, Try.ntmps20
          go_wp2
          go_ret
          exact ⟨by rw [E.out]; rfl, rfl⟩
        · have h3' : d ≤ b := by omega
          have e1 : cmpW a b c d = 1 := by unfold cmpW; rw [if_neg h, if_neg (by omega)]
          have E := Lib.hid e1
          have hbd : (b == d) = false := by simp; omega
          clear h e1 h1 h2 h3
          go_enter Try.func20, Try.ntmps20
          go_wp2
          all_goals first | (exfalso; omega) | (go_ret; exact ⟨by rw [E.out]; rfl, rfl⟩)
      · have h2' : (a == c) = false := by simpa using h2
        have e1 : cmpW a b c d = 1 := by unfold cmpW; rw [if_neg h, if_neg (by omega)]
        have E := Lib.hid e1
        clear h e1 h1 h2
        go_enter Try.func20, Try.ntmps20
        go_wp2
        go_ret
        exact ⟨by rw [E.out]; rfl, rfl⟩

theorem refValid_any (t : Int) (w : World) :
    Calls Try.prog 11 #[.int .i64 t] w fun e w' => e = .returned (.bool (inR t (-1000000000000) 1000000000000)) ∧ w = w' := by
  go_enter Try.func11, Try.ntmps11
  go_wp2_with (go_at_call 40; refine (refWithin_any _ _ _ _).mono ?_; rintro e w' ⟨rfl, rfl⟩)
  go_ret
  exact ⟨rfl, rfl⟩

theorem refValidWindow_any (a b : Int) (w : World) :
    Calls Try.prog 13 #[.agg #[.int .i64 a, .int .i64 b]] w fun e w' => e = .returned (.bool (winOK a b)) ∧ w' = w.alloc (.cells #[.int .i64 a, .int .i64 b] 25) := by
  by_cases h : a < b
  · by_cases h2 : -2000000000000 ≤ a ∧ a ≤ 2000000000000
    · have i2 := inR_yes h2
      go_enter Try.func13, Try.ntmps13
      go_wp2_with (go_at_call 40; refine (refWithin_any _ _ _ _).mono ?_; rintro e w' ⟨rfl, rfl⟩)
      go_ret
      exact ⟨retB (by rw [Bool.eq_iff_iff, inR_iff, winOK_iff]; omega), rfl⟩
    · have i2 := inR_no h2
      go_enter Try.func13, Try.ntmps13
      go_wp2_with (go_at_call 40; refine (refWithin_any _ _ _ _).mono ?_; rintro e w' ⟨rfl, rfl⟩)
      go_ret
      exact ⟨retB (by rw [winOK_no (by omega)]), rfl⟩
  · have h' : b ≤ a := by omega
    go_enter Try.func13, Try.ntmps13
    go_wp2_with fail
    go_ret
    exact ⟨retB (by rw [winOK_no (by omega)]), rfl⟩

theorem refContains_any (a b t : Int) (w : World) :
    Calls Try.prog 17 #[.agg #[.int .i64 a, .int .i64 b], .int .i64 t] w fun e w' => e = .returned (.bool (inWin a b t)) ∧ w' = (w.alloc (.cells #[.int .i64 a, .int .i64 b] 25)).alloc (.cells #[.int .i64 a, .int .i64 b] 25) := by
  by_cases h : winOK a b = true
  · have hw := (winOK_iff _ _).1 h
    obtain ⟨hw1, hw2, hw3⟩ := hw
    by_cases h2 : inR t (-1000000000000) 1000000000000 = true
    · have ht := (inR_iff _ _ _).1 h2
      obtain ⟨ht1, ht2⟩ := ht
      by_cases h3 : a ≤ t
      · go_enter Try.func17, Try.ntmps17
        go_wp2_with (first | (go_at_call 11; refine (refValid_any _ _).mono ?_; rintro e w' ⟨rfl, rfl⟩) | (go_at_call 13; refine (refValidWindow_any _ _ _).mono ?_; rintro e w' ⟨rfl, rfl⟩) | (go_at_call 40; refine (refWithin_any _ _ _ _).mono ?_; rintro e w' ⟨rfl, rfl⟩))
        go_ret
        exact ⟨retB (by rw [Bool.eq_iff_iff]; simp [inWin, inR]; omega), rfl⟩
      · have h3' : t < a := by omega
        go_enter Try.func17, Try.ntmps17
        go_wp2_with (first | (go_at_call 11; refine (refValid_any _ _).mono ?_; rintro e w' ⟨rfl, rfl⟩) | (go_at_call 13; refine (refValidWindow_any _ _ _).mono ?_; rintro e w' ⟨rfl, rfl⟩) | (go_at_call 40; refine (refWithin_any _ _ _ _).mono ?_; rintro e w' ⟨rfl, rfl⟩))
        go_ret
        exact ⟨retB (by rw [Bool.eq_iff_iff]; simp [inWin, inR]; omega), rfl⟩
    · have h2' : inR t (-1000000000000) 1000000000000 = false := by simpa using h2
      have ht : ¬ (-1000000000000 ≤ t ∧ t ≤ 1000000000000) := fun h => h2 (inR_yes h)
      have HT := Lib.hid ht
      clear h2 ht
      go_enter Try.func17, Try.ntmps17
      go_wp2_with (first | (go_at_call 11; refine (refValid_any _ _).mono ?_; rintro e w' ⟨rfl, rfl⟩) | (go_at_call 13; refine (refValidWindow_any _ _ _).mono ?_; rintro e w' ⟨rfl, rfl⟩) | (go_at_call 40; refine (refWithin_any _ _ _ _).mono ?_; rintro e w' ⟨rfl, rfl⟩))
      go_ret
      have ht := HT.out
      exact ⟨retB (by unfold inWin; rw [eq_comm, decide_eq_false (by omega)]), rfl⟩
  · have h' : winOK a b = false := by simpa using h
    have hw : ¬ (a < b ∧ -2000000000000 ≤ a ∧ b ≤ 2000000000000) := fun h2 => h (winOK_yes h2)
    have HW := Lib.hid hw
    clear h hw
    go_enter Try.func17, Try.ntmps17
    go_wp2_with (first | (go_at_call 11; refine (refValid_any _ _).mono ?_; rintro e w' ⟨rfl, rfl⟩) | (go_at_call 13; refine (refValidWindow_any _ _ _).mono ?_; rintro e w' ⟨rfl, rfl⟩) | (go_at_call 40; refine (refWithin_any _ _ _ _).mono ?_; rintro e w' ⟨rfl, rfl⟩))
    go_ret
    have hw := HW.out
    exact ⟨retB (by unfold inWin; rw [eq_comm, decide_eq_false (by omega)]), rfl⟩

set_option maxHeartbeats 1000000 in
theorem refTouch_any (a b c d : Int) (w : World) :
    Calls Try.prog 19 #[.agg #[.int .i64 a, .int .i64 b], .agg #[.int .i64 c, .int .i64 d]] w fun e w' => e = .returned (.bool (touches a b c d)) ∧ Below w.heap.size w w' := by
  by_cases h : winOK a b = true
  · have hw := (winOK_iff _ _).1 h
    obtain ⟨hw1, hw2, hw3⟩ := hw
    by_cases h2 : winOK c d = true
    · have hv := (winOK_iff _ _).1 h2
      obtain ⟨hv1, hv2, hv3⟩ := hv
      go_enter Try.func19, Try.ntmps19
      go_wp2_with (go_at_call 13; refine (refValidWindow_any _ _ _).mono ?_; rintro e w' ⟨rfl, rfl⟩)
      all_goals go_ret
      all_goals exact ⟨retB (by rw [Bool.eq_iff_iff]; simp [touches]; omega), ((((Below.refl _ _).alloc (Nat.le_refl _) _).alloc (by simp) _).alloc (by simp; omega) _).alloc (by simp; omega) _⟩
    · have h2' : winOK c d = false := by simpa using h2
      have hv : ¬ (c < d ∧ -2000000000000 ≤ c ∧ d ≤ 2000000000000) := fun h3 => h2 (winOK_yes h3)
      have HV := Lib.hid hv
      clear h2 hv
      go_enter Try.func19, Try.ntmps19
      go_wp2_with (go_at_call 13; refine (refValidWindow_any _ _ _).mono ?_; rintro e w' ⟨rfl, rfl⟩)
      go_ret
      have hv := HV.out
      exact ⟨retB (by unfold touches; rw [eq_comm, decide_eq_false (by omega)]), ((((Below.refl _ _).alloc (Nat.le_refl _) _).alloc (by simp) _).alloc (by simp; omega) _).alloc (by simp; omega) _⟩
  · have h' : winOK a b = false := by simpa using h
    have hw : ¬ (a < b ∧ -2000000000000 ≤ a ∧ b ≤ 2000000000000) := fun h2 => h (winOK_yes h2)
    have HW := Lib.hid hw
    clear h hw
    go_enter Try.func19, Try.ntmps19
    go_wp2_with (go_at_call 13; refine (refValidWindow_any _ _ _).mono ?_; rintro e w' ⟨rfl, rfl⟩)
    go_ret
    have hw := HW.out
    exact ⟨retB (by unfold touches; rw [eq_comm, decide_eq_false (by omega)]), (((Below.refl _ _).alloc (Nat.le_refl _) _).alloc (by simp) _).alloc (by simp; omega) _⟩

set_option maxRecDepth 100000 in
theorem refCompare_any (a b c d : Int) (w : World) :
    Calls Try.prog 21 #[.agg #[.int .i64 a, .int .i64 b], .agg #[.int .i64 c, .int .i64 d]] w fun e w' => e = .returned (.int .i64 (cmpW a b c d)) ∧ w' = (w.alloc (.cells #[.int .i64 a, .int .i64 b] 25)).alloc (.cells #[.int .i64 c, .int .i64 d] 25) := by
  have hm := guardW
  have he := fun W => eqlW a b c d W
  by_cases h : a = c ∧ b = d
  · obtain ⟨rfl, rfl⟩ := h
    go_enter Try.func21, Try.ntmps21
    go_wp2
    go_ret
    exact ⟨by simp [cmpW], rfl⟩
  · have h' : (a == c && b == d) = false := by simp; omega
    by_cases h1 : a < c
    · have e1 : cmpW a b c d = -1 := by unfold cmpW; rw [if_neg h, if_pos (.inl h1)]
      have E := Lib.hid e1
      clear h e1
      go_enter Try.func21, Try.ntmps21
      go_wp2
      go_ret
      exact ⟨by rw [E.out]; rfl, rfl⟩
    · have h1' : c ≤ a := by omega
      by_cases h2 : a = c
      · have h2' : (a == c) = true := by simpa using h2
        by_cases h3 : b < d
        · have e1 : cmpW a b c d = -1 := by unfold cmpW; rw [if_neg h, if_pos (.inr ⟨h2, h3⟩)]
          have E := Lib.hid e1
          clear h e1 h1 h2
          go_enter Try.func21, Try.ntmps21
          go_wp2
          go_ret
          exact ⟨by rw [E.out]; rfl, rfl⟩
        · have h3' : d ≤ b := by omega
          have e1 : cmpW a b c d = 1 := by unfold cmpW; rw [if_neg h, if_neg (by omega)]
          have E := Lib.hid e1
          have hbd : (b == d) = false := by simp; omega
          clear h e1 h1 h2 h3
          go_enter Try.func21, Try.ntmps21
          go_wp2
          all_goals first | (exfalso; omega) | (go_ret; exact ⟨by rw [E.out]; rfl, rfl⟩)
      · have h2' : (a == c) = false := by simpa using h2
        have e1 : cmpW a b c d = 1 := by unfold cmpW; rw [if_neg h, if_neg (by omega)]
        have E := Lib.hid e1
        clear h e1 h1 h2
        go_enter Try.func21, Try.ntmps21
        go_wp2
        go_ret
        exact ⟨by rw [E.out]; rfl, rfl⟩

theorem Div_any (a b : Int) (ha : -4000000000000000 ≤ a) (ha' : a ≤ 4000000000000000) (hb : 1 ≤ b) (hb' : b ≤ 1000000000) (w : World) :
    Calls Try.prog 42 #[.int .i64 a, .int .i64 b] w fun e w' => e = .returned (.int .i64 (a / b)) ∧ w = w' := by
  obtain ⟨t1, t2⟩ := tdiv_floor a b hb
  obtain ⟨e1, e2⟩ := ediv_bound a b 4000000000000000 hb (by omega) ha ha'
  obtain ⟨m1, m2, m3, m4⟩ := tdiv_mul a b hb
  by_cases hm : a.tmod b < 0
  · have t1' := t1 hm
    have b1 : -4000000000000000 ≤ a.tdiv b - 1 := by omega
    have b2 : a.tdiv b - 1 ≤ 4000000000000000 := by omega
    have b3 : -9000000000000000 ≤ a.tdiv b * b := by omega
    have b4 : a.tdiv b * b ≤ 9000000000000000 := by omega
    have hgt : a < a.tdiv b * b := m3 hm
    have H := Lib.hid t1'
    clear t1 t2 t1' m1 m2 m3 m4 hm
    go_enter Try.func42, Try.ntmps42
    go_wp2
    go_ret
    exact ⟨by rw [H.out]; rfl, rfl⟩
  · have t2' := t2 (by omega)
    have b1 : -4000000000000000 ≤ a.tdiv b := by omega
    have b2 : a.tdiv b ≤ 4000000000000000 := by omega
    have b3 : -9000000000000000 ≤ a.tdiv b * b := by omega
    have b4 : a.tdiv b * b ≤ 9000000000000000 := by omega
    have hle : a.tdiv b * b ≤ a := m4 (by omega)
    have H := Lib.hid t2'
    clear t1 t2 t2' m1 m2 m3 m4 hm
    go_enter Try.func42, Try.ntmps42
    go_wp2
    go_ret
    exact ⟨by rw [H.out]; rfl, rfl⟩

def floorErr (a b : Int) : Int := if inR a (-1000000000000000) 1000000000000000 = true ∧ inR b 1 1000000000 = true then 0 else 7
def floorVal (a b : Int) : Int := if inR a (-1000000000000000) 1000000000000000 = true ∧ inR b 1 1000000000 = true then a / b else 0

theorem clkFloor_any (a b : Int) (w : World) :
    Calls Try.prog 22 #[.int .i64 a, .int .i64 b] w fun e w' => e = .returned (.tuple #[.int .i64 (floorVal a b), .int .i64 (floorErr a b)]) ∧ w = w' := by
  by_cases h : inR a (-1000000000000000) 1000000000000000 = true
  · by_cases h2 : inR b 1 1000000000 = true
    · obtain ⟨ha, ha'⟩ := (inR_iff _ _ _).1 h
      obtain ⟨hb, hb'⟩ := (inR_iff _ _ _).1 h2
      have E : floorErr a b = 0 := by simp [floorErr, h, h2]
      have V : floorVal a b = a / b := by simp [floorVal, h, h2]
      rw [E, V]
      clear E V
      have hf := Lib.hid fun W => floor_any a b (by omega) (by omega) hb hb' W
      clear ha ha' hb hb'
      go_enter Try.func22, Try.ntmps22
      go_wp2_with (first | (go_at_call 39; refine (within_any _ _ _ _).mono ?_; rintro e w' ⟨rfl, rfl⟩) | (go_at_call 41; refine (hf.out _).mono ?_; rintro e w' ⟨rfl, rfl⟩))
      go_ret2
      exact ⟨rfl, rfl⟩
    · have h2' : inR b 1 1000000000 = false := by simpa using h2
      have E : floorErr a b = 7 := by simp [floorErr, h2']
      have V : floorVal a b = 0 := by simp [floorVal, h2']
      rw [E, V]
      clear E V h2
      go_enter Try.func22, Try.ntmps22
      go_wp2_with (go_at_call 39; refine (within_any _ _ _ _).mono ?_; rintro e w' ⟨rfl, rfl⟩)
      go_ret2
      exact ⟨rfl, rfl⟩
  · have h' : inR a (-1000000000000000) 1000000000000000 = false := by simpa using h
    have E : floorErr a b = 7 := by simp [floorErr, h']
    have V : floorVal a b = 0 := by simp [floorVal, h']
    rw [E, V]
    clear E V h
    go_enter Try.func22, Try.ntmps22
    go_wp2_with (go_at_call 39; refine (within_any _ _ _ _).mono ?_; rintro e w' ⟨rfl, rfl⟩)
    go_ret2
    exact ⟨rfl, rfl⟩

theorem refFloor_any (a b : Int) (w : World) :
    Calls Try.prog 23 #[.int .i64 a, .int .i64 b] w fun e w' => e = .returned (.tuple #[.int .i64 (floorVal a b), .int .i64 (floorErr a b)]) ∧ w = w' := by
  by_cases h : inR a (-1000000000000000) 1000000000000000 = true
  · by_cases h2 : inR b 1 1000000000 = true
    · obtain ⟨ha, ha'⟩ := (inR_iff _ _ _).1 h
      obtain ⟨hb, hb'⟩ := (inR_iff _ _ _).1 h2
      have E : floorErr a b = 0 := by simp [floorErr, h, h2]
      have V : floorVal a b = a / b := by simp [floorVal, h, h2]
      rw [E, V]
      clear E V
      have hf := Lib.hid fun W => Div_any a b (by omega) (by omega) hb hb' W
      clear ha ha' hb hb'
      go_enter Try.func23, Try.ntmps23
      go_wp2_with (first | (go_at_call 40; refine (refWithin_any _ _ _ _).mono ?_; rintro e w' ⟨rfl, rfl⟩) | (go_at_call 42; refine (hf.out _).mono ?_; rintro e w' ⟨rfl, rfl⟩))
      go_ret2
      exact ⟨rfl, rfl⟩
    · have h2' : inR b 1 1000000000 = false := by simpa using h2
      have E : floorErr a b = 7 := by simp [floorErr, h2']
      have V : floorVal a b = 0 := by simp [floorVal, h2']
      rw [E, V]
      clear E V h2
      go_enter Try.func23, Try.ntmps23
      go_wp2_with (go_at_call 40; refine (refWithin_any _ _ _ _).mono ?_; rintro e w' ⟨rfl, rfl⟩)
      go_ret2
      exact ⟨rfl, rfl⟩
  · have h' : inR a (-1000000000000000) 1000000000000000 = false := by simpa using h
    have E : floorErr a b = 7 := by simp [floorErr, h']
    have V : floorVal a b = 0 := by simp [floorVal, h']
    rw [E, V]
    clear E V h
    go_enter Try.func23, Try.ntmps23
    go_wp2_with (go_at_call 40; refine (refWithin_any _ _ _ _).mono ?_; rintro e w' ⟨rfl, rfl⟩)
    go_ret2
    exact ⟨rfl, rfl⟩
end Go.Proofs.Ytbiaalpnabkkfaa
