/-
  Values of three cells; which are valid, in both packages, as contracts.
-/
import Derived.Test.YtledgnolmiecfaaGreatDoorProg
import Derived.WalkKit
import Derived.ProofKit
import Derived.Lib.Hide
import Derived.KernelRfl
import Derived.Deep.QuietTactic
import Derived.BigQuiet
import Derived.Deep.RegionHeld3
import Derived.Laws.StructEq
import Derived.OneCell
import Derived.Outline
namespace Go.Proofs.YtledgnolmiecfaaGreatDoor
open Go.RowKit
set_option linter.unusedSimpArgs false

abbrev Val := Int × Int × ByteArray
def cellsV (x : Val) : List Value := [.int .i64 x.1, .int .i64 x.2.1, .string x.2.2]
def validP (k n : Int) (s : ByteArray) : Prop := (k = 0 ∧ n = 0 ∧ s.toList.isEmpty = true) ∨ (k = 1 ∧ s.toList.isEmpty = true ∧ -1000000000000000 ≤ n ∧ n ≤ 1000000000000000) ∨ (k = 2 ∧ n = 0 ∧ (s.size : Int) ≤ 200)
instance (k n : Int) (s : ByteArray) : Decidable (validP k n s) := by unfold validP; infer_instance
def validV (k n : Int) (s : ByteArray) : Bool := decide (validP k n s)
theorem retB {a b : Bool} (h : a = b) : Ending.returned (.bool a) = .returned (.bool b) := by rw [h]

theorem within_any (n lo hi : Int) (w : World) :
    Calls Tryz.prog 63 #[.int .i64 n, .int .i64 lo, .int .i64 hi] w fun e w' => e = .returned (.bool (decide (lo ≤ n ∧ n ≤ hi))) ∧ w = w' := by
  by_cases h : lo ≤ n
  · have e : decide (lo ≤ n ∧ n ≤ hi) = decide (n ≤ hi) := by simp [h]
    rw [e]
    clear e
    go_enter Tryz.func63, Tryz.ntmps63
    go_wp2
    go_ret
    exact ⟨rfl, rfl⟩
  · have e : decide (lo ≤ n ∧ n ≤ hi) = false := by rw [decide_eq_false]; omega
    have h' : n < lo := by omega
    rw [e]
    clear e
    go_enter Tryz.func63, Tryz.ntmps63
    go_wp2
    go_ret
    exact ⟨rfl, rfl⟩

theorem refValidValue_any (k n : Int) (s : ByteArray) (w : World) :
    Calls Tryz.prog 45 #[.agg #[.int .i64 k, .int .i64 n, .string s]] w fun e w' => e = .returned (.bool (validV k n s)) ∧ w' = w.alloc (.cells #[.int .i64 k, .int .i64 n, .string s] 40) := by
  have hv : ∀ b, validV k n s = b → (Calls Tryz.prog 45 #[.agg #[.int .i64 k, .int .i64 n, .string s]] w fun e w' => e = .returned (.bool b) ∧ w' = w.alloc (.cells #[.int .i64 k, .int .i64 n, .string s] 40)) := by
    intro b hb
    unfold validV validP at hb
    by_cases h0 : k = 0
    · subst h0
      have HB := Lib.hid hb
      clear hb
      go_enter Tryz.func45, Tryz.ntmps45
      go_wp2
      all_goals
        have hb := HB.out
        go_ret
        exact ⟨by simp_all <;> first | (rw [← hb]; cases s.toList <;> rfl) | (rw [← hb, decide_eq_false (by omega)]; rfl), rfl⟩
    · by_cases h1 : k = 1
      · subst h1
        have HB := Lib.hid hb
        clear hb
        go_enter Tryz.func45, Tryz.ntmps45
        go_wp2_with (go_at_call 63; refine (within_any _ _ _ _).mono ?_; rintro e w' ⟨rfl, rfl⟩)
        all_goals
          have hb := HB.out
          go_ret
          exact ⟨by simp_all <;> first | (rw [← hb]; cases s.toList <;> rfl) | (rw [← hb, decide_eq_false (by omega)]; rfl), rfl⟩
      · by_cases h2 : k = 2
        · subst h2
          have HB := Lib.hid hb
          clear hb
          go_enter Tryz.func45, Tryz.ntmps45
          go_wp2
          all_goals
            have hb := HB.out
            go_ret
            exact ⟨by simp_all <;> first | (rw [← hb]; cases s.toList <;> rfl) | (rw [← hb, decide_eq_false (by omega)]; rfl), rfl⟩
        · have g0 : (k == 0) = false := by simpa using h0
          have g1 : (k == 1) = false := by simpa using h1
          have g2 : (k == 2) = false := by simpa using h2
          have hb' : b = false := by rw [← hb]; simp [h0, h1, h2]
          subst hb'
          clear hb h0 h1 h2
          go_enter Tryz.func45, Tryz.ntmps45
          go_wp2
          go_ret
          exact ⟨rfl, rfl⟩
  exact hv _ rfl

theorem rowValidValue_any (k n : Int) (s : ByteArray) (w : World) :
    Calls Tryz.prog 60 #[.agg #[.int .i64 k, .int .i64 n, .string s]] w fun e w' => e = .returned (.bool (validV k n s)) ∧ w' = w.alloc (.cells #[.int .i64 k, .int .i64 n, .string s] 40) := by
  have hv : ∀ b, validV k n s = b → (Calls Tryz.prog 60 #[.agg #[.int .i64 k, .int .i64 n, .string s]] w fun e w' => e = .returned (.bool b) ∧ w' = w.alloc (.cells #[.int .i64 k, .int .i64 n, .string s] 40)) := by
    intro b hb
    unfold validV validP at hb
    by_cases h0 : k = 0
    · subst h0
      have HB := Lib.hid hb
      clear hb
      go_enter Tryz.func60, Tryz.ntmps60
      go_wp2
      all_goals
        have hb := HB.out
        go_ret
        exact ⟨by simp_all <;> first | (rw [← hb]; cases s.toList <;> rfl) | (rw [← hb, decide_eq_false (by omega)]; rfl), rfl⟩
    · by_cases h1 : k = 1
      · subst h1
        have HB := Lib.hid hb
        clear hb
        go_enter Tryz.func60, Tryz.ntmps60
        go_wp2
        all_goals
          have hb := HB.out
          go_ret
          exact ⟨by simp_all <;> first | (rw [← hb]; cases s.toList <;> rfl) | (rw [← hb, decide_eq_false (by omega)]; rfl), rfl⟩
      · by_cases h2 : k = 2
        · subst h2
          have HB := Lib.hid hb
          clear hb
          go_enter Tryz.func60, Tryz.ntmps60
          go_wp2
          all_goals
            have hb := HB.out
            go_ret
            exact ⟨by simp_all <;> first | (rw [← hb]; cases s.toList <;> rfl) | (rw [← hb, decide_eq_false (by omega)]; rfl), rfl⟩
        · have g0 : (k == 0) = false := by simpa using h0
          have g1 : (k == 1) = false := by simpa using h1
          have g2 : (k == 2) = false := by simpa using h2
          have hb' : b = false := by rw [← hb]; simp [h0, h1, h2]
          subst hb'
          clear hb h0 h1 h2
          go_enter Tryz.func60, Tryz.ntmps60
          go_wp2
          go_ret
          exact ⟨rfl, rfl⟩
  exact hv _ rfl
end Go.Proofs.YtledgnolmiecfaaGreatDoor
