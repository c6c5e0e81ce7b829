/-
  ValidSpec, as a contract: at every five numbers.
-/
import Derived.Test.YtakekegghpgeaaaDoorLeaf
namespace Go.Proofs.YtakekegghpgeaaaDoor
open Go.RowKit

theorem ret_bool {a b : Bool} (h : a = b) : Ending.returned (.bool a) = .returned (.bool b) := by rw [h]

theorem eqSpec (a0 a1 a2 a3 a4 b0 b1 b2 b3 b4 : Int) (w : World) :
    (binOp .eql 23 (.agg #[.int .i64 a0, .int .i64 a1, .int .i64 a2, .int .i64 a3, .int .i64 a4]) (.agg #[.int .i64 b0, .int .i64 b1, .int .i64 b2, .int .i64 b3, .int .i64 b4])).run Tryd.prog w = .ok (.bool (a0 == b0 && a1 == b1 && a2 == b2 && a3 == b3 && a4 == b4)) w := by
  have uI := Tryd.underlying3
  have gI := Tryd.isAgg3
  have zI := Tryd.sizeOf3
  have hS : Tryd.prog.underlying 23 = some (.struct (Tryd.prog.fieldsOf 23)) := by kernel_rfl
  have hp : Tryd.prog.stoodInHeld 23 = false := by kernel_rfl
  rw [run_eql_struct, show (10000 : Nat) = 9999 + 1 from rfl, run_equalIn_agg w 9999 23 _ _ hS hp]
  simp only [Program.fieldsOf, Tryd.underlying23]
  go_simp
  by_cases h0 : a0 = b0 <;> by_cases h1 : a1 = b1 <;> by_cases h2 : a2 = b2 <;> by_cases h3 : a3 = b3 <;> by_cases h4 : a4 = b4 <;> simp [h0, h1, h2, h3, h4]
theorem guardSpec : Tryd.prog.eqGuardType Tryd.prog.depth 23 = false := by kernel_rfl

set_option maxRecDepth 100000 in
set_option maxHeartbeats 1000000 in
theorem ValidSpec_1 (sz st g sh : Int) (w : World) :
    Calls Tryd.prog 8 #[.agg #[.int .i64 1, .int .i64 sz, .int .i64 st, .int .i64 g, .int .i64 sh]] w fun e w' => e = .returned (.bool (specOK 1 sz st g sh)) ∧ w' = w.alloc (.cells #[.int .i64 1, .int .i64 sz, .int .i64 st, .int .i64 g, .int .i64 sh] 23) := by
  have hm := guardSpec
  have he := fun W => eqSpec 1 sz st g sh 1 sz 0 0 sh W
  by_cases h0 : st = 0 ∧ g = 0
  · obtain ⟨rfl, rfl⟩ := h0
    by_cases h1 : 1 ≤ sz ∧ sz ≤ 1000000000
    · have i1 := inR_yes h1
      obtain ⟨h1a, h1b⟩ := h1
      go_enter Tryd.func8, Tryd.ntmps8
      go_wp2_with (go_at_call 17; refine (within_any _ _ _ _).mono ?_; rintro e w' ⟨rfl, rfl⟩)
      go_ret
      exact ⟨ret_bool (by rw [Bool.eq_iff_iff, inR_iff]; simp only [specOK, decide_eq_true_eq]; unfold specP; omega), rfl⟩
    · have i1 := inR_no h1
      go_enter Tryd.func8, Tryd.ntmps8
      go_wp2_with (go_at_call 17; refine (within_any _ _ _ _).mono ?_; rintro e w' ⟨rfl, rfl⟩)
      go_ret
      exact ⟨ret_bool (by rw [specOK_no (by unfold specP; omega)]), rfl⟩
  · have h0' : (st == 0 && g == 0) = false := by simp; omega
    go_enter Tryd.func8, Tryd.ntmps8
    go_wp2_with (go_at_call 17; refine (within_any _ _ _ _).mono ?_; rintro e w' ⟨rfl, rfl⟩)
    go_ret
    exact ⟨ret_bool (by rw [specOK_no (by unfold specP; omega)]), rfl⟩

set_option maxRecDepth 100000 in
set_option maxHeartbeats 1000000 in
theorem ValidSpec_2 (sz st g sh : Int) (w : World) :
    Calls Tryd.prog 8 #[.agg #[.int .i64 2, .int .i64 sz, .int .i64 st, .int .i64 g, .int .i64 sh]] w fun e w' => e = .returned (.bool (specOK 2 sz st g sh)) ∧ w' = w.alloc (.cells #[.int .i64 2, .int .i64 sz, .int .i64 st, .int .i64 g, .int .i64 sh] 23) := by
  have hm := guardSpec
  have he := fun W => eqSpec 2 sz st g sh 2 sz st 0 sh W
  by_cases h0 : g = 0
  · subst h0
    by_cases h1 : 1 ≤ sz ∧ sz ≤ 1000000000
    · have i1 := inR_yes h1
      by_cases h2 : 1 ≤ st ∧ st ≤ sz
      · have i2 := inR_yes h2
        obtain ⟨h1a, h1b⟩ := h1
        obtain ⟨h2a, h2b⟩ := h2
        by_cases h3 : sz ≤ 50 * st
        · go_enter Tryd.func8, Tryd.ntmps8
          go_wp2_with (go_at_call 17; refine (within_any _ _ _ _).mono ?_; rintro e w' ⟨rfl, rfl⟩)
          go_ret
          exact ⟨ret_bool (by rw [Bool.eq_iff_iff, inR_iff]; simp only [specOK, decide_eq_true_eq]; unfold specP; omega), rfl⟩
        · have h3' : 50 * st < sz := by omega
          go_enter Tryd.func8, Tryd.ntmps8
          go_wp2_with (go_at_call 17; refine (within_any _ _ _ _).mono ?_; rintro e w' ⟨rfl, rfl⟩)
          go_ret
          exact ⟨ret_bool (by rw [specOK_no (by unfold specP; omega)]), rfl⟩
      · have i2 := inR_no h2
        obtain ⟨h1a, h1b⟩ := h1
        go_enter Tryd.func8, Tryd.ntmps8
        go_wp2_with (go_at_call 17; refine (within_any _ _ _ _).mono ?_; rintro e w' ⟨rfl, rfl⟩)
        go_ret
        exact ⟨ret_bool (by rw [specOK_no (by unfold specP; omega)]), rfl⟩
    · have i1 := inR_no h1
      go_enter Tryd.func8, Tryd.ntmps8
      go_wp2_with (go_at_call 17; refine (within_any _ _ _ _).mono ?_; rintro e w' ⟨rfl, rfl⟩)
      go_ret
      exact ⟨ret_bool (by rw [specOK_no (by unfold specP; omega)]), rfl⟩
  · have h0' : (g == 0) = false := by simpa using h0
    go_enter Tryd.func8, Tryd.ntmps8
    go_wp2_with (go_at_call 17; refine (within_any _ _ _ _).mono ?_; rintro e w' ⟨rfl, rfl⟩)
    go_ret
    exact ⟨ret_bool (by rw [specOK_no (by unfold specP; omega)]), rfl⟩

set_option maxRecDepth 100000 in
set_option maxHeartbeats 1000000 in
theorem ValidSpec_3 (sz st g sh : Int) (w : World) :
    Calls Tryd.prog 8 #[.agg #[.int .i64 3, .int .i64 sz, .int .i64 st, .int .i64 g, .int .i64 sh]] w fun e w' => e = .returned (.bool (specOK 3 sz st g sh)) ∧ w' = w.alloc (.cells #[.int .i64 3, .int .i64 sz, .int .i64 st, .int .i64 g, .int .i64 sh] 23) := by
  have hm := guardSpec
  have he := fun W => eqSpec 3 sz st g sh 3 0 0 g 0 W
  by_cases h0 : sz = 0 ∧ st = 0 ∧ sh = 0
  · obtain ⟨rfl, rfl, rfl⟩ := h0
    go_enter Tryd.func8, Tryd.ntmps8
    go_wp2_with (go_at_call 17; refine (within_any _ _ _ _).mono ?_; rintro e w' ⟨rfl, rfl⟩)
    go_ret
    exact ⟨ret_bool (by rw [Bool.eq_iff_iff, inR_iff]; simp only [specOK, decide_eq_true_eq]; unfold specP; omega), rfl⟩
  · have h0' : (sz == 0 && st == 0 && sh == 0) = false := by simp; omega
    go_enter Tryd.func8, Tryd.ntmps8
    go_wp2_with (go_at_call 17; refine (within_any _ _ _ _).mono ?_; rintro e w' ⟨rfl, rfl⟩)
    go_ret
    exact ⟨ret_bool (by rw [specOK_no (by unfold specP; omega)]), rfl⟩

set_option maxRecDepth 100000 in
set_option maxHeartbeats 1000000 in
theorem ValidSpec_4 (sz st g sh : Int) (w : World) :
    Calls Tryd.prog 8 #[.agg #[.int .i64 4, .int .i64 sz, .int .i64 st, .int .i64 g, .int .i64 sh]] w fun e w' => e = .returned (.bool (specOK 4 sz st g sh)) ∧ w' = w.alloc (.cells #[.int .i64 4, .int .i64 sz, .int .i64 st, .int .i64 g, .int .i64 sh] 23) := by
  have hm := guardSpec
  have he := fun W => eqSpec 4 sz st g sh 4 0 0 0 0 W
  by_cases h0 : sz = 0 ∧ st = 0 ∧ g = 0 ∧ sh = 0
  · obtain ⟨rfl, rfl, rfl, rfl⟩ := h0
    go_enter Tryd.func8, Tryd.ntmps8
    go_wp2_with (go_at_call 17; refine (within_any _ _ _ _).mono ?_; rintro e w' ⟨rfl, rfl⟩)
    go_ret
    exact ⟨ret_bool (by rw [specOK_yes (by unfold specP; omega)]), rfl⟩
  · have h0' : (sz == 0 && st == 0 && g == 0 && sh == 0) = false := by simp; omega
    go_enter Tryd.func8, Tryd.ntmps8
    go_wp2_with (go_at_call 17; refine (within_any _ _ _ _).mono ?_; rintro e w' ⟨rfl, rfl⟩)
    go_ret
    exact ⟨ret_bool (by rw [specOK_no (by unfold specP; omega)]), rfl⟩

set_option maxRecDepth 100000 in
set_option maxHeartbeats 1000000 in
theorem ValidSpec_0 (k sz st g sh : Int) (hk : k ≠ 1 ∧ k ≠ 2 ∧ k ≠ 3 ∧ k ≠ 4) (w : World) :
    Calls Tryd.prog 8 #[.agg #[.int .i64 k, .int .i64 sz, .int .i64 st, .int .i64 g, .int .i64 sh]] w fun e w' => e = .returned (.bool (specOK k sz st g sh)) ∧ w' = w.alloc (.cells #[.int .i64 k, .int .i64 sz, .int .i64 st, .int .i64 g, .int .i64 sh] 23) := by
  have hm := guardSpec
  have e1 : (k == 1) = false := by simp; omega
  have e2 : (k == 2) = false := by simp; omega
  have e3 : (k == 3) = false := by simp; omega
  have e4 : (k == 4) = false := by simp; omega
  go_enter Tryd.func8, Tryd.ntmps8
  go_wp2_with (go_at_call 17; refine (within_any _ _ _ _).mono ?_; rintro e w' ⟨rfl, rfl⟩)
  go_ret
  exact ⟨ret_bool (by rw [specOK_no (by unfold specP; omega)]), rfl⟩

theorem ValidSpec_any (k sz st g sh : Int) (w : World) :
    Calls Tryd.prog 8 #[specV k sz st g sh] w fun e w' => e = .returned (.bool (specOK k sz st g sh)) ∧ w' = w.alloc (.cells #[.int .i64 k, .int .i64 sz, .int .i64 st, .int .i64 g, .int .i64 sh] 23) := by
  unfold specV
  by_cases h1 : k = 1
  · subst h1; exact ValidSpec_1 sz st g sh w
  by_cases h2 : k = 2
  · subst h2; exact ValidSpec_2 sz st g sh w
  by_cases h3 : k = 3
  · subst h3; exact ValidSpec_3 sz st g sh w
  by_cases h4 : k = 4
  · subst h4; exact ValidSpec_4 sz st g sh w
  exact ValidSpec_0 k sz st g sh ⟨h1, h2, h3, h4⟩ w
end Go.Proofs.YtakekegghpgeaaaDoor
