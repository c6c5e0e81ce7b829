/-
  One call of no meet at all, of package mark and of the document's own.
-/
import Derived.Test.YtmnbcofonhlplaaDo
namespace Go.Proofs.Ytmnbcofonhlplaa
open Go.RowKit Go.Lib
set_option linter.unusedSimpArgs false
set_option linter.unusedVariables false

set_option maxRecDepth 100000 in
set_option maxHeartbeats 4000000 in
theorem do_nil (kd j m : Int) (w : World) :
    Calls Try.prog 11 #[.pointer none, .pointer none, .agg #[.int .i64 kd, .int .i64 j, .int .i64 m]] w fun e w' => e = .returned (.bool true) ∧ Below w.heap.size w w' := by
  have HB := Lib.hid (below_new w (.cells #[.int .i64 kd, .int .i64 j, .int .i64 m] 34))
  by_cases h0 : kd = 0
  · subst h0
    have n1 := fun W => mkSet_nil j m W
    have n2 := fun W => rkSet_nil j m W
    go_enter Try.func11, Try.ntmps11
    go_wp2_with fail
    go_quiet (first | (go_at_call 19; exact quiet_eq (n1 _)) | (go_at_call 31; exact quiet_eq (n2 _)))
    go_wp2_with fail
    go_ret
    exact ⟨rfl, below_drewN HB.out _⟩
  have e0 : (kd == 0) = false := by simpa using h0
  by_cases h1 : kd = 1
  · subst h1
    have n1 := fun W => mkIdle_nil j W
    have n2 := fun W => rkIdle_nil j W
    go_enter Try.func11, Try.ntmps11
    go_wp2_with fail
    go_quiet (first | (go_at_call 32; exact quiet_eq (n1 _)) | (go_at_call 33; exact quiet_eq (n2 _)))
    go_wp2_with fail
    go_ret
    exact ⟨rfl, below_drewN HB.out _⟩
  have e1 : (kd == 1) = false := by simpa using h1
  by_cases h2 : kd = 2
  · subst h2
    have n1 := fun W => mkBusy_nil j W
    have n2 := fun W => rkBusy_nil j W
    go_enter Try.func11, Try.ntmps11
    go_wp2_with fail
    go_quiet (first | (go_at_call 34; exact quiet_eq (n1 _)) | (go_at_call 35; exact quiet_eq (n2 _)))
    go_wp2_with fail
    go_ret
    exact ⟨rfl, below_drewN HB.out _⟩
  have e2 : (kd == 2) = false := by simpa using h2
  by_cases h3 : kd = 3
  · subst h3
    have n1 := fun W => mkClose_nil j W
    have n2 := fun W => rkClose_nil j W
    go_enter Try.func11, Try.ntmps11
    go_wp2_with fail
    go_quiet (first | (go_at_call 18; exact quiet_eq (n1 _)) | (go_at_call 36; exact quiet_eq (n2 _)))
    go_wp2_with fail
    go_ret
    exact ⟨rfl, below_drewN HB.out _⟩
  have e3 : (kd == 3) = false := by simpa using h3
  clear h0 h1 h2 h3
  go_enter Try.func11, Try.ntmps11
  go_wp2_with fail
  refine (mkHeld_nil m _).mono ?_
  rintro e w1 ⟨rfl, rfl⟩
  go_wp2_with fail
  refine (rkHeld_nil m _).mono ?_
  rintro e w1 ⟨rfl, rfl⟩
  have HS := Lib.hid (sameInts_any none none [] 0 0 (by simp) (w.alloc (.cells #[.int .i64 kd, .int .i64 j, .int .i64 m] 34)) (fun h => absurd h (by simp)) (fun h => absurd h (by simp)))
  go_wp2_with fail
  refine HS.out.mono ?_
  rintro e w2 ⟨rfl, hb2⟩
  have HB2 := Lib.hid (HB.out.trans (hb2.mono HB.out.size))
  clear hb2
  go_wp2_with fail
  go_ret
  exact ⟨rfl, HB2.out⟩
end Go.Proofs.Ytmnbcofonhlplaa
