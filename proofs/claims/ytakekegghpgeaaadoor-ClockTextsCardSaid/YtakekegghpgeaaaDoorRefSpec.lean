/-
  The document's own ValidSpec, as a contract: at every five numbers.
-/
import Derived.Test.YtakekegghpgeaaaDoorSpec
import Derived.Test.YtakekegghpgeaaaDoorFloor
import Derived.RegionTactic
import Derived.BigRegion
import Derived.Laws.NewBlocks
namespace Go.Proofs.YtakekegghpgeaaaDoor
open Go.RowKit

theorem below_drewN' {B : Nat} {a w : World} (h : Below B a w) (n : Nat) : Below B a (w.drewN n) := ⟨h.os, h.tape, h.output, h.size, h.block⟩

set_option maxRecDepth 100000 in
set_option maxHeartbeats 2000000 in
theorem refValidSpec_1 (sz st g sh : Int) (w : World) :
    Calls Tryd.prog 14 #[.agg #[.int .i64 1, .int .i64 sz, .int .i64 st, .int .i64 g, .int .i64 sh]] w fun e w' => e = .returned (.bool (specOK 1 sz st g sh)) ∧ Below w.heap.size w w' := by
  have hm := guardSpec
  have he := fun W => eqSpec 1 sz st g sh 1 sz 0 0 sh W
  by_cases h0 : st = 0 ∧ g = 0
  · obtain ⟨rfl, rfl⟩ := h0
    by_cases h1 : 1 ≤ sz ∧ sz ≤ 1000000000
    · have i1 := inR_yes h1
      obtain ⟨h1a, h1b⟩ := h1
      go_enter Tryd.func14, Tryd.ntmps14
      go_wp2_with fail
      go_region
      go_wp2_with (go_at_call 25; refine (refWithin_any _ _ _ _).mono ?_; rintro e w' ⟨rfl, rfl⟩)
      go_ret
      exact ⟨ret_bool (by rw [Bool.eq_iff_iff, inR_iff]; simp only [specOK, decide_eq_true_eq]; unfold specP; omega), by repeat (first | exact Below.refl _ _ | refine Below.setCell ?_ (by simp) _ | refine Below.alloc ?_ (by simp; try omega) _ | refine below_drewN' ?_ _ | refine Below.drew ?_)⟩
    · have i1 := inR_no h1
      have H0 := Lib.hid h1
      clear h1
      go_enter Tryd.func14, Tryd.ntmps14
      go_wp2_with fail
      go_region
      go_wp2_with (go_at_call 25; refine (refWithin_any _ _ _ _).mono ?_; rintro e w' ⟨rfl, rfl⟩)
      go_ret
      exact ⟨ret_bool (by have h := H0.out; rw [specOK_no (by unfold specP; omega)]), by repeat (first | exact Below.refl _ _ | refine Below.setCell ?_ (by simp) _ | refine Below.alloc ?_ (by simp; try omega) _ | refine below_drewN' ?_ _ | refine Below.drew ?_)⟩
  · have h0' : (st == 0 && g == 0) = false := by simp; omega
    have H0 := Lib.hid h0
    clear h0
    go_enter Tryd.func14, Tryd.ntmps14
    go_wp2_with fail
    go_region
    go_wp2_with (go_at_call 25; refine (refWithin_any _ _ _ _).mono ?_; rintro e w' ⟨rfl, rfl⟩)
    go_ret
    exact ⟨ret_bool (by have h := H0.out; rw [specOK_no (by unfold specP; omega)]), by repeat (first | exact Below.refl _ _ | refine Below.setCell ?_ (by simp) _ | refine Below.alloc ?_ (by simp; try omega) _ | refine below_drewN' ?_ _ | refine Below.drew ?_)⟩

set_option maxRecDepth 100000 in
set_option maxHeartbeats 2000000 in
theorem refValidSpec_2 (sz st g sh : Int) (w : World) :
    Calls Tryd.prog 14 #[.agg #[.int .i64 2, .int .i64 sz, .int .i64 st, .int .i64 g, .int .i64 sh]] w fun e w' => e = .returned (.bool (specOK 2 sz st g sh)) ∧ Below w.heap.size w w' := by
  have hm := guardSpec
  have he := fun W => eqSpec 2 sz st g sh 2 sz st 0 sh W
  by_cases h0 : g = 0
  · subst h0
    by_cases h1 : 1 ≤ sz ∧ sz ≤ 1000000000
    · have i1 := inR_yes h1
      by_cases h2 : 1 ≤ st ∧ st ≤ sz
      · have i2 := inR_yes h2
        obtain ⟨h1a, h1b⟩ := h1
        obtain ⟨h2a, h2b⟩ := h2
        by_cases h3 : sz ≤ 50 * st
        · go_enter Tryd.func14, Tryd.ntmps14
          go_wp2_with fail
          go_region
          go_wp2_with (go_at_call 25; refine (refWithin_any _ _ _ _).mono ?_; rintro e w' ⟨rfl, rfl⟩)
          go_ret
          exact ⟨ret_bool (by rw [Bool.eq_iff_iff, inR_iff]; simp only [specOK, decide_eq_true_eq]; unfold specP; omega), by repeat (first | exact Below.refl _ _ | refine Below.setCell ?_ (by simp) _ | refine Below.alloc ?_ (by simp; try omega) _ | refine below_drewN' ?_ _ | refine Below.drew ?_)⟩
        · have h3' : 50 * st < sz := by omega
          have H0 := Lib.hid h3'
          clear h3
          go_enter Tryd.func14, Tryd.ntmps14
          go_wp2_with fail
          go_region
          go_wp2_with (go_at_call 25; refine (refWithin_any _ _ _ _).mono ?_; rintro e w' ⟨rfl, rfl⟩)
          go_ret
          exact ⟨ret_bool (by have h := H0.out; rw [specOK_no (by unfold specP; omega)]), by repeat (first | exact Below.refl _ _ | refine Below.setCell ?_ (by simp) _ | refine Below.alloc ?_ (by simp; try omega) _ | refine below_drewN' ?_ _ | refine Below.drew ?_)⟩
      · have i2 := inR_no h2
        obtain ⟨h1a, h1b⟩ := h1
        have H0 := Lib.hid h2
        clear h2
        go_enter Tryd.func14, Tryd.ntmps14
        go_wp2_with fail
        go_region
        go_wp2_with (go_at_call 25; refine (refWithin_any _ _ _ _).mono ?_; rintro e w' ⟨rfl, rfl⟩)
        go_ret
        exact ⟨ret_bool (by have h := H0.out; rw [specOK_no (by unfold specP; omega)]), by repeat (first | exact Below.refl _ _ | refine Below.setCell ?_ (by simp) _ | refine Below.alloc ?_ (by simp; try omega) _ | refine below_drewN' ?_ _ | refine Below.drew ?_)⟩
    · have i1 := inR_no h1
      have H0 := Lib.hid h1
      clear h1
      go_enter Tryd.func14, Tryd.ntmps14
      go_wp2_with fail
      go_region
      go_wp2_with (go_at_call 25; refine (refWithin_any _ _ _ _).mono ?_; rintro e w' ⟨rfl, rfl⟩)
      go_ret
      exact ⟨ret_bool (by have h := H0.out; rw [specOK_no (by unfold specP; omega)]), by repeat (first | exact Below.refl _ _ | refine Below.setCell ?_ (by simp) _ | refine Below.alloc ?_ (by simp; try omega) _ | refine below_drewN' ?_ _ | refine Below.drew ?_)⟩
  · have h0' : (g == 0) = false := by simpa using h0
    have H0 := Lib.hid h0
    clear h0
    go_enter Tryd.func14, Tryd.ntmps14
    go_wp2_with fail
    go_region
    go_wp2_with (go_at_call 25; refine (refWithin_any _ _ _ _).mono ?_; rintro e w' ⟨rfl, rfl⟩)
    go_ret
    exact ⟨ret_bool (by have h := H0.out; rw [specOK_no (by unfold specP; omega)]), by repeat (first | exact Below.refl _ _ | refine Below.setCell ?_ (by simp) _ | refine Below.alloc ?_ (by simp; try omega) _ | refine below_drewN' ?_ _ | refine Below.drew ?_)⟩

set_option maxRecDepth 100000 in
set_option maxHeartbeats 2000000 in
theorem refValidSpec_3 (sz st g sh : Int) (w : World) :
    Calls Tryd.prog 14 #[.agg #[.int .i64 3, .int .i64 sz, .int .i64 st, .int .i64 g, .int .i64 sh]] w fun e w' => e = .returned (.bool (specOK 3 sz st g sh)) ∧ Below w.heap.size w w' := by
  have hm := guardSpec
  have he := fun W => eqSpec 3 sz st g sh 3 0 0 g 0 W
  by_cases h0 : sz = 0 ∧ st = 0 ∧ sh = 0
  · obtain ⟨rfl, rfl, rfl⟩ := h0
    go_enter Tryd.func14, Tryd.ntmps14
    go_wp2_with (go_at_call 25; refine (refWithin_any _ _ _ _).mono ?_; rintro e w' ⟨rfl, rfl⟩)
    go_ret
    exact ⟨ret_bool (by rw [Bool.eq_iff_iff, inR_iff]; simp only [specOK, decide_eq_true_eq]; unfold specP; omega), by repeat (first | exact Below.refl _ _ | refine Below.setCell ?_ (by simp) _ | refine Below.alloc ?_ (by simp; try omega) _ | refine below_drewN' ?_ _ | refine Below.drew ?_)⟩
  · have h0' : (sz == 0 && st == 0 && sh == 0) = false := by simp; omega
    have H0 := Lib.hid h0
    clear h0
    go_enter Tryd.func14, Tryd.ntmps14
    go_wp2_with (go_at_call 25; refine (refWithin_any _ _ _ _).mono ?_; rintro e w' ⟨rfl, rfl⟩)
    go_ret
    exact ⟨ret_bool (by have h := H0.out; rw [specOK_no (by unfold specP; omega)]), by repeat (first | exact Below.refl _ _ | refine Below.setCell ?_ (by simp) _ | refine Below.alloc ?_ (by simp; try omega) _ | refine below_drewN' ?_ _ | refine Below.drew ?_)⟩

set_option maxRecDepth 100000 in
set_option maxHeartbeats 2000000 in
theorem refValidSpec_4 (sz st g sh : Int) (w : World) :
    Calls Tryd.prog 14 #[.agg #[.int .i64 4, .int .i64 sz, .int .i64 st, .int .i64 g, .int .i64 sh]] w fun e w' => e = .returned (.bool (specOK 4 sz st g sh)) ∧ Below w.heap.size w w' := by
  have hm := guardSpec
  have he := fun W => eqSpec 4 sz st g sh 4 0 0 0 0 W
  by_cases h0 : sz = 0 ∧ st = 0 ∧ g = 0 ∧ sh = 0
  · obtain ⟨rfl, rfl, rfl, rfl⟩ := h0
    go_enter Tryd.func14, Tryd.ntmps14
    go_wp2_with (go_at_call 25; refine (refWithin_any _ _ _ _).mono ?_; rintro e w' ⟨rfl, rfl⟩)
    go_ret
    exact ⟨ret_bool (by rw [specOK_yes (by unfold specP; omega)]), by repeat (first | exact Below.refl _ _ | refine Below.setCell ?_ (by simp) _ | refine Below.alloc ?_ (by simp; try omega) _ | refine below_drewN' ?_ _ | refine Below.drew ?_)⟩
  · have h0' : (sz == 0 && st == 0 && g == 0 && sh == 0) = false := by simp; omega
    have H0 := Lib.hid h0
    clear h0
    go_enter Tryd.func14, Tryd.ntmps14
    go_wp2_with (go_at_call 25; refine (refWithin_any _ _ _ _).mono ?_; rintro e w' ⟨rfl, rfl⟩)
    go_ret
    exact ⟨ret_bool (by have h := H0.out; rw [specOK_no (by unfold specP; omega)]), by repeat (first | exact Below.refl _ _ | refine Below.setCell ?_ (by simp) _ | refine Below.alloc ?_ (by simp; try omega) _ | refine below_drewN' ?_ _ | refine Below.drew ?_)⟩

set_option maxRecDepth 100000 in
set_option maxHeartbeats 2000000 in
theorem refValidSpec_0 (k sz st g sh : Int) (hk : k ≠ 1 ∧ k ≠ 2 ∧ k ≠ 3 ∧ k ≠ 4) (w : World) :
    Calls Tryd.prog 14 #[.agg #[.int .i64 k, .int .i64 sz, .int .i64 st, .int .i64 g, .int .i64 sh]] w fun e w' => e = .returned (.bool (specOK k sz st g sh)) ∧ Below w.heap.size w w' := by
  have e1 : (k == 1) = false := by simp; omega
  have e2 : (k == 2) = false := by simp; omega
  have e3 : (k == 3) = false := by simp; omega
  have e4 : (k == 4) = false := by simp; omega
  have H0 := Lib.hid hk
  clear hk
  go_enter Tryd.func14, Tryd.ntmps14
  go_wp2_with (go_at_call 25; refine (refWithin_any _ _ _ _).mono ?_; rintro e w' ⟨rfl, rfl⟩)
  go_ret
  exact ⟨ret_bool (by have h := H0.out; rw [specOK_no (by unfold specP; omega)]), by repeat (first | exact Below.refl _ _ | refine Below.setCell ?_ (by simp) _ | refine Below.alloc ?_ (by simp; try omega) _ | refine below_drewN' ?_ _ | refine Below.drew ?_)⟩

theorem refValidSpec_any (k sz st g sh : Int) (w : World) :
    Calls Tryd.prog 14 #[specV k sz st g sh] w fun e w' => e = .returned (.bool (specOK k sz st g sh)) ∧ Below w.heap.size w w' := by
  unfold specV
  by_cases h1 : k = 1
  · subst h1; exact refValidSpec_1 sz st g sh w
  by_cases h2 : k = 2
  · subst h2; exact refValidSpec_2 sz st g sh w
  by_cases h3 : k = 3
  · subst h3; exact refValidSpec_3 sz st g sh w
  by_cases h4 : k = 4
  · subst h4; exact refValidSpec_4 sz st g sh w
  exact refValidSpec_0 k sz st g sh ⟨h1, h2, h3, h4⟩ w
end Go.Proofs.YtakekegghpgeaaaDoor
