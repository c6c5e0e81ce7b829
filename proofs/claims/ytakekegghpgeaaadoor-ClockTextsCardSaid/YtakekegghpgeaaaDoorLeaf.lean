/-
  The leaf functions of package clock, as contracts: within, floor, step, startAfter.
-/
import Derived.Test.YtakekegghpgeaaaDoorProg
import Derived.Test.YtakekegghpgeaaaDoorMath
import Derived.WalkKit
import Derived.ProofKit
import Derived.Lib.Hide
import Derived.KernelRfl
import Derived.Deep.QuietTactic
import Derived.BigQuiet
import Derived.Deep.RegionHeld3
import Derived.Laws.StructEq
import Derived.OneCell
namespace Go.Proofs.YtakekegghpgeaaaDoor
open Go.RowKit

def specV (k sz st g sh : Int) : Value := .agg #[.int .i64 k, .int .i64 sz, .int .i64 st, .int .i64 g, .int .i64 sh]

theorem within_any (n lo hi : Int) (w : World) :
    Calls Tryd.prog 17 #[.int .i64 n, .int .i64 lo, .int .i64 hi] w fun e w' => e = .returned (.bool (inR n lo hi)) ∧ w = w' := by
  by_cases h : lo ≤ n
  · go_enter Tryd.func17, Tryd.ntmps17
    go_wp2
    go_ret
    exact ⟨by simp [inR, h], rfl⟩
  · have h' : n < lo := by omega
    go_enter Tryd.func17, Tryd.ntmps17
    go_wp2
    go_ret
    exact ⟨by rw [inR_no (by omega)]; rfl, rfl⟩

theorem floor_any (a b : Int) (ha : -4000000000000000 ≤ a) (ha' : a ≤ 4000000000000000) (hb : 1 ≤ b) (hb' : b ≤ 1000000000) (w : World) :
    Calls Tryd.prog 38 #[.int .i64 a, .int .i64 b] w fun e w' => e = .returned (.int .i64 (a / b)) ∧ w = w' := by
  obtain ⟨t1, t2⟩ := tdiv_floor a b hb
  obtain ⟨e1, e2⟩ := ediv_bound a b 4000000000000000 hb (by omega) ha ha'
  by_cases hm : a.tmod b < 0
  · have t1' := t1 hm
    have b1 : -4000000000000000 ≤ a.tdiv b - 1 := by omega
    have b2 : a.tdiv b - 1 ≤ 4000000000000000 := by omega
    have H := Lib.hid t1'
    clear t1 t2 t1'
    go_enter Tryd.func38, Tryd.ntmps38
    go_wp2
    go_ret
    exact ⟨by rw [H.out]; rfl, rfl⟩
  · have t2' := t2 (by omega)
    have hm' : 0 ≤ a.tmod b := by omega
    have b1 : -4000000000000000 ≤ a.tdiv b := by omega
    have b2 : a.tdiv b ≤ 4000000000000000 := by omega
    have H := Lib.hid t2'
    clear t1 t2 t2' hm
    go_enter Tryd.func38, Tryd.ntmps38
    go_wp2
    go_ret
    exact ⟨by rw [H.out]; rfl, rfl⟩

theorem step_any (k sz st g sh : Int) (w : World) :
    Calls Tryd.prog 32 #[specV k sz st g sh] w fun e w' => e = .returned (.int .i64 (stepOf k sz st)) ∧ w' = w.alloc (.cells #[.int .i64 k, .int .i64 sz, .int .i64 st, .int .i64 g, .int .i64 sh] 23) := by
  unfold specV
  by_cases h1 : k = 1
  · subst h1
    go_enter Tryd.func32, Tryd.ntmps32
    go_wp2
    go_ret
    exact ⟨rfl, rfl⟩
  · have h1' : (k == 1) = false := by simpa using h1
    by_cases h2 : k = 2
    · subst h2
      go_enter Tryd.func32, Tryd.ntmps32
      go_wp2
      go_ret
      exact ⟨rfl, rfl⟩
    · have h2' : (k == 2) = false := by simpa using h2
      go_enter Tryd.func32, Tryd.ntmps32
      go_wp2
      go_ret
      exact ⟨by simp [stepOf, h1, h2], rfl⟩

/-- The block of a boxed spec, whole: its five cells. -/
def SpecAt (W : World) (B : Nat) (k sz st g sh : Int) : Prop :=
  W.cell? ⟨B, 0, none⟩ = some (.int .i64 k) ∧ W.cell? ⟨B, 1, none⟩ = some (.int .i64 sz) ∧ W.cell? ⟨B, 2, none⟩ = some (.int .i64 st) ∧ W.cell? ⟨B, 3, none⟩ = some (.int .i64 g) ∧ W.cell? ⟨B, 4, none⟩ = some (.int .i64 sh)

set_option maxHeartbeats 1000000 in
theorem startAfter_any (k sz st g sh t : Int) (hd : 1 ≤ stepOf k sz st) (hd' : stepOf k sz st ≤ 1000000000) (hs : 0 ≤ sh) (hs' : sh ≤ 1000000000) (ht : -2000000000000000 ≤ t) (ht' : t ≤ 2000000000000000) (w : World) :
    Calls Tryd.prog 31 #[specV k sz st g sh, .int .i64 t] w fun e w' => e = .returned (.int .i64 (after (stepOf k sz st) sh t)) ∧ Below w.heap.size w w' := by
  have hc : ∀ W : World, Calls Tryd.prog 32 #[.agg #[.int .i64 k, .int .i64 sz, .int .i64 st, .int .i64 g, .int .i64 sh]] W fun e w' => e = .returned (.int .i64 (stepOf k sz st)) ∧ w' = W.alloc (.cells #[.int .i64 k, .int .i64 sz, .int .i64 st, .int .i64 g, .int .i64 sh] 23) := fun W => step_any k sz st g sh W
  have hb := after_bounds (stepOf k sz st) sh t hd
  unfold after at hb
  obtain ⟨e1, e2⟩ := ediv_bound (t - sh) (stepOf k sz st) 4000000000000000 hd (by omega) (by omega) (by omega)
  have f1 : -4000000000000000 ≤ t - sh := by omega
  have f2 : t - sh ≤ 4000000000000000 := by omega
  have q1 : IntKind.i64.wrap (t - sh) = t - sh := IntWalk.i64_in _ (by omega)
  have q2 : IntKind.i64.wrap ((t - sh) / stepOf k sz st + 1) = (t - sh) / stepOf k sz st + 1 := IntWalk.i64_in _ (by omega)
  have q3 : IntKind.i64.wrap (((t - sh) / stepOf k sz st + 1) * stepOf k sz st) = ((t - sh) / stepOf k sz st + 1) * stepOf k sz st := IntWalk.i64_in _ (by omega)
  have q4 : IntKind.i64.wrap (((t - sh) / stepOf k sz st + 1) * stepOf k sz st + sh) = ((t - sh) / stepOf k sz st + 1) * stepOf k sz st + sh := IntWalk.i64_in _ (by omega)
  unfold specV
  go_enter Tryd.func31, Tryd.ntmps31
  go_wp2_with fail
  go_region_held3 (fun w' => w'.cell? ⟨w.heap.size, 4, none⟩ = some (.int .i64 sh) ∧ w'.cell? ⟨w.heap.size, 0, none⟩ = some (.int .i64 k) ∧ w'.cell? ⟨w.heap.size, 1, none⟩ = some (.int .i64 sz) ∧ w'.cell? ⟨w.heap.size, 2, none⟩ = some (.int .i64 st) ∧ w'.cell? ⟨w.heap.size, 3, none⟩ = some (.int .i64 g)) (go_keep)
    (first
      | (go_at_call 32; refine (hc _).mono ?_; rintro e w' ⟨rfl, rfl⟩)
      | (go_at_call 38; refine (floor_any _ _ f1 f2 hd hd' _).mono ?_; rintro e w' ⟨rfl, rfl⟩))
  all_goals go_wp2_with fail
  go_ret
  refine ⟨rfl, ?_⟩
  repeat (first | exact Below.refl _ _ | refine Below.alloc ?_ (by simp; try omega) _ | refine Below.drew ?_ | refine Below.drewN ?_ _)
end Go.Proofs.YtakekegghpgeaaaDoor
