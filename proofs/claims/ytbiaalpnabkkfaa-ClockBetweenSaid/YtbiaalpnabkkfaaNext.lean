/-
  Next, of package clock and of the document's own answers, as contracts.
-/
import Derived.Test.YtbiaalpnabkkfaaRefAt
namespace Go.Proofs.Ytbiaalpnabkkfaa
open Go.RowKit

def nextErr (k sz st g sh t : Int) : Int := if specOK k sz st g sh = false then 1 else if inR t (-1000000000000) 1000000000000 = false then 7 else if k = 1 ∨ k = 2 then 0 else 11
def nextVal (k sz st g sh t : Int) : Int := if nextErr k sz st g sh t = 0 then after (stepOf k sz st) sh (t - sz) + sz else 0

theorem after_first (d sh n : Int) : after d sh n = firstAt d sh n + d := by
  unfold after firstAt
  rw [Int.add_mul]
  omega

theorem stepped_any (k sz st g sh : Int) (w : World) :
    Calls Try.prog 55 #[.agg #[.int .i64 k, .int .i64 sz, .int .i64 st, .int .i64 g, .int .i64 sh]] w fun e w' => e = .returned (.bool (decide (k = 1 ∨ k = 2))) ∧ w' = w.alloc (.cells #[.int .i64 k, .int .i64 sz, .int .i64 st, .int .i64 g, .int .i64 sh] 23) := by
  by_cases h1 : k = 1
  · subst h1
    go_enter Try.func55, Try.ntmps55
    go_wp2
    go_ret
    exact ⟨rfl, rfl⟩
  · have h1' : (k == 1) = false := by simpa using h1
    go_enter Try.func55, Try.ntmps55
    go_wp2
    go_ret
    exact ⟨retB (by rw [Bool.eq_iff_iff]; simp [h1]), rfl⟩

/-- What a function that hands back a number and an error leaves. -/
def NumPost (w : World) (n r : Int) (e : Ending) (w' : World) : Prop := e = .returned (.tuple #[.int .i64 n, .int .i64 r]) ∧ Below w.heap.size w w'

set_option maxRecDepth 100000 in
set_option maxHeartbeats 2000000 in
theorem clkNext_any (k sz st g sh t : Int) (w : World) :
    Calls Try.prog 37 #[.agg #[.int .i64 k, .int .i64 sz, .int .i64 st, .int .i64 g, .int .i64 sh], .int .i64 t] w (NumPost w (nextVal k sz st g sh t) (nextErr k sz st g sh t)) := by
  have hv := fun W : World => (show Calls Try.prog 14 #[.agg #[.int .i64 k, .int .i64 sz, .int .i64 st, .int .i64 g, .int .i64 sh]] W fun e w' => e = .returned (.bool (specOK k sz st g sh)) ∧ Below W.heap.size W w' from (ValidSpec_any k sz st g sh W).mono fun _ _ ⟨h1, h2⟩ => ⟨h1, by rw [h2]; exact (Below.refl _ _).alloc (Nat.le_refl _) _⟩)
  have Hv := Lib.hid hv
  clear hv
  by_cases h : specOK k sz st g sh = true
  · have hp := (specOK_iff _ _ _ _ _).1 h
    by_cases h2 : inR t (-1000000000000) 1000000000000 = true
    · have ht := (inR_iff _ _ _).1 h2
      obtain ⟨ht1, ht2⟩ := ht
      have hk := Lib.hid fun W => step_any k sz st g sh W
      by_cases h12 : k = 1 ∨ k = 2
      · have hE0 : nextErr k sz st g sh t = 0 := by simp [nextErr, h, h2, h12]
        obtain ⟨hd, hd', hs, hs', hz, hz', hdz⟩ := spec_steps hp h12
        have hab := after_bounds (stepOf k sz st) sh (t - sz) hd
        have hfb := firstAt_bounds (stepOf k sz st) sh (t - sz) hd
        rw [hE0, show nextVal k sz st g sh t = after (stepOf k sz st) sh (t - sz) + sz by rw [nextVal, if_pos hE0]; try (rw [after_first]; omega)]
        have e0 : (stepOf k sz st == 0) = false := by simp; omega
        have q1 : IntKind.i64.wrap (t - sz) = t - sz := IntWalk.i64_in _ (by omega)
        have q2 : IntKind.i64.wrap (after (stepOf k sz st) sh (t - sz) + sz) = after (stepOf k sz st) sh (t - sz) + sz := IntWalk.i64_in _ (by omega)
        have hA := Lib.hid fun W => startAfter_any k sz st g sh (t - sz) hd hd' hs hs' (by omega) (by omega) W
        unfold specV at hA
        clear hE0 hp h12 hab hfb
        go_enter Try.func37, Try.ntmps37
        go_wp2_with fail
        refine (Hv.out _).mono ?_
        rintro e W1 ⟨rfl, hb1⟩
        have hb1' : Below (w.heap.size + 1) (w.alloc (.cells #[.int .i64 k, .int .i64 sz, .int .i64 st, .int .i64 g, .int .i64 sh] 23)) W1 := hb1.mono (by simp)
        have hs0 : SpecAt W1 w.heap.size k sz st g sh := SpecAt.below (n₀ := w.heap.size + 1) ⟨by go_simp, by go_simp, by go_simp, by go_simp, by go_simp⟩ hb1' (by omega)
        have hz1 : w.heap.size < W1.heap.size := by have := hb1'.size; simp at this; omega
        have hB0 : Below w.heap.size w W1 := ((Below.refl _ _).alloc (Nat.le_refl _) _).trans (hb1'.mono (by omega))
        have hS : ∀ w' : World, Below W1.heap.size W1 w' → (Below W1.heap.size W1 w' ∧ w'.cell? ⟨w.heap.size, 0, none⟩ = some (.int .i64 k) ∧ w'.cell? ⟨w.heap.size, 1, none⟩ = some (.int .i64 sz) ∧ w'.cell? ⟨w.heap.size, 2, none⟩ = some (.int .i64 st) ∧ w'.cell? ⟨w.heap.size, 3, none⟩ = some (.int .i64 g) ∧ w'.cell? ⟨w.heap.size, 4, none⟩ = some (.int .i64 sh)) := fun w' hb => ⟨hb, hs0.below hb hz1⟩
        have keepS : ∀ (u v : World), Below W1.heap.size W1 u → Below u.heap.size u v → Below W1.heap.size W1 v := fun u v h1 h2 => h1.trans (h2.mono h1.size)
        have HS1 := Lib.hid hS
        have HK := Lib.hid keepS
        obtain ⟨c0, c1, c2, c3, c4⟩ := hs0
        clear hb1 hb1' hS keepS
        go_wp2_with (first
          | (go_at_call 10; refine (clkValid_any _ _).mono ?_; rintro e w' ⟨rfl, rfl⟩)
          | (go_at_call 54; refine (hk.out _).mono ?_; rintro e w' ⟨rfl, rfl⟩))
        have hW1a : Below W1.heap.size W1 (W1.alloc (.cells #[.int .i64 k, .int .i64 sz, .int .i64 st, .int .i64 g, .int .i64 sh] 23)) := (Below.refl _ _).alloc (Nat.le_refl _) _
        go_region_held3 (fun w' => Below W1.heap.size W1 w' ∧ w'.cell? ⟨w.heap.size, 0, none⟩ = some (.int .i64 k) ∧ w'.cell? ⟨w.heap.size, 1, none⟩ = some (.int .i64 sz) ∧ w'.cell? ⟨w.heap.size, 2, none⟩ = some (.int .i64 st) ∧ w'.cell? ⟨w.heap.size, 3, none⟩ = some (.int .i64 g) ∧ w'.cell? ⟨w.heap.size, 4, none⟩ = some (.int .i64 sh)) (first | exact HS1.out _ (HK.out _ _ (by assumption) (by assumption)) | exact HS1.out _ (HK.out _ _ (And.left (by assumption)) (by assumption)) | exact HS1.out _ (Below.drew (by assumption)) | exact HS1.out _ (Below.drew (And.left (by assumption))) | assumption)
          (first
      | (go_at_call 58; refine (hA.out _).mono ?_; rintro e w' ⟨rfl, hb⟩))
        all_goals go_wp2_with fail
        go_ret2
        exact ⟨rfl, hB0.trans (Below.mono (And.left (by assumption)) hB0.size)⟩
      · have hE0 : nextErr k sz st g sh t = 11 := by simp [nextErr, h, h2, h12]
        rw [hE0, show nextVal k sz st g sh t = 0 by rw [nextVal, hE0]; rfl]
        have e0 : (stepOf k sz st == 0) = true := by unfold stepOf; rw [if_neg (fun h => h12 (.inl h)), if_neg (fun h => h12 (.inr h))]; rfl
        clear hE0 hp h12
        go_enter Try.func37, Try.ntmps37
        go_wp2_with fail
        refine (Hv.out _).mono ?_
        rintro e W1 ⟨rfl, hb1⟩
        have hb1' : Below (w.heap.size + 1) (w.alloc (.cells #[.int .i64 k, .int .i64 sz, .int .i64 st, .int .i64 g, .int .i64 sh] 23)) W1 := hb1.mono (by simp)
        have hs0 : SpecAt W1 w.heap.size k sz st g sh := SpecAt.below (n₀ := w.heap.size + 1) ⟨by go_simp, by go_simp, by go_simp, by go_simp, by go_simp⟩ hb1' (by omega)
        have hB0 : Below w.heap.size w W1 := ((Below.refl _ _).alloc (Nat.le_refl _) _).trans (hb1'.mono (by omega))
        obtain ⟨c0, c1, c2, c3, c4⟩ := hs0
        clear hb1 hb1'
        go_wp2_with (first
          | (go_at_call 10; refine (clkValid_any _ _).mono ?_; rintro e w' ⟨rfl, rfl⟩)
          | (go_at_call 54; refine (hk.out _).mono ?_; rintro e w' ⟨rfl, rfl⟩))
        go_ret2
        exact ⟨rfl, hB0.alloc hB0.size _⟩
    · have h2' : inR t (-1000000000000) 1000000000000 = false := by simpa using h2
      have hE0 : nextErr k sz st g sh t = 7 := by simp [nextErr, h, h2']
      rw [hE0, show nextVal k sz st g sh t = 0 by rw [nextVal, hE0]; rfl]
      clear hE0 h2 hp
      go_enter Try.func37, Try.ntmps37
      go_wp2_with (first
        | (go_at_call 14; refine (Hv.out _).mono ?_; rintro e w1 ⟨rfl, hb1⟩)
        | (go_at_call 10; refine (clkValid_any _ _).mono ?_; rintro e w' ⟨rfl, rfl⟩))
      go_ret2
      exact ⟨rfl, ((Below.refl _ _).alloc (Nat.le_refl _) _).trans (hb1.mono (by simp))⟩
  · have h' : specOK k sz st g sh = false := by simpa using h
    have hE0 : nextErr k sz st g sh t = 1 := by simp [nextErr, h']
    rw [hE0, show nextVal k sz st g sh t = 0 by rw [nextVal, hE0]; rfl]
    clear hE0 h
    go_enter Try.func37, Try.ntmps37
    go_wp2_with (go_at_call 14; refine (Hv.out _).mono ?_; rintro e w1 ⟨rfl, hb1⟩)
    go_ret2
    exact ⟨rfl, ((Below.refl _ _).alloc (Nat.le_refl _) _).trans (hb1.mono (by simp))⟩

set_option maxRecDepth 100000 in
set_option maxHeartbeats 2000000 in
theorem refNext_any (k sz st g sh t : Int) (w : World) :
    Calls Try.prog 38 #[.agg #[.int .i64 k, .int .i64 sz, .int .i64 st, .int .i64 g, .int .i64 sh], .int .i64 t] w (NumPost w (nextVal k sz st g sh t) (nextErr k sz st g sh t)) := by
  have hv := fun W : World => (show Calls Try.prog 15 #[.agg #[.int .i64 k, .int .i64 sz, .int .i64 st, .int .i64 g, .int .i64 sh]] W fun e w' => e = .returned (.bool (specOK k sz st g sh)) ∧ Below W.heap.size W w' from refValidSpec_any k sz st g sh W)
  have Hv := Lib.hid hv
  clear hv
  by_cases h : specOK k sz st g sh = true
  · have hp := (specOK_iff _ _ _ _ _).1 h
    by_cases h2 : inR t (-1000000000000) 1000000000000 = true
    · have ht := (inR_iff _ _ _).1 h2
      obtain ⟨ht1, ht2⟩ := ht
      have hk := Lib.hid fun W => stepped_any k sz st g sh W
      by_cases h12 : k = 1 ∨ k = 2
      · have hE0 : nextErr k sz st g sh t = 0 := by simp [nextErr, h, h2, h12]
        obtain ⟨hd, hd', hs, hs', hz, hz', hdz⟩ := spec_steps hp h12
        have hab := after_bounds (stepOf k sz st) sh (t - sz) hd
        have hfb := firstAt_bounds (stepOf k sz st) sh (t - sz) hd
        rw [hE0, show nextVal k sz st g sh t = firstAt (stepOf k sz st) sh (t - sz) + sz + stepOf k sz st by rw [nextVal, if_pos hE0]; try (rw [after_first]; omega)]
        have e0 : decide (k = 1 ∨ k = 2) = true := decide_eq_true h12
        have q1 : IntKind.i64.wrap (t - sz) = t - sz := IntWalk.i64_in _ (by omega)
        have q2 : IntKind.i64.wrap (firstAt (stepOf k sz st) sh (t - sz) + sz) = firstAt (stepOf k sz st) sh (t - sz) + sz := IntWalk.i64_in _ (by omega)
        have q3 : IntKind.i64.wrap (firstAt (stepOf k sz st) sh (t - sz) + sz + stepOf k sz st) = firstAt (stepOf k sz st) sh (t - sz) + sz + stepOf k sz st := IntWalk.i64_in _ (by omega)
        have hA := Lib.hid fun W => first_any k sz st g sh (t - sz) h12 hd hd' hs hs' (by omega) (by omega) W
        have hE := Lib.hid fun W => (every_any k sz st g sh h12 W).mono (R' := fun e w' => e = .returned (.int .i64 (stepOf k sz st)) ∧ Below W.heap.size W w') fun _ _ ⟨h1, h2⟩ => ⟨h1, by rw [h2]; exact (Below.refl _ _).alloc (Nat.le_refl _) _⟩
        clear hE0 hp h12 hab hfb
        go_enter Try.func38, Try.ntmps38
        go_wp2_with fail
        refine (Hv.out _).mono ?_
        rintro e W1 ⟨rfl, hb1⟩
        have hb1' : Below (w.heap.size + 1) (w.alloc (.cells #[.int .i64 k, .int .i64 sz, .int .i64 st, .int .i64 g, .int .i64 sh] 23)) W1 := hb1.mono (by simp)
        have hs0 : SpecAt W1 w.heap.size k sz st g sh := SpecAt.below (n₀ := w.heap.size + 1) ⟨by go_simp, by go_simp, by go_simp, by go_simp, by go_simp⟩ hb1' (by omega)
        have hz1 : w.heap.size < W1.heap.size := by have := hb1'.size; simp at this; omega
        have hB0 : Below w.heap.size w W1 := ((Below.refl _ _).alloc (Nat.le_refl _) _).trans (hb1'.mono (by omega))
        have hS : ∀ w' : World, Below W1.heap.size W1 w' → (Below W1.heap.size W1 w' ∧ w'.cell? ⟨w.heap.size, 0, none⟩ = some (.int .i64 k) ∧ w'.cell? ⟨w.heap.size, 1, none⟩ = some (.int .i64 sz) ∧ w'.cell? ⟨w.heap.size, 2, none⟩ = some (.int .i64 st) ∧ w'.cell? ⟨w.heap.size, 3, none⟩ = some (.int .i64 g) ∧ w'.cell? ⟨w.heap.size, 4, none⟩ = some (.int .i64 sh)) := fun w' hb => ⟨hb, hs0.below hb hz1⟩
        have keepS : ∀ (u v : World), Below W1.heap.size W1 u → Below u.heap.size u v → Below W1.heap.size W1 v := fun u v h1 h2 => h1.trans (h2.mono h1.size)
        have HS1 := Lib.hid hS
        have HK := Lib.hid keepS
        obtain ⟨c0, c1, c2, c3, c4⟩ := hs0
        clear hb1 hb1' hS keepS
        go_wp2_with (first
          | (go_at_call 11; refine (refValid_any _ _).mono ?_; rintro e w' ⟨rfl, rfl⟩)
          | (go_at_call 55; refine (hk.out _).mono ?_; rintro e w' ⟨rfl, rfl⟩))
        have hW1a : Below W1.heap.size W1 (W1.alloc (.cells #[.int .i64 k, .int .i64 sz, .int .i64 st, .int .i64 g, .int .i64 sh] 23)) := (Below.refl _ _).alloc (Nat.le_refl _) _
        go_region_held3 (fun w' => Below W1.heap.size W1 w' ∧ w'.cell? ⟨w.heap.size, 0, none⟩ = some (.int .i64 k) ∧ w'.cell? ⟨w.heap.size, 1, none⟩ = some (.int .i64 sz) ∧ w'.cell? ⟨w.heap.size, 2, none⟩ = some (.int .i64 st) ∧ w'.cell? ⟨w.heap.size, 3, none⟩ = some (.int .i64 g) ∧ w'.cell? ⟨w.heap.size, 4, none⟩ = some (.int .i64 sh)) (first | exact HS1.out _ (HK.out _ _ (by assumption) (by assumption)) | exact HS1.out _ (HK.out _ _ (And.left (by assumption)) (by assumption)) | exact HS1.out _ (Below.drew (by assumption)) | exact HS1.out _ (Below.drew (And.left (by assumption))) | assumption)
          (first
      | (go_at_call 56; refine (hA.out _).mono ?_; rintro e w' ⟨rfl, hb⟩)
      | (go_at_call 57; refine (hE.out _).mono ?_; rintro e w' ⟨rfl, hb⟩))
        all_goals go_wp2_with fail
        go_ret2
        exact ⟨rfl, hB0.trans (Below.mono (And.left (by assumption)) hB0.size)⟩
      · have hE0 : nextErr k sz st g sh t = 11 := by simp [nextErr, h, h2, h12]
        rw [hE0, show nextVal k sz st g sh t = 0 by rw [nextVal, hE0]; rfl]
        have e0 : decide (k = 1 ∨ k = 2) = false := decide_eq_false h12
        clear hE0 hp h12
        go_enter Try.func38, Try.ntmps38
        go_wp2_with fail
        refine (Hv.out _).mono ?_
        rintro e W1 ⟨rfl, hb1⟩
        have hb1' : Below (w.heap.size + 1) (w.alloc (.cells #[.int .i64 k, .int .i64 sz, .int .i64 st, .int .i64 g, .int .i64 sh] 23)) W1 := hb1.mono (by simp)
        have hs0 : SpecAt W1 w.heap.size k sz st g sh := SpecAt.below (n₀ := w.heap.size + 1) ⟨by go_simp, by go_simp, by go_simp, by go_simp, by go_simp⟩ hb1' (by omega)
        have hB0 : Below w.heap.size w W1 := ((Below.refl _ _).alloc (Nat.le_refl _) _).trans (hb1'.mono (by omega))
        obtain ⟨c0, c1, c2, c3, c4⟩ := hs0
        clear hb1 hb1'
        go_wp2_with (first
          | (go_at_call 11; refine (refValid_any _ _).mono ?_; rintro e w' ⟨rfl, rfl⟩)
          | (go_at_call 55; refine (hk.out _).mono ?_; rintro e w' ⟨rfl, rfl⟩))
        go_ret2
        exact ⟨rfl, hB0.alloc hB0.size _⟩
    · have h2' : inR t (-1000000000000) 1000000000000 = false := by simpa using h2
      have hE0 : nextErr k sz st g sh t = 7 := by simp [nextErr, h, h2']
      rw [hE0, show nextVal k sz st g sh t = 0 by rw [nextVal, hE0]; rfl]
      clear hE0 h2 hp
      go_enter Try.func38, Try.ntmps38
      go_wp2_with (first
        | (go_at_call 15; refine (Hv.out _).mono ?_; rintro e w1 ⟨rfl, hb1⟩)
        | (go_at_call 11; refine (refValid_any _ _).mono ?_; rintro e w' ⟨rfl, rfl⟩))
      go_ret2
      exact ⟨rfl, ((Below.refl _ _).alloc (Nat.le_refl _) _).trans (hb1.mono (by simp))⟩
  · have h' : specOK k sz st g sh = false := by simpa using h
    have hE0 : nextErr k sz st g sh t = 1 := by simp [nextErr, h']
    rw [hE0, show nextVal k sz st g sh t = 0 by rw [nextVal, hE0]; rfl]
    clear hE0 h
    go_enter Try.func38, Try.ntmps38
    go_wp2_with (go_at_call 15; refine (Hv.out _).mono ?_; rintro e w1 ⟨rfl, hb1⟩)
    go_ret2
    exact ⟨rfl, ((Below.refl _ _).alloc (Nat.le_refl _) _).trans (hb1.mono (by simp))⟩
end Go.Proofs.Ytbiaalpnabkkfaa
