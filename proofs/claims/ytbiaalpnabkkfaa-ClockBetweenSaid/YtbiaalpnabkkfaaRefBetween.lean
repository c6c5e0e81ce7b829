/-
  The document's own Between, as a contract.
-/
import Derived.Test.YtbiaalpnabkkfaaBetween
import Derived.Test.YtbiaalpnabkkfaaWinMath
namespace Go.Proofs.Ytbiaalpnabkkfaa
open Go.RowKit

/-- No more than fifty windows of a stepped spec have one time. -/
theorem nWin_fifty (A d sz t : Int) (hd : 1 ≤ d) (hA : t - sz < A) (h50 : sz ≤ 50 * d) : nWin A d t ≤ 50 := by
  have h := nWin_lt A d t hd 50
  by_cases hc : 50 < nWin A d t
  · have := h.2 hc
    simp at this
    omega
  · omega

set_option maxRecDepth 100000 in
set_option maxHeartbeats 2000000 in
theorem refBetween_1 (k sz st g sh fr to : Int) (h : specOK k sz st g sh = false) (w : World) :
    Calls Try.prog 36 #[.agg #[.int .i64 k, .int .i64 sz, .int .i64 st, .int .i64 g, .int .i64 sh], .int .i64 fr, .int .i64 to] w (RowPost2 w.heap.size w [] 1) := by
  have hv := fun W => refValidSpec_any k sz st g sh W
  unfold specV at hv
  have Hv := Lib.hid hv
  clear hv
  go_enter Try.func36, Try.ntmps36
  go_wp2_with fail
  refine (Hv.out _).mono ?_
  rintro e W1 ⟨rfl, hb1⟩
  have hb1' : Below (w.heap.size + 1) (w.alloc (.cells #[.int .i64 k, .int .i64 sz, .int .i64 st, .int .i64 g, .int .i64 sh] 23)) W1 := hb1.mono (by simp)
  have hs0 : SpecAt W1 w.heap.size k sz st g sh := SpecAt.below (n₀ := w.heap.size + 1) ⟨by go_simp, by go_simp, by go_simp, by go_simp, by go_simp⟩ hb1' (by omega)
  have hz1 : w.heap.size < W1.heap.size := by have := hb1'.size; simp at this; omega
  have hB0 : Below w.heap.size w W1 := ((Below.refl _ _).alloc (Nat.le_refl _) _).trans (hb1'.mono (by omega))
  have HS0 := Lib.hid hs0
  obtain ⟨c0, c1, c2, c3, c4⟩ := hs0
  clear hb1 hb1'
  go_wp2_with fail
  go_ret2
  exact ⟨_, rfl, World.ownsRow_nil _ _ _ _, hB0⟩

set_option maxRecDepth 100000 in
set_option maxHeartbeats 2000000 in
theorem refBetween_7a (k sz st g sh fr to : Int) (h : specOK k sz st g sh = true) (h2 : inR fr (-1000000000000) 1000000000000 = false) (w : World) :
    Calls Try.prog 36 #[.agg #[.int .i64 k, .int .i64 sz, .int .i64 st, .int .i64 g, .int .i64 sh], .int .i64 fr, .int .i64 to] w (RowPost2 w.heap.size w [] 7) := by
  have hv := fun W => refValidSpec_any k sz st g sh W
  unfold specV at hv
  have Hv := Lib.hid hv
  clear hv
  go_enter Try.func36, Try.ntmps36
  go_wp2_with fail
  refine (Hv.out _).mono ?_
  rintro e W1 ⟨rfl, hb1⟩
  have hb1' : Below (w.heap.size + 1) (w.alloc (.cells #[.int .i64 k, .int .i64 sz, .int .i64 st, .int .i64 g, .int .i64 sh] 23)) W1 := hb1.mono (by simp)
  have hs0 : SpecAt W1 w.heap.size k sz st g sh := SpecAt.below (n₀ := w.heap.size + 1) ⟨by go_simp, by go_simp, by go_simp, by go_simp, by go_simp⟩ hb1' (by omega)
  have hz1 : w.heap.size < W1.heap.size := by have := hb1'.size; simp at this; omega
  have hB0 : Below w.heap.size w W1 := ((Below.refl _ _).alloc (Nat.le_refl _) _).trans (hb1'.mono (by omega))
  have HS0 := Lib.hid hs0
  obtain ⟨c0, c1, c2, c3, c4⟩ := hs0
  clear hb1 hb1'
  go_wp2_with (go_at_call 11; refine (refValid_any _ _).mono ?_; rintro e w' ⟨rfl, rfl⟩)
  go_ret2
  exact ⟨_, rfl, World.ownsRow_nil _ _ _ _, hB0⟩

set_option maxRecDepth 100000 in
set_option maxHeartbeats 2000000 in
theorem refBetween_7b (k sz st g sh fr to : Int) (h : specOK k sz st g sh = true) (h2 : inR fr (-1000000000000) 1000000000000 = true) (h3 : inR to (-1000000000000) 1000000000000 = false) (w : World) :
    Calls Try.prog 36 #[.agg #[.int .i64 k, .int .i64 sz, .int .i64 st, .int .i64 g, .int .i64 sh], .int .i64 fr, .int .i64 to] w (RowPost2 w.heap.size w [] 7) := by
  have hv := fun W => refValidSpec_any k sz st g sh W
  unfold specV at hv
  have Hv := Lib.hid hv
  clear hv
  go_enter Try.func36, Try.ntmps36
  go_wp2_with fail
  refine (Hv.out _).mono ?_
  rintro e W1 ⟨rfl, hb1⟩
  have hb1' : Below (w.heap.size + 1) (w.alloc (.cells #[.int .i64 k, .int .i64 sz, .int .i64 st, .int .i64 g, .int .i64 sh] 23)) W1 := hb1.mono (by simp)
  have hs0 : SpecAt W1 w.heap.size k sz st g sh := SpecAt.below (n₀ := w.heap.size + 1) ⟨by go_simp, by go_simp, by go_simp, by go_simp, by go_simp⟩ hb1' (by omega)
  have hz1 : w.heap.size < W1.heap.size := by have := hb1'.size; simp at this; omega
  have hB0 : Below w.heap.size w W1 := ((Below.refl _ _).alloc (Nat.le_refl _) _).trans (hb1'.mono (by omega))
  have HS0 := Lib.hid hs0
  obtain ⟨c0, c1, c2, c3, c4⟩ := hs0
  clear hb1 hb1'
  go_wp2_with (go_at_call 11; refine (refValid_any _ _).mono ?_; rintro e w' ⟨rfl, rfl⟩)
  go_ret2
  exact ⟨_, rfl, World.ownsRow_nil _ _ _ _, hB0⟩

set_option maxRecDepth 100000 in
set_option maxHeartbeats 2000000 in
theorem refBetween_7c (k sz st g sh fr to : Int) (h : specOK k sz st g sh = true) (h2 : inR fr (-1000000000000) 1000000000000 = true) (h3 : inR to (-1000000000000) 1000000000000 = true) (h4 : to < fr) (w : World) :
    Calls Try.prog 36 #[.agg #[.int .i64 k, .int .i64 sz, .int .i64 st, .int .i64 g, .int .i64 sh], .int .i64 fr, .int .i64 to] w (RowPost2 w.heap.size w [] 7) := by
  have hv := fun W => refValidSpec_any k sz st g sh W
  unfold specV at hv
  have Hv := Lib.hid hv
  clear hv
  go_enter Try.func36, Try.ntmps36
  go_wp2_with fail
  refine (Hv.out _).mono ?_
  rintro e W1 ⟨rfl, hb1⟩
  have hb1' : Below (w.heap.size + 1) (w.alloc (.cells #[.int .i64 k, .int .i64 sz, .int .i64 st, .int .i64 g, .int .i64 sh] 23)) W1 := hb1.mono (by simp)
  have hs0 : SpecAt W1 w.heap.size k sz st g sh := SpecAt.below (n₀ := w.heap.size + 1) ⟨by go_simp, by go_simp, by go_simp, by go_simp, by go_simp⟩ hb1' (by omega)
  have hz1 : w.heap.size < W1.heap.size := by have := hb1'.size; simp at this; omega
  have hB0 : Below w.heap.size w W1 := ((Below.refl _ _).alloc (Nat.le_refl _) _).trans (hb1'.mono (by omega))
  have HS0 := Lib.hid hs0
  obtain ⟨c0, c1, c2, c3, c4⟩ := hs0
  clear hb1 hb1'
  go_wp2_with (go_at_call 11; refine (refValid_any _ _).mono ?_; rintro e w' ⟨rfl, rfl⟩)
  go_ret2
  exact ⟨_, rfl, World.ownsRow_nil _ _ _ _, hB0⟩

set_option maxRecDepth 100000 in
set_option maxHeartbeats 2000000 in
theorem refBetween_11 (k sz st g sh fr to : Int) (h : specOK k sz st g sh = true) (h2 : inR fr (-1000000000000) 1000000000000 = true) (h3 : inR to (-1000000000000) 1000000000000 = true) (h4 : fr ≤ to) (h12 : ¬ (k = 1 ∨ k = 2)) (w : World) :
    Calls Try.prog 36 #[.agg #[.int .i64 k, .int .i64 sz, .int .i64 st, .int .i64 g, .int .i64 sh], .int .i64 fr, .int .i64 to] w (RowPost2 w.heap.size w [] 11) := by
  have hv := fun W => refValidSpec_any k sz st g sh W
  unfold specV at hv
  have Hv := Lib.hid hv
  clear hv
  have hk := Lib.hid fun W => stepped_any k sz st g sh W
  have e0 : decide (k = 1 ∨ k = 2) = false := decide_eq_false h12
  clear h12
  go_enter Try.func36, Try.ntmps36
  go_wp2_with fail
  refine (Hv.out _).mono ?_
  rintro e W1 ⟨rfl, hb1⟩
  have hb1' : Below (w.heap.size + 1) (w.alloc (.cells #[.int .i64 k, .int .i64 sz, .int .i64 st, .int .i64 g, .int .i64 sh] 23)) W1 := hb1.mono (by simp)
  have hs0 : SpecAt W1 w.heap.size k sz st g sh := SpecAt.below (n₀ := w.heap.size + 1) ⟨by go_simp, by go_simp, by go_simp, by go_simp, by go_simp⟩ hb1' (by omega)
  have hz1 : w.heap.size < W1.heap.size := by have := hb1'.size; simp at this; omega
  have hB0 : Below w.heap.size w W1 := ((Below.refl _ _).alloc (Nat.le_refl _) _).trans (hb1'.mono (by omega))
  have HS0 := Lib.hid hs0
  obtain ⟨c0, c1, c2, c3, c4⟩ := hs0
  clear hb1 hb1'
  go_wp2_with (first | (go_at_call 11; refine (refValid_any _ _).mono ?_; rintro e w' ⟨rfl, rfl⟩) | (go_at_call 55; refine (hk.out _).mono ?_; rintro e w' ⟨rfl, rfl⟩))
  go_ret2
  exact ⟨_, rfl, World.ownsRow_nil _ _ _ _, hB0.alloc hB0.size _⟩

set_option maxRecDepth 100000 in
set_option maxHeartbeats 4000000 in
theorem refBetween_12 (k sz st g sh fr to : Int) (h : specOK k sz st g sh = true) (h2 : inR fr (-1000000000000) 1000000000000 = true) (h3 : inR to (-1000000000000) 1000000000000 = true) (h4 : fr ≤ to) (h12 : k = 1 ∨ k = 2) (xs : List (Int × Int)) (r : Int)
    (hR : (400 < (range k sz st sh fr to).length ∧ xs = [] ∧ r = 4) ∨ ((range k sz st sh fr to).length ≤ 400 ∧ xs = range k sz st sh fr to ∧ r = 0)) (w : World) :
    Calls Try.prog 36 #[.agg #[.int .i64 k, .int .i64 sz, .int .i64 st, .int .i64 g, .int .i64 sh], .int .i64 fr, .int .i64 to] w (RowPost2 w.heap.size w xs r) := by
  have hv := fun W => refValidSpec_any k sz st g sh W
  unfold specV at hv
  have Hv := Lib.hid hv
  clear hv
  have hp := (specOK_iff _ _ _ _ _).1 h
  obtain ⟨hf1, hf2⟩ := (inR_iff _ _ _).1 h2
  obtain ⟨ht1, ht2⟩ := (inR_iff _ _ _).1 h3
  obtain ⟨hd, hd', hs, hs', hz, hz', hdz⟩ := spec_steps hp h12
  have h50 : sz ≤ 50 * stepOf k sz st := by unfold specP at hp; rcases h12 with rfl | rfl <;> simp [stepOf] <;> omega
  have hk := Lib.hid fun W => stepped_any k sz st g sh W
  have e0 : decide (k = 1 ∨ k = 2) = true := decide_eq_true h12
  have ha := Lib.hid fun W => At_12 k sz st g sh fr h12 hd hd' hs hs' hz hz' hdz hf1 hf2 W
  have hA := Lib.hid fun W => first_any k sz st g sh fr h12 hd hd' hs hs' (by omega) (by omega) W
  have hE := Lib.hid fun W => (every_any k sz st g sh h12 W).mono (R' := fun e w' => e = .returned (.int .i64 (stepOf k sz st)) ∧ Below W.heap.size W w') fun _ _ ⟨h1, h2⟩ => ⟨h1, by rw [h2]; exact (Below.refl _ _).alloc (Nat.le_refl _) _⟩
  have hE2 := Lib.hid fun W => every_any k sz st g sh h12 W
  have hab := after_bounds (stepOf k sz st) sh (fr - sz) hd
  have hfb := firstAt_bounds (stepOf k sz st) sh fr hd
  have hfa := firstAt_after (stepOf k sz st) sh fr sz hd (by omega)
  have hN0 := nWin_fifty (after (stepOf k sz st) sh (fr - sz)) (stepOf k sz st) sz fr hd hab.1 h50
  have hlt := nWin_lt (after (stepOf k sz st) sh (fr - sz)) (stepOf k sz st) to hd
  have hltf := nWin_lt (after (stepOf k sz st) sh (fr - sz)) (stepOf k sz st) fr hd
  obtain ⟨i0, hi, hz0, hz1', hz2⟩ := info_parts infoW
  unfold range at hR ha
  rw [upto_len] at hR
  clear hp h12
  revert hlt hltf
  generalize hAe : after (stepOf k sz st) sh (fr - sz) = A at *
  generalize hNe : nWin A (stepOf k sz st) to = N at *
  generalize hN0e : nWin A (stepOf k sz st) fr = N0 at *
  generalize hFe : firstAt (stepOf k sz st) sh fr = F at *
  generalize hde : stepOf k sz st = d at *
  intro hlt hltf
  have hN0N : N0 ≤ N := by
    by_cases hc : N < N0
    · have h1 := (hltf N).2 hc
      have h2 := (hlt N).1 (by omega)
      omega
    · omega
  have hF1 : F + d = A + (N0 : Int) * d := by
    rw [hfa, Int.sub_mul]; omega
  have q1 : IntKind.i64.wrap (F + d) = F + d := IntWalk.i64_in _ (by omega)
  clear hAe hNe hN0e hFe hde hltf hfa
  have HR := Lib.hid hR
  have Hlt := Lib.hid hlt
  have HF1 := Lib.hid hF1
  clear hR hlt hF1
  go_enter Try.func36, Try.ntmps36
  go_wp2_with fail
  refine (Hv.out _).mono ?_
  rintro e W1 ⟨rfl, hb1⟩
  have hb1' : Below (w.heap.size + 1) (w.alloc (.cells #[.int .i64 k, .int .i64 sz, .int .i64 st, .int .i64 g, .int .i64 sh] 23)) W1 := hb1.mono (by simp)
  have hs0 : SpecAt W1 w.heap.size k sz st g sh := SpecAt.below (n₀ := w.heap.size + 1) ⟨by go_simp, by go_simp, by go_simp, by go_simp, by go_simp⟩ hb1' (by omega)
  have hz1 : w.heap.size < W1.heap.size := by have := hb1'.size; simp at this; omega
  have hB0 : Below w.heap.size w W1 := ((Below.refl _ _).alloc (Nat.le_refl _) _).trans (hb1'.mono (by omega))
  have HS0 := Lib.hid hs0
  obtain ⟨c0, c1, c2, c3, c4⟩ := hs0
  clear hb1 hb1'
  go_wp2_with (first | (go_at_call 11; refine (refValid_any _ _).mono ?_; rintro e w' ⟨rfl, rfl⟩) | (go_at_call 55; refine (hk.out _).mono ?_; rintro e w' ⟨rfl, rfl⟩))
  refine (ha.out _).mono ?_
  rintro e W2 ⟨v, rfl, hrow, hb2⟩
  have hb2' : Below W1.heap.size W1 W2 := ((Below.refl _ _).alloc (Nat.le_refl _) _).trans (hb2.mono (by simp))
  have hz2' : W1.heap.size ≤ W2.heap.size := hb2'.size
  have hrow' : W2.ownsRow W1.heap.size 25 2 v N0 (flatW (upto A d sz N0)) := by
    rw [upto_len] at hrow
    exact ownsRow_base hrow (by simp)
  have hS : ∀ w' : World, Below W2.heap.size W2 w' → (Below W2.heap.size W2 w' ∧ w'.cell? ⟨w.heap.size, 0, none⟩ = some (.int .i64 k) ∧ w'.cell? ⟨w.heap.size, 1, none⟩ = some (.int .i64 sz) ∧ w'.cell? ⟨w.heap.size, 2, none⟩ = some (.int .i64 st) ∧ w'.cell? ⟨w.heap.size, 3, none⟩ = some (.int .i64 g) ∧ w'.cell? ⟨w.heap.size, 4, none⟩ = some (.int .i64 sh)) := fun w' hb => ⟨hb, (HS0.out.below hb2' hz1).below hb (by omega)⟩
  have keepS : ∀ (u v : World), Below W2.heap.size W2 u → Below u.heap.size u v → Below W2.heap.size W2 v := fun u v h1 h2 => h1.trans (h2.mono h1.size)
  have HS1 := Lib.hid hS
  have HK := Lib.hid keepS
  have hW2 : Below W2.heap.size W2 W2 := Below.refl _ _
  clear hb2 hrow hS keepS c0 c1 c2 c3 c4
  go_wp2_with fail
  go_region_held3 (fun w' => Below W2.heap.size W2 w' ∧ w'.cell? ⟨w.heap.size, 0, none⟩ = some (.int .i64 k) ∧ w'.cell? ⟨w.heap.size, 1, none⟩ = some (.int .i64 sz) ∧ w'.cell? ⟨w.heap.size, 2, none⟩ = some (.int .i64 st) ∧ w'.cell? ⟨w.heap.size, 3, none⟩ = some (.int .i64 g) ∧ w'.cell? ⟨w.heap.size, 4, none⟩ = some (.int .i64 sh)) (first | exact HS1.out _ (HK.out _ _ (by assumption) (by assumption)) | exact HS1.out _ (HK.out _ _ (And.left (by assumption)) (by assumption)) | exact HS1.out _ (Below.drew (by assumption)) | exact HS1.out _ (Below.drew (And.left (by assumption))) | assumption)
    (first
      | (go_at_call 56; refine (hA.out _).mono ?_; rintro e w' ⟨rfl, hb⟩)
      | (go_at_call 57; refine (hE.out _).mono ?_; rintro e w' ⟨rfl, hb⟩))
  all_goals go_wp2_with fail
  go_loopw [8, 9] (fun v x wr => ∃ (c : Nat) (y : Int), x = .int .i64 y ∧ Hid (y = A + (c : Int) * d) ∧ c ≤ N ∧ c ≤ 400 ∧ fr < y ∧ y ≤ to + d ∧ wr.ownsRow W1.heap.size 25 2 v c (flatW (upto A d sz c)) ∧ Below W1.heap.size W1 wr)
    (fun _ x _ => (to + d - intOf x).toNat)
  case atStart =>
    have hbw : Below W2.heap.size W2 w' := by first | assumption | exact And.left (by assumption)
    exact ⟨N0, F + d, rfl, HF1, hN0N, by omega, by omega, by omega, owns_below hrow' hbw, hb2'.trans (hbw.mono hz2')⟩
  case round =>
    obtain ⟨c, y, rfl, hy, hcN, hc4, hy1, hy2, hrow, hB⟩ := hrel
    obtain ⟨c0, c1, c2, c3, c4⟩ := HS0.out.below hB hz1
    by_cases hle : y ≤ to
    · have hcn : c < N := (Hlt.out c).1 (by rw [← hy.out]; exact hle)
      have hsn : Hid (upto A d sz c ++ [(y, y + sz)] = upto A d sz (c + 1)) := by show _ = _; rw [upto_succ, hy.out]
      have hst : Hid (y + d = A + ((c + 1 : Nat) : Int) * d) := by show _ = _; rw [hy.out, Int.natCast_add, Int.add_mul]; omega
      have hy' := Lib.hid hy
      clear hy
      by_cases h400 : c = 400
      · obtain ⟨rfl, rfl⟩ : xs = [] ∧ r = 4 := by
          rcases HR.out with ⟨_, h1, h2⟩ | ⟨h, _⟩
          · exact ⟨h1, h2⟩
          · omega
        subst h400
        have hgt : (400 : Int) < ((400 : Nat) : Int) + 1 := by omega
        go_wp2_with (at_builtin; refine wpList_append_own _ rfl _ _ 38 rfl W1.heap.size 25 i0 (.agg #[.int .i64 0, .int .i64 0]) 2 16 Try.underlying38 hi hz0 hz1' hz2 rfl (by decide) _ _ _ rfl (hrow.alloc _) ⟨wr.heap.size, 0, none⟩ 1 1 (cellsW (y, y + sz)) rfl rfl (cells_two_new _ _ _ _) (by simp [cellsW, Value.oneCell']) (by unfold maxLen; omega) (by omega) (by have := hB.size; simp; omega) ?_; intro v' w3 hown' hgrow _; have hB3 : Below W1.heap.size W1 w3 := (hB.alloc hB.size _).grown hgrow (by have := hB.size; simp; omega) (fun k e => (hrow.lt k e).1); obtain ⟨g', cap', rfl⟩ := ownsRow_succ hown')
        go_ret2
        exact ⟨_, rfl, World.ownsRow_nil _ _ _ _, hB0.trans (hB3.mono (by omega))⟩
      · have h399 : c ≤ 399 := by omega
        have hle4 : ((c : Int) + 1) ≤ 400 := by omega
        clear h400
        go_wp2_with (first
          | (at_builtin; refine wpList_append_own _ rfl _ _ 38 rfl W1.heap.size 25 i0 (.agg #[.int .i64 0, .int .i64 0]) 2 16 Try.underlying38 hi hz0 hz1' hz2 rfl (by decide) _ _ _ rfl (hrow.alloc _) ⟨wr.heap.size, 0, none⟩ 1 1 (cellsW (y, y + sz)) rfl rfl (cells_two_new _ _ _ _) (by simp [cellsW, Value.oneCell']) (by unfold maxLen; omega) (by omega) (by have := hB.size; simp; omega) ?_; intro v' w3 hown' hgrow _; have hB3 : Below W1.heap.size W1 w3 := (hB.alloc hB.size _).grown hgrow (by have := hB.size; simp; omega) (fun k e => (hrow.lt k e).1); obtain ⟨g', cap', rfl⟩ := ownsRow_succ hown'; obtain ⟨d0, d1, d2, d3, d4⟩ := HS0.out.below hB3 hz1)
          | (go_at_call 57; refine (hE2.out _).mono ?_; rintro e w' ⟨rfl, rfl⟩))
        go_roundw
        case rel => exact ⟨c + 1, y + d, rfl, hst.out, by omega, by omega, by omega, by omega, by rw [← hsn.out, flatW_snoc]; exact hown'.alloc _, hB3.alloc hB3.size _⟩
        case measure => simp [intOf]; omega
    · have hgt : to < y := by omega
      have hcE : c = N := by
        by_cases hcn : c < N
        · exact absurd ((Hlt.out c).2 hcn) (by rw [← hy.out]; exact hle)
        · omega
      obtain ⟨hx, rfl⟩ : xs = upto A d sz N ∧ r = 0 := by
        rcases HR.out with ⟨h, _⟩ | ⟨_, h1, h2⟩
        · omega
        · exact ⟨h1, h2⟩
      subst hcE
      have hy' := Lib.hid hy
      have hx' := Lib.hid hx
      clear hle hy hx
      go_wp2_with fail
      go_ret2
      refine ⟨_, rfl, ?_, hB0.trans (hB.mono (by omega))⟩
      rw [hx'.out, upto_len]
      exact ownsRow_base hrow (by omega)

theorem refBetween_any (k sz st g sh fr to : Int) (w : World) :
    Calls Try.prog 36 #[.agg #[.int .i64 k, .int .i64 sz, .int .i64 st, .int .i64 g, .int .i64 sh], .int .i64 fr, .int .i64 to] w (RowPost2 w.heap.size w (betweenOf k sz st g sh fr to) (betweenErr k sz st g sh fr to)) := by
  by_cases h : specOK k sz st g sh = true
  · by_cases h2 : inR fr (-1000000000000) 1000000000000 = true
    · have hf := (inR_iff _ _ _).1 h2
      by_cases h3 : inR to (-1000000000000) 1000000000000 = true
      · have ht := (inR_iff _ _ _).1 h3
        by_cases h4 : fr ≤ to
        · have hr : rangeOK fr to := ⟨hf, ht, h4⟩
          by_cases h12 : k = 1 ∨ k = 2
          · refine refBetween_12 k sz st g sh fr to h h2 h3 h4 h12 _ _ ?_ w
            by_cases hl : 400 < (range k sz st sh fr to).length
            · have hE : betweenErr k sz st g sh fr to = 4 := by simp [betweenErr, h, hr, h12, hl]
              exact .inl ⟨hl, by simp [betweenOf, hE], hE⟩
            · have hE : betweenErr k sz st g sh fr to = 0 := by simp [betweenErr, h, hr, h12, hl]
              exact .inr ⟨by omega, by simp [betweenOf, hE], hE⟩
          · have hE : betweenErr k sz st g sh fr to = 11 := by simp [betweenErr, h, hr, h12]
            rw [hE, show betweenOf k sz st g sh fr to = [] by simp [betweenOf, hE]]
            exact refBetween_11 k sz st g sh fr to h h2 h3 h4 h12 w
        · have hr : ¬ rangeOK fr to := fun h => h4 h.2.2
          have hE : betweenErr k sz st g sh fr to = 7 := by simp [betweenErr, h, hr]
          rw [hE, show betweenOf k sz st g sh fr to = [] by simp [betweenOf, hE]]
          exact refBetween_7c k sz st g sh fr to h h2 h3 (by omega) w
      · have hr : ¬ rangeOK fr to := fun h => h3 (inR_yes h.2.1)
        have hE : betweenErr k sz st g sh fr to = 7 := by simp [betweenErr, h, hr]
        rw [hE, show betweenOf k sz st g sh fr to = [] by simp [betweenOf, hE]]
        exact refBetween_7b k sz st g sh fr to h h2 (by simpa using h3) w
    · have hr : ¬ rangeOK fr to := fun h => h2 (inR_yes h.1)
      have hE : betweenErr k sz st g sh fr to = 7 := by simp [betweenErr, h, hr]
      rw [hE, show betweenOf k sz st g sh fr to = [] by simp [betweenOf, hE]]
      exact refBetween_7a k sz st g sh fr to h (by simpa using h2) w
  · have h' : specOK k sz st g sh = false := by simpa using h
    have hE : betweenErr k sz st g sh fr to = 1 := by simp [betweenErr, h']
    rw [hE, show betweenOf k sz st g sh fr to = [] by simp [betweenOf, hE]]
    exact refBetween_1 k sz st g sh fr to h' w
end Go.Proofs.Ytbiaalpnabkkfaa
