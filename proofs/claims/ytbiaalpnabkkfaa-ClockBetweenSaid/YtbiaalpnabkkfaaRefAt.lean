/-
  The document's own every, first, At, Windows, as contracts.
-/
import Derived.Test.YtbiaalpnabkkfaaRefSpec
import Derived.Test.YtbiaalpnabkkfaaAwake
import Derived.LoopTactic
import Derived.Laws.AppendOwn
namespace Go.Proofs.Ytbiaalpnabkkfaa
open Go.RowKit

theorem every_any (k sz st g sh : Int) (hk : k = 1 ∨ k = 2) (w : World) :
    Calls Try.prog 57 #[.agg #[.int .i64 k, .int .i64 sz, .int .i64 st, .int .i64 g, .int .i64 sh]] w fun e w' => e = .returned (.int .i64 (stepOf k sz st)) ∧ w' = w.alloc (.cells #[.int .i64 k, .int .i64 sz, .int .i64 st, .int .i64 g, .int .i64 sh] 23) := by
  rcases hk with rfl | rfl
  · go_enter Try.func57, Try.ntmps57
    go_wp2
    go_ret
    exact ⟨rfl, rfl⟩
  · go_enter Try.func57, Try.ntmps57
    go_wp2
    go_ret
    exact ⟨rfl, rfl⟩

set_option maxHeartbeats 1000000 in
theorem first_any (k sz st g sh t : Int) (hk : k = 1 ∨ k = 2) (hd : 1 ≤ stepOf k sz st) (hd' : stepOf k sz st ≤ 1000000000) (hs : 0 ≤ sh) (hs' : sh ≤ 1000000000) (ht : -2000000000000000 ≤ t) (ht' : t ≤ 2000000000000000) (w : World) :
    Calls Try.prog 56 #[.agg #[.int .i64 k, .int .i64 sz, .int .i64 st, .int .i64 g, .int .i64 sh], .int .i64 t] w fun e w' => e = .returned (.int .i64 (firstAt (stepOf k sz st) sh t)) ∧ Below w.heap.size w w' := by
  have hc := Lib.hid fun W : World => every_any k sz st g sh hk W
  have hb := firstAt_bounds (stepOf k sz st) sh t hd
  unfold firstAt at hb
  obtain ⟨e1, e2⟩ := ediv_bound (t - sh) (stepOf k sz st) 4000000000000000 hd (by omega) (by omega) (by omega)
  have f1 : -4000000000000000 ≤ t - sh := by omega
  have f2 : t - sh ≤ 4000000000000000 := by omega
  have q1 : IntKind.i64.wrap (t - sh) = t - sh := IntWalk.i64_in _ (by omega)
  have q3 : IntKind.i64.wrap ((t - sh) / stepOf k sz st * stepOf k sz st) = (t - sh) / stepOf k sz st * stepOf k sz st := IntWalk.i64_in _ (by omega)
  have q4 : IntKind.i64.wrap ((t - sh) / stepOf k sz st * stepOf k sz st + sh) = (t - sh) / stepOf k sz st * stepOf k sz st + sh := IntWalk.i64_in _ (by omega)
  clear hk
  go_enter Try.func56, Try.ntmps56
  go_wp2_with fail
  go_region_held3 (fun w' => w'.cell? ⟨w.heap.size, 4, none⟩ = some (.int .i64 sh) ∧ w'.cell? ⟨w.heap.size, 0, none⟩ = some (.int .i64 k) ∧ w'.cell? ⟨w.heap.size, 1, none⟩ = some (.int .i64 sz) ∧ w'.cell? ⟨w.heap.size, 2, none⟩ = some (.int .i64 st) ∧ w'.cell? ⟨w.heap.size, 3, none⟩ = some (.int .i64 g)) (go_keep)
    (first
      | (go_at_call 57; refine (hc.out _).mono ?_; rintro e w' ⟨rfl, rfl⟩)
      | (go_at_call 42; refine (Div_any _ _ f1 f2 hd hd' _).mono ?_; rintro e w' ⟨rfl, rfl⟩))
  all_goals go_wp2_with fail
  go_ret
  refine ⟨rfl, ?_⟩
  repeat (first | exact Below.refl _ _ | refine Below.alloc ?_ (by simp; try omega) _ | refine Below.drew ?_ | refine below_drewN' ?_ _)

theorem back_lt (A d sz t y : Int) (N i : Nat) (hd : 1 ≤ d) (hA : t - sz < A) (hA' : A ≤ t - sz + d) (hi : i ≤ N) (hy : y = A + ((N : Int) - 1 - (i : Int)) * d) : t < y + sz ↔ i < N := by
  constructor
  · intro h
    by_cases hc : i < N
    · exact hc
    · have : i = N := by omega
      subst this
      rw [show (i : Int) - 1 - (i : Int) = -1 by omega] at hy
      omega
  · intro h
    have := Int.mul_nonneg (show 0 ≤ (N : Int) - 1 - (i : Int) by omega) (show 0 ≤ d by omega)
    omega
theorem back_step (A d y : Int) (N i : Nat) (hy : y = A + ((N : Int) - 1 - (i : Int)) * d) : y - d = A + ((N : Int) - 1 - ((i + 1 : Nat) : Int)) * d := by
  rw [hy, show (N : Int) - 1 - ((i + 1 : Nat) : Int) = ((N : Int) - 1 - (i : Int)) + (-1) by omega, Int.add_mul]
  omega

set_option maxRecDepth 100000 in
set_option maxHeartbeats 2000000 in
theorem At_12 (k sz st g sh t : Int) (hk : k = 1 ∨ k = 2) (hd : 1 ≤ stepOf k sz st) (hd' : stepOf k sz st ≤ 1000000000) (hs : 0 ≤ sh) (hs' : sh ≤ 1000000000) (hz : 1 ≤ sz) (hz' : sz ≤ 1000000000) (hdz : stepOf k sz st ≤ sz) (ht : -1000000000000 ≤ t) (ht' : t ≤ 1000000000000) (w : World) :
    Calls Try.prog 46 #[.agg #[.int .i64 k, .int .i64 sz, .int .i64 st, .int .i64 g, .int .i64 sh], .int .i64 t] w (RowPost w.heap.size w (range k sz st sh t t)) := by
  have e3 : (k == 3) = false := by simp; omega
  have e4 : (k == 4) = false := by simp; omega
  have hF := firstAt_bounds (stepOf k sz st) sh t hd
  have hE := firstAt_after (stepOf k sz st) sh t sz hd (by omega)
  have hab := after_bounds (stepOf k sz st) sh (t - sz) hd
  have hNb := nWin_le (after (stepOf k sz st) sh (t - sz)) (stepOf k sz st) t 3000000000000 hd (by omega) (by omega)
  have hc := Lib.hid fun W : World => every_any k sz st g sh hk W
  have hf := Lib.hid fun W : World => first_any k sz st g sh t hk hd hd' hs hs' (by omega) (by omega) W
  obtain ⟨i0, hi, hz0, hz1, hz2⟩ := info_parts infoW
  have hN0 := (nWin_lt (after (stepOf k sz st) sh (t - sz)) (stepOf k sz st) t hd 0).1 (by simp; omega)
  unfold range
  clear hk
  generalize after (stepOf k sz st) sh (t - sz) = A at *
  generalize nWin A (stepOf k sz st) t = N at *
  generalize firstAt (stepOf k sz st) sh t = F at *
  generalize stepOf k sz st = d at *
  have hN1 : 1 ≤ N := hN0
  clear hN0
  have HE := Lib.hid hE
  clear hE
  go_enter Try.func46, Try.ntmps46
  go_wp2_with (go_at_call 56; refine (hf.out _).mono ?_; rintro e w1 ⟨rfl, hb1⟩)
  have hs0 : SpecAt w1 w.heap.size k sz st g sh := by
    refine SpecAt.below (n₀ := w.heap.size + 1) ?_ (hb1.mono (by simp)) (by omega)
    exact ⟨by go_simp, by go_simp, by go_simp, by go_simp, by go_simp⟩
  have hw1 : w.heap.size < w1.heap.size := by have := hb1.size; simp at this; omega
  have hB0 : Below w.heap.size w w1 := ((Below.refl _ _).alloc (Nat.le_refl _) _).trans (hb1.mono (by simp))
  clear hb1
  have HS := Lib.hid hs0
  clear hs0
  go_loopw [5, 6] (fun v x wr => ∃ (i : Nat) (y : Int), x = .int .i64 y ∧ Hid (y = A + ((N : Int) - 1 - (i : Int)) * d) ∧ i ≤ N ∧ y ≤ t ∧ t - sz - d ≤ y ∧ wr.ownsRow w1.heap.size 25 2 v i (flatW (back A d sz N i)) ∧ Below w1.heap.size w1 wr)
    (fun _ x _ => (intOf x - (t - sz) + d).toNat)
  case atStart =>
    exact ⟨0, F, rfl, (by show F = _; rw [HE.out]; simp), Nat.zero_le _, hF.2, by omega, World.ownsRow_nil _ _ _ _, Below.refl _ _⟩
  case round =>
    obtain ⟨i, y, rfl, hy, hiN, hy1, hy2, hrow, hB⟩ := hrel
    have hlt := back_lt A d sz t y N i hd hab.1 hab.2 hiN hy.out
    obtain ⟨c0, c1, c2, c3, c4⟩ := HS.out.below hB hw1
    by_cases hin : i < N
    · have hyt : t < y + sz := hlt.2 hin
      have hst := Lib.hid (back_step A d y N i hy.out)
      have hsn : Hid (back A d sz N i ++ [(y, y + sz)] = back A d sz N (i + 1)) := by show _ = _; rw [back_succ, hy.out]
      have hy' := Lib.hid hy
      clear hlt hy
      go_wp2_with (first
        | (at_builtin; refine wpList_append_own _ rfl _ _ 38 rfl w1.heap.size 25 i0 (.agg #[.int .i64 0, .int .i64 0]) 2 16 Try.underlying38 hi hz0 hz1 hz2 rfl (by decide) _ _ _ rfl (hrow.alloc _) ⟨wr.heap.size, 0, none⟩ 1 1 (cellsW (y, y + sz)) rfl rfl (cells_two_new _ _ _ _) (by simp [cellsW, Value.oneCell']) (by unfold maxLen; omega) (by omega) (by have := hB.size; simp; omega) ?_; intro v' w3 hown' hgrow _; have hB3 : Below w1.heap.size w1 w3 := (hB.alloc hB.size _).grown hgrow (by have := hB.size; simp; omega) (fun k e => (hrow.lt k e).1); obtain ⟨d0, d1, d2, d3, d4⟩ := HS.out.below hB3 hw1)
        | (go_at_call 57; refine (hc.out _).mono ?_; rintro e w' ⟨rfl, rfl⟩))
      go_roundw
      case rel => exact ⟨i + 1, y - d, rfl, hst.out, by omega, by omega, by omega, by rw [← hsn.out, flatW_snoc]; exact hown'.alloc _, hB3.alloc hB3.size _⟩
      case measure => simp [intOf]; omega
    · have hyt : y + sz ≤ t := by have : ¬ t < y + sz := fun h => hin (hlt.1 h); omega
      obtain rfl : i = N := by omega
      have hy' := Lib.hid hy
      clear hlt hy hin HE
      rcases hrow.2 with ⟨_, h0⟩ | ⟨gb, cap, cur, rfl, hgb, hgc, hc1, hc2, hcs, hct⟩
      · omega
      have hRI := rowIs_of_owns (by rw [back_len]; exact hrow)
      have hgl : gb < wr.heap.size := (Array.getElem?_eq_some_iff.1 hgc).1
      have hRA : RowAt wr gb 0 (back A d sz i i) := by
        rcases hRI.2 with ⟨h, _⟩ | ⟨b, off, cp, he, hra⟩
        · cases h
        · simp only [Value.slice.injEq, Option.some.injEq, Addr.mk.injEq] at he
          obtain ⟨⟨rfl, rfl, _⟩, _, _⟩ := he
          exact hra
      have HRA := Lib.hid hRA
      have hB2 := Lib.hid hB
      clear hRI hRA hgc hct hcs hrow hB hy' hF
      go_wp2_with fail
      obtain ⟨W2, rfl⟩ : ∃ W2 : World, W2 = wr := ⟨_, rfl⟩
      go_loopw [7, 8] (fun o x wr => ∃ (c : Nat) (z : Int), x = .int .i64 z ∧ Hid (z = (i : Int) - 1 - (c : Int)) ∧ c ≤ i ∧ -1 ≤ z ∧ z < (i : Int) ∧ wr.ownsRow W2.heap.size 25 2 o c (flatW (upto A d sz c)) ∧ Below W2.heap.size W2 wr)
        (fun _ x _ => (intOf x + 1).toNat)
      case atStart =>
        exact ⟨0, (i : Int) - 1, rfl, (by show _ = _; simp), Nat.zero_le _, by omega, by omega, World.ownsRow_nil _ _ _ _, Below.refl _ _⟩
      case round =>
        obtain ⟨c, z, rfl, hz, hci, hz1', hz2', hrow, hB⟩ := hrel
        by_cases hcn : c < i
        · obtain ⟨j, rfl⟩ : ∃ j : Nat, z = (j : Int) := ⟨z.toNat, by have := hz.out; omega⟩
          have hji : j < i := by omega
          have hjc : (i : Int) - 1 - (j : Int) = (c : Int) := by have := hz.out; omega
          obtain ⟨g0, g1⟩ := HRA.out j (by rw [back_len]; exact hji)
          rw [back_get A d sz i i j hji, hjc] at g0 g1
          simp only [Nat.zero_add] at g0 g1
          have k0 : wr.cell? ⟨gb, j * 2, none⟩ = some (.int .i64 (A + (c : Int) * d)) := (hB.cell (p := ⟨gb, j * 2, none⟩) hgl).trans g0
          have k1 : wr.cell? ⟨gb, j * 2 + 1, none⟩ = some (.int .i64 (A + (c : Int) * d + sz)) := (hB.cell (p := ⟨gb, j * 2 + 1, none⟩) hgl).trans g1
          have hsn : Hid (upto A d sz c ++ [(A + (c : Int) * d, A + (c : Int) * d + sz)] = upto A d sz (c + 1)) := by show _ = _; rw [upto_succ]
          have hz' : Hid ((j : Int) - 1 = (i : Int) - 1 - ((c + 1 : Nat) : Int)) := by show _ = _; omega
          clear g0 g1 hjc hz
          generalize A + (c : Int) * d = x0 at *
          have hj0 : (0 : Int) ≤ (j : Int) := by omega
          have hj1 : (j : Int) < (i : Int) := by omega
          go_wp2_with (first
            | (at_builtin; refine wpList_append_own _ rfl _ _ 38 rfl W2.heap.size 25 i0 (.agg #[.int .i64 0, .int .i64 0]) 2 16 Try.underlying38 hi hz0 hz1 hz2 rfl (by decide) _ _ _ rfl (hrow.alloc _) ⟨wr.heap.size, 0, none⟩ 1 1 (cellsW (x0, x0 + sz)) rfl rfl (cells_two_new _ _ _ _) (by simp [cellsW, Value.oneCell']) (by unfold maxLen; omega) (by omega) (by have := hB.size; simp; omega) ?_; intro v' w3 hown' hgrow _; have hB3 : Below W2.heap.size W2 w3 := (hB.alloc hB.size _).grown hgrow (by have := hB.size; simp; omega) (fun k e => (hrow.lt k e).1)))
          go_roundw
          case rel => exact ⟨c + 1, (j : Int) - 1, rfl, hz'.out, by omega, by omega, by omega, by rw [← hsn.out, flatW_snoc]; exact hown', hB3⟩
          case measure => simp [intOf]; try omega
        · obtain rfl : c = i := by omega
          have hzz : z < 0 := by have := hz.out; omega
          have hz' := Lib.hid hz
          clear hz hcn
          go_wp2_with fail
          go_ret
          refine ⟨_, rfl, ?_, hB0.trans ((hB2.out.mono (by omega)).trans (hB.mono (by have := hB2.out.size; omega)))⟩
          rw [upto_len]
          exact ownsRow_base hrow (by have := hB2.out.size; omega)

theorem At_3 (g t : Int) (hg : 1 ≤ g) (hg' : g ≤ 1000000000) (ht : -1000000000000 ≤ t) (ht' : t ≤ 1000000000000) (w : World) :
    Calls Try.prog 46 #[.agg #[.int .i64 3, .int .i64 0, .int .i64 0, .int .i64 g, .int .i64 0], .int .i64 t] w (RowPost w.heap.size w [(t, t + g)]) := by
  go_enter Try.func46, Try.ntmps46
  go_wp2
  go_ret
  refine ⟨_, rfl, ownsRow_lit' _ _ _ ?_ ?_ _ _, ?_⟩
  · simp
  · simp
  exact ((Below.refl _ _).alloc (Nat.le_refl _) _).alloc (by simp) _

theorem At_4 (t : Int) (w : World) :
    Calls Try.prog 46 #[.agg #[.int .i64 4, .int .i64 0, .int .i64 0, .int .i64 0, .int .i64 0], .int .i64 t] w (RowPost w.heap.size w [(-1000000000000, 1000000000001)]) := by
  go_enter Try.func46, Try.ntmps46
  go_wp2
  go_ret
  refine ⟨_, rfl, ownsRow_lit' _ _ _ ?_ ?_ _ _, ?_⟩
  · simp
  · simp
  exact ((Below.refl _ _).alloc (Nat.le_refl _) _).alloc (by simp) _

theorem spec_steps {k sz st g sh : Int} (hp : specP k sz st g sh) (hk : k = 1 ∨ k = 2) : 1 ≤ stepOf k sz st ∧ stepOf k sz st ≤ 1000000000 ∧ 0 ≤ sh ∧ sh ≤ 1000000000 ∧ 1 ≤ sz ∧ sz ≤ 1000000000 ∧ stepOf k sz st ≤ sz := by
  unfold specP at hp
  rcases hk with rfl | rfl <;> simp [stepOf] <;> omega

theorem At_any (k sz st g sh t : Int) (hp : specP k sz st g sh) (ht : -1000000000000 ≤ t) (ht' : t ≤ 1000000000000) (w : World) :
    Calls Try.prog 46 #[.agg #[.int .i64 k, .int .i64 sz, .int .i64 st, .int .i64 g, .int .i64 sh], .int .i64 t] w (RowPost w.heap.size w (windowsAt k sz st g sh t)) := by
  by_cases h3 : k = 3
  · obtain ⟨rfl, rfl, rfl, rfl, hg⟩ : k = 3 ∧ sz = 0 ∧ st = 0 ∧ sh = 0 ∧ 1 ≤ g ∧ g ≤ 1000000000 := by unfold specP at hp; omega
    exact At_3 g t hg.1 hg.2 ht ht' w
  · by_cases h4 : k = 4
    · obtain ⟨rfl, rfl, rfl, rfl, rfl⟩ : k = 4 ∧ sz = 0 ∧ st = 0 ∧ sh = 0 ∧ g = 0 := by unfold specP at hp; omega
      exact At_4 t w
    · have hk : k = 1 ∨ k = 2 := by unfold specP at hp; omega
      obtain ⟨hd, hd', hs, hs', hz, hz', hdz⟩ := spec_steps hp hk
      have := At_12 k sz st g sh t hk hd hd' hs hs' hz hz' hdz ht ht' w
      simpa [windowsAt, h3, h4] using this

set_option maxHeartbeats 1000000 in
theorem refWindows_any (k sz st g sh t : Int) (w : World) :
    Calls Try.prog 26 #[.agg #[.int .i64 k, .int .i64 sz, .int .i64 st, .int .i64 g, .int .i64 sh], .int .i64 t] w (RowPost2 w.heap.size w (windowsOf k sz st g sh t) (windowsErr k sz st g sh t)) := by
  have hv := fun W => refValidSpec_any k sz st g sh W
  unfold specV at hv
  have Hv := Lib.hid hv
  clear hv
  by_cases h : specOK k sz st g sh = true
  · by_cases h2 : inR t (-1000000000000) 1000000000000 = true
    · have hE : windowsErr k sz st g sh t = 0 := by simp [windowsErr, h, h2]
      have hp := (specOK_iff _ _ _ _ _).1 h
      have ht := (inR_iff _ _ _).1 h2
      rw [hE, show windowsOf k sz st g sh t = windowsAt k sz st g sh t by simp [windowsOf, hE]]
      have ha := Lib.hid fun W => At_any k sz st g sh t hp ht.1 ht.2 W
      clear hE hp ht
      generalize windowsAt k sz st g sh t = xs at *
      go_enter Try.func26, Try.ntmps26
      go_wp2_with fail
      refine (Hv.out _).mono ?_
      rintro e w1 ⟨rfl, hb1⟩
      have hb1' : Below (w.heap.size + 1) (w.alloc (.cells #[.int .i64 k, .int .i64 sz, .int .i64 st, .int .i64 g, .int .i64 sh] 23)) w1 := hb1.mono (by simp)
      have hs0 : SpecAt w1 w.heap.size k sz st g sh := by
        refine SpecAt.below (n₀ := w.heap.size + 1) ?_ hb1' (by omega)
        exact ⟨by go_simp, by go_simp, by go_simp, by go_simp, by go_simp⟩
      have hz1 : w.heap.size ≤ w1.heap.size := by have := hb1'.size; simp at this; omega
      obtain ⟨c0, c1, c2, c3, c4⟩ := hs0
      have hB0 : Below w.heap.size w w1 := ((Below.refl _ _).alloc (Nat.le_refl _) _).trans (hb1'.mono (by omega))
      clear hb1 hb1'
      go_wp2_with (go_at_call 11; refine (refValid_any _ _).mono ?_; rintro e w' ⟨rfl, rfl⟩)
      refine (ha.out _).mono ?_
      rintro e w3 ⟨v, rfl, hrow, hb3⟩
      go_wp2_with fail
      go_ret2
      exact ⟨v, rfl, ownsRow_base hrow hz1, hB0.trans (hb3.mono hz1)⟩
    · have h2' : inR t (-1000000000000) 1000000000000 = false := by simpa using h2
      have hE : windowsErr k sz st g sh t = 7 := by simp [windowsErr, h, h2']
      rw [hE, show windowsOf k sz st g sh t = [] by simp [windowsOf, hE]]
      clear hE h2
      go_enter Try.func26, Try.ntmps26
      go_wp2_with (first
        | (go_at_call 15; refine (Hv.out _).mono ?_; rintro e w1 ⟨rfl, hb1⟩)
        | (go_at_call 11; refine (refValid_any _ _).mono ?_; rintro e w' ⟨rfl, rfl⟩))
      go_ret2
      exact ⟨_, rfl, World.ownsRow_nil _ _ _ _, ((Below.refl _ _).alloc (Nat.le_refl _) _).trans (hb1.mono (by simp))⟩
  · have h' : specOK k sz st g sh = false := by simpa using h
    have hE : windowsErr k sz st g sh t = 1 := by simp [windowsErr, h']
    rw [hE, show windowsOf k sz st g sh t = [] by simp [windowsOf, hE]]
    clear hE h
    go_enter Try.func26, Try.ntmps26
    go_wp2_with (go_at_call 15; refine (Hv.out _).mono ?_; rintro e w1 ⟨rfl, hb1⟩)
    go_ret2
    exact ⟨_, rfl, World.ownsRow_nil _ _ _ _, ((Below.refl _ _).alloc (Nat.le_refl _) _).trans (hb1.mono (by simp))⟩
end Go.Proofs.Ytbiaalpnabkkfaa
