/-
  PROVED HERE: for every spec and all times (numbers of 64 bits) the law ClockBetween returns true: Between and Next of package clock answer as the document's own, and no window of a time ends between that time and Next. Its arguments read afterwards as before. No condition.
-/
import Derived.Test.YtbiaalpnabkkfaaRows
import Derived.Test.YtbiaalpnabkkfaaRefBetween
import Derived.Test.YtbiaalpnabkkfaaLift
namespace Go.Proofs.Ytbiaalpnabkkfaa.clockBetween
open Go.ChangeShapes Go.WideShapes Go.ChangeAt Go.RowKit
set_option linter.unusedVariables false

theorem owns_form {w : World} {base : Nat} {v : Value} {xs : List (Int × Int)} (h : w.ownsRow base 25 2 v xs.length (flatW xs)) (hx : xs ≠ []) : ∃ gb cap, v = .slice (some ⟨gb, 0, none⟩) xs.length cap ∧ gb < w.heap.size ∧ RowAt w gb 0 xs := by
  have hr := rowIs_of_owns h
  rcases h.2 with ⟨_, h0⟩ | ⟨g, cap, cur, rfl, hb, hg, _⟩
  · exact absurd (List.eq_nil_of_length_eq_zero h0) hx
  · refine ⟨g, cap, rfl, (Array.getElem?_eq_some_iff.1 hg).1, ?_⟩
    rcases hr.2 with ⟨h, _⟩ | ⟨b, off, cp, he, hra⟩
    · cases h
    · simp only [Value.slice.injEq, Option.some.injEq, Addr.mk.injEq] at he
      obtain ⟨⟨rfl, rfl, _⟩, _, _⟩ := he
      exact hra

set_option maxRecDepth 100000 in
set_option maxHeartbeats 4000000 in
theorem walk_bad (k sz st g sh fr to t : Int) (hne : nextErr k sz st g sh t ≠ 0) (w : World) :
    Calls Try.prog 9 #[.agg #[.int .i64 k, .int .i64 sz, .int .i64 st, .int .i64 g, .int .i64 sh], .int .i64 fr, .int .i64 to, .int .i64 t] w fun e w' => e = .returned (.bool true) ∧ Below w.heap.size w w' := by
  have h1 := Lib.hid fun W => Between_any k sz st g sh fr to W
  have h2 := Lib.hid fun W => refBetween_any k sz st g sh fr to W
  have h3 := Lib.hid fun W => clkNext_any k sz st g sh t W
  have h4 := Lib.hid fun W => refNext_any k sz st g sh t W
  have hne' : (nextErr k sz st g sh t != 0) = true := by rw [bne_iff_ne]; exact hne
  clear hne
  go_enter Try.func9, Try.ntmps9
  go_wp2_with fail
  refine (h1.out _).mono ?_
  rintro e w1 ⟨v1, rfl, hr1, hb1⟩
  have hB1 : Below w.heap.size w w1 := ((Below.refl _ _).alloc (Nat.le_refl _) _).trans (hb1.mono (by simp))
  have hw1 : w.heap.size < w1.heap.size := by have := hb1.size; simp at this; omega
  have c0 : SpecAt w1 w.heap.size k sz st g sh := SpecAt.below (n₀ := w.heap.size + 1) ⟨by go_simp, by go_simp, by go_simp, by go_simp, by go_simp⟩ (hb1.mono (by simp)) (by omega)
  have HS := Lib.hid c0
  obtain ⟨c0, c1, c2, c3, c4⟩ := c0
  clear hb1
  go_wp2_with fail
  refine (h2.out _).mono ?_
  rintro e w2 ⟨v2, rfl, hr2, hb2⟩
  clear c0 c1 c2 c3 c4
  obtain ⟨c0, c1, c2, c3, c4⟩ := HS.out.below hb2 hw1
  have hr1' := owns_below hr1 hb2
  go_wp2_with fail
  refine (Same_any v1 v2 _ _ w2 (rowIs_of_owns hr1') (rowIs_of_owns hr2)).mono ?_
  rintro e w3 ⟨rfl, hd⟩
  have hb3 := hd.below w2.heap.size
  have hB3 : Below w1.heap.size w1 w3 := hb2.trans (hb3.mono hb2.size)
  clear c0 c1 c2 c3 c4 hd hb3 hb2 hr1 hr2 hr1'
  obtain ⟨c0, c1, c2, c3, c4⟩ := HS.out.below hB3 hw1
  have hdec : decide (betweenOf k sz st g sh fr to = betweenOf k sz st g sh fr to) = true := decide_eq_true rfl
  go_wp2_with fail
  refine (h3.out _).mono ?_
  rintro e w4 ⟨rfl, hb4⟩
  have hB4 : Below w1.heap.size w1 w4 := hB3.trans (hb4.mono hB3.size)
  clear c0 c1 c2 c3 c4 hb4
  obtain ⟨c0, c1, c2, c3, c4⟩ := HS.out.below hB4 hw1
  go_wp2_with fail
  refine (h4.out _).mono ?_
  rintro e w5 ⟨rfl, hb5⟩
  have hB5 : Below w1.heap.size w1 w5 := hB4.trans (hb5.mono hB4.size)
  have hBt : Below w.heap.size w w5 := hB1.trans (hB5.mono hB1.size)
  clear c0 c1 c2 c3 c4 hb5
  obtain ⟨c0, c1, c2, c3, c4⟩ := HS.out.below hB5 hw1
  go_wp2_with fail
  refine (awake_any w5).mono ?_
  rintro e w6 ⟨rfl, hb6⟩
  go_wp2_with fail
  go_ret
  exact ⟨rfl, hBt.trans (hb6.mono hBt.size)⟩

theorem next_windows {k sz st g sh t : Int} (h : nextErr k sz st g sh t = 0) : windowsErr k sz st g sh t = 0 ∧ (k = 1 ∨ k = 2) ∧ specP k sz st g sh ∧ -1000000000000 ≤ t ∧ t ≤ 1000000000000 := by
  unfold nextErr at h
  by_cases h1 : specOK k sz st g sh = false
  · rw [if_pos h1] at h; omega
  · rw [if_neg h1] at h
    by_cases h2 : inR t (-1000000000000) 1000000000000 = false
    · rw [if_pos h2] at h; omega
    · rw [if_neg h2] at h
      by_cases h3 : k = 1 ∨ k = 2
      · have ht := (inR_iff _ _ _).1 (by simpa using h2)
        exact ⟨by rw [windowsErr, if_neg h1, if_neg h2], h3, (specOK_iff _ _ _ _ _).1 (by simpa using h1), ht.1, ht.2⟩
      · rw [if_neg h3] at h; omega

set_option maxRecDepth 100000 in
set_option maxHeartbeats 4000000 in
theorem walk_good (k sz st g sh fr to t : Int) (hne : nextErr k sz st g sh t = 0) (w : World) :
    Calls Try.prog 9 #[.agg #[.int .i64 k, .int .i64 sz, .int .i64 st, .int .i64 g, .int .i64 sh], .int .i64 fr, .int .i64 to, .int .i64 t] w fun e w' => e = .returned (.bool true) ∧ Below w.heap.size w w' := by
  have h1 := Lib.hid fun W => Between_any k sz st g sh fr to W
  have h2 := Lib.hid fun W => refBetween_any k sz st g sh fr to W
  have h3 := Lib.hid fun W => clkNext_any k sz st g sh t W
  have h4 := Lib.hid fun W => refNext_any k sz st g sh t W
  obtain ⟨hwe, hk, hp, ht1, ht2⟩ := next_windows hne
  obtain ⟨hd, hd', hs, hs', hz, hz', hdz⟩ := spec_steps hp hk
  have h5 := fun W => Windows_any k sz st g sh t W
  have hF := winFacts k sz st g sh t hp ht1 ht2
  have hab := after_bounds (stepOf k sz st) sh (t - sz) hd
  have hwl : windowsOf k sz st g sh t = windowsAt k sz st g sh t := by rw [windowsOf, if_pos hwe]
  have hw12 : windowsAt k sz st g sh t = range k sz st sh t t := by rw [windowsAt, if_neg (by omega), if_neg (by omega)]
  rw [hwe, hwl] at h5
  have hnv : nextVal k sz st g sh t = after (stepOf k sz st) sh (t - sz) + sz := by rw [nextVal, if_pos hne]
  have hends : ∀ i, i < (windowsAt k sz st g sh t).length → nextVal k sz st g sh t ≤ ((windowsAt k sz st g sh t)[i]?.getD (0, 0)).2 := fun i hi => by
    rw [hw12] at hi ⊢
    unfold range at hi ⊢
    rw [upto_len] at hi
    rw [upto_get _ _ _ _ _ hi, hnv]
    have := Int.mul_nonneg (show (0 : Int) ≤ (i : Int) by omega) (show 0 ≤ stepOf k sz st by omega)
    show _ ≤ after (stepOf k sz st) sh (t - sz) + (i : Int) * stepOf k sz st + sz
    omega
  have hgt : t < nextVal k sz st g sh t := by rw [hnv]; omega
  have hne0 : windowsAt k sz st g sh t ≠ [] := fun h => by have := hF.pos; rw [h] at this; simp at this
  have hsm := hF.small
  rw [hne] at h3 h4
  have H5 := Lib.hid h5
  have HE := Lib.hid hends
  have HN := Lib.hid hne0
  clear hne hwe hk hp hF hab hwl hw12 h5 hends hnv hne0
  generalize windowsAt k sz st g sh t = xs at *
  generalize nextVal k sz st g sh t = nv at *
  go_enter Try.func9, Try.ntmps9
  go_wp2_with fail
  refine (h1.out _).mono ?_
  rintro e w1 ⟨v1, rfl, hr1, hb1⟩
  have hB1 : Below w.heap.size w w1 := ((Below.refl _ _).alloc (Nat.le_refl _) _).trans (hb1.mono (by simp))
  have hw1 : w.heap.size < w1.heap.size := by have := hb1.size; simp at this; omega
  have c0 : SpecAt w1 w.heap.size k sz st g sh := SpecAt.below (n₀ := w.heap.size + 1) ⟨by go_simp, by go_simp, by go_simp, by go_simp, by go_simp⟩ (hb1.mono (by simp)) (by omega)
  have HS := Lib.hid c0
  obtain ⟨c0, c1, c2, c3, c4⟩ := c0
  clear hb1
  go_wp2_with fail
  refine (h2.out _).mono ?_
  rintro e w2 ⟨v2, rfl, hr2, hb2⟩
  clear c0 c1 c2 c3 c4
  obtain ⟨c0, c1, c2, c3, c4⟩ := HS.out.below hb2 hw1
  have hr1' := owns_below hr1 hb2
  go_wp2_with fail
  refine (Same_any v1 v2 _ _ w2 (rowIs_of_owns hr1') (rowIs_of_owns hr2)).mono ?_
  rintro e w3 ⟨rfl, hd⟩
  have hb3 := hd.below w2.heap.size
  have hB3 : Below w1.heap.size w1 w3 := hb2.trans (hb3.mono hb2.size)
  clear c0 c1 c2 c3 c4 hd hb3 hb2 hr1 hr2 hr1'
  obtain ⟨c0, c1, c2, c3, c4⟩ := HS.out.below hB3 hw1
  have hdec : decide (betweenOf k sz st g sh fr to = betweenOf k sz st g sh fr to) = true := decide_eq_true rfl
  go_wp2_with fail
  refine (h3.out _).mono ?_
  rintro e w4 ⟨rfl, hb4⟩
  have hB4 : Below w1.heap.size w1 w4 := hB3.trans (hb4.mono hB3.size)
  clear c0 c1 c2 c3 c4 hb4
  obtain ⟨c0, c1, c2, c3, c4⟩ := HS.out.below hB4 hw1
  go_wp2_with fail
  refine (h4.out _).mono ?_
  rintro e w5 ⟨rfl, hb5⟩
  have hB5 : Below w1.heap.size w1 w5 := hB4.trans (hb5.mono hB4.size)
  have hBt : Below w.heap.size w w5 := hB1.trans (hB5.mono hB1.size)
  clear c0 c1 c2 c3 c4 hb5
  obtain ⟨c0, c1, c2, c3, c4⟩ := HS.out.below hB5 hw1
  go_wp2_with fail
  refine (H5.out _).mono ?_
  rintro e w6 ⟨v, rfl, hr6, hb6⟩
  have hB6 : Below w.heap.size w w6 := hBt.trans (hb6.mono hBt.size)
  obtain ⟨gb, cap, rfl, hgb, hRA⟩ := owns_form hr6 HN.out
  have HRA := Lib.hid hRA
  clear hr6 hRA c0 c1 c2 c3 c4 hb6 hB3 hB4 hB5 hBt
  go_wp2_with fail
  obtain ⟨W6, rfl⟩ : ∃ W6 : World, W6 = w6 := ⟨_, rfl⟩
  go_loop [16] (fun s => ∃ i : Nat, i ≤ xs.length ∧ s = .int .i64 i) (fun s => xs.length - (intOf s).toNat)
  case atStart => exact ⟨0, Nat.zero_le _, rfl⟩
  case round =>
    obtain ⟨i, hi, rfl⟩ := hrel
    by_cases hlt : i < xs.length
    · obtain ⟨g0, g1⟩ := HRA.out i hlt
      have hen := HE.out i hlt
      simp only [Nat.zero_add] at g0 g1
      generalize (xs[i]?.getD (0, 0)).1 = x0 at *
      generalize (xs[i]?.getD (0, 0)).2 = x1 at *
      have hi0 : (0 : Int) ≤ (i : Int) := by omega
      have hi1 : (i : Int) < (xs.length : Int) := by omega
      go_wp2_with fail
      go_round
      case rel => exact ⟨i + 1, by omega, by go_num⟩
      case measure => simp [intOf]; omega
    · have hge : xs.length ≤ i := by omega
      go_wp2_with fail
      refine (awake_any _).mono ?_
      rintro e w7 ⟨rfl, hb7⟩
      go_wp2_with fail
      go_ret
      exact ⟨rfl, hB6.trans (hb7.mono hB6.size)⟩

theorem walk (k sz st g sh fr to t : Int) (w : World) :
    Calls Try.prog 9 #[.agg #[.int .i64 k, .int .i64 sz, .int .i64 st, .int .i64 g, .int .i64 sh], .int .i64 fr, .int .i64 to, .int .i64 t] w fun e w' => e = .returned (.bool true) ∧ Below w.heap.size w w' := by
  by_cases h : nextErr k sz st g sh t = 0
  · exact walk_good k sz st g sh fr to t h w
  · exact walk_bad k sz st g sh fr to t h w

set_option maxRecDepth 100000 in
theorem lifted (os : Os) (started : os.Started) (H : Type) (enc : TypeId × Value → H) :
    ReturnsInHanded {} Try.checked os 9 .any (Rows.clockBetweenSpec.pre6 enc Try.prog Try.f9 Rows.clockBetweenRow.domain false) (Rows.clockBetweenSpec.post enc Try.prog Try.f9 false true false false) := by
  refine returnsInHanded_of_change (C := Try.checked) own started (by kernel_rfl) Try.func9
    (ChangeSpec.witness6 (enc := enc) (C := Try.checked) false ⟨#[], #[.agg #[.int .i64 0, .int .i64 0, .int .i64 0, .int .i64 0, .int .i64 0], .int .i64 0, .int .i64 0, .int .i64 0], []⟩ 8 (by kernel_rfl) (by kernel_rfl) (by kernel_rfl) (by kernel_rfl)) ?_
  intro W base args ds gs before hval0 hW hcnd _
  have hval : ∀ (j : Nat) t v, Try.f9.params[j]? = some t → args[j]? = some v → Value.okWide Try.prog W .any base t v := hval0
  have hW' := hW
  obtain ⟨p, q, hA0, hV, rfl, hfz, hnd⟩ := hW
  have hA : DataW.TrodAll enc Try.prog W 0 (fun _ => true) true Try.f9.params.toList args.toList ds p := hA0
  rw [Try.params9] at hA hval
  obtain ⟨rfl, rfl⟩ := trodVars_none hV
  have hA' := hA
  obtain ⟨v0, vs0, d0, ds0, p0, q0, hargs, rfl, rfl, h0, r0⟩ := trodAll_cons hA
  obtain ⟨v1, vs1, d1, ds1, p1, q1, rfl, rfl, rfl, h1, r1⟩ := trodAll_cons r0
  obtain ⟨v2, vs2, d2, ds2, p2, q2, rfl, rfl, rfl, h2, r2⟩ := trodAll_cons r1
  obtain ⟨v3, vs3, d3, ds3, p3, q3, rfl, rfl, rfl, h3, r3⟩ := trodAll_cons r2
  obtain ⟨rfl, rfl, rfl⟩ := trodAll_nil r3
  obtain rfl : args = #[v0, v1, v2, v3] := by cases args; simp_all
  obtain ⟨k, sz, st, g, sh, rfl⟩ := open_spec (hval 0 _ v0 rfl rfl)
  obtain ⟨fr, rfl⟩ := okWide_int Try.underlying3 (hval 1 3 v1 rfl rfl)
  obtain ⟨to, rfl⟩ := okWide_int Try.underlying3 (hval 2 3 v2 rfl rfl)
  obtain ⟨t, rfl⟩ := okWide_int Try.underlying3 (hval 3 3 v3 rfl rfl)
  clear hA0 hval0
  refine (walk k sz st g sh fr to t W).mono fun e W' ⟨he, hg⟩ => ?_
  subst he
  exact ⟨_, rfl, _, _, _, [], _, [], hW', trodAll_mk1 (shut_bool Try.underlying4 true), trodAll_below laidOut hg (by decide +kernel) hA' (fun x hx => by simpa using hW'.lt x (by simpa using hx)), rfl, hg.frame _, fun h => by cases h⟩

theorem over : Rows.clockBetweenRow.holds Try.pinned (OpenSpec.ofChange Rows.clockBetweenSpec) :=
  OpenClaim.holds_of_wide 9 Try.f9 rfl rfl rfl rfl rfl rfl rfl ⟨rfl, rfl, rfl, rfl, rfl⟩ rfl rfl rfl rfl rfl (by kernel_rfl) Try.func9 (by kernel_rfl)
    (of_decide_eq_true (by kernel_rfl)) (by unfold Func.isWrapper; first | (rw [if_pos (by decide +kernel)]; kernel_rfl) | (rw [if_neg (by decide +kernel)]; exact ⟨rfl, rfl⟩))
    (fun os started H enc _ => lifted os started H enc)

theorem proved : Rows.ClockBetweenSaid :=
  over
end Go.Proofs.Ytbiaalpnabkkfaa.clockBetween
