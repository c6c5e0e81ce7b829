/-
  PROVED HERE: for every spec and time (numbers of 64 bits) the law ClockWindows returns true: Windows of package clock answers as the document's own; each window of a time contains it, they ascend, and there are as many as the size has steps, rounded up or down. Its arguments read afterwards as before. No condition.
-/
import Derived.Test.YtbiaalpnabkkfaaRows
import Derived.Test.YtbiaalpnabkkfaaRefAt
import Derived.Test.YtbiaalpnabkkfaaWinMath
import Derived.Test.YtbiaalpnabkkfaaLift
namespace Go.Proofs.Ytbiaalpnabkkfaa.clockWindows
open Go.ChangeShapes Go.WideShapes Go.ChangeAt Go.RowKit
set_option linter.unusedVariables false
set_option linter.unusedSimpArgs false

theorem contains_b (a b t : Int) (w : World) : Calls Try.prog 16 #[.agg #[.int .i64 a, .int .i64 b], .int .i64 t] w fun e w' => e = .returned (.bool (inWin a b t)) ∧ Below w.heap.size w w' :=
  (clkContains_any a b t w).mono fun _ _ ⟨h1, h2⟩ => ⟨h1, by rw [h2]; exact ((Below.refl _ _).alloc (Nat.le_refl _) _).alloc (by simp) _⟩
theorem compare_b (a b c d : Int) (w : World) : Calls Try.prog 20 #[.agg #[.int .i64 a, .int .i64 b], .agg #[.int .i64 c, .int .i64 d]] w fun e w' => e = .returned (.int .i64 (cmpW a b c d)) ∧ Below w.heap.size w w' :=
  (clkCompare_any a b c d w).mono fun _ _ ⟨h1, h2⟩ => ⟨h1, by rw [h2]; exact ((Below.refl _ _).alloc (Nat.le_refl _) _).alloc (by simp) _⟩

/-- A list that a maker has handed back: nil, or a block of its own. -/
theorem owns_form {w : World} {base : Nat} {v : Value} {xs : List (Int × Int)} (h : w.ownsRow base 25 2 v xs.length (flatW xs)) (hx : xs ≠ []) : ∃ gb cap, v = .slice (some ⟨gb, 0, none⟩) xs.length cap ∧ gb < w.heap.size ∧ RowAt w gb 0 xs := by
  have hr := rowIs_of_owns h
  rcases h.2 with ⟨_, h0⟩ | ⟨g, cap, cur, rfl, hb, hg, _⟩
  · exact absurd (List.eq_nil_of_length_eq_zero h0) hx
  · refine ⟨g, cap, rfl, (Array.getElem?_eq_some_iff.1 hg).1, ?_⟩
    rcases hr.2 with ⟨h, _⟩ | ⟨b, off, cp, he, hra⟩
    · cases h
    · simp only [Value.slice.injEq, Option.some.injEq, Addr.mk.injEq] at he
      obtain ⟨⟨rfl, rfl, _⟩, _, _⟩ := he
      exact hra

set_option maxRecDepth 100000 in
set_option maxHeartbeats 4000000 in
theorem walk_bad (k sz st g sh t er : Int) (her : windowsErr k sz st g sh t = er) (h0 : er ≠ 0) (w : World) :
    Calls Try.prog 4 #[.agg #[.int .i64 k, .int .i64 sz, .int .i64 st, .int .i64 g, .int .i64 sh], .int .i64 t] w fun e w' => e = .returned (.bool true) ∧ Below w.heap.size w w' := by
  have hl : windowsOf k sz st g sh t = [] := by rw [windowsOf, her, if_neg h0]
  have h1 := fun W => Windows_any k sz st g sh t W
  have h2 := fun W => refWindows_any k sz st g sh t W
  rw [her, hl] at h1 h2
  have H1 := Lib.hid h1
  have H2 := Lib.hid h2
  have hne : (er != 0) = true := by rw [bne_iff_ne]; exact h0
  clear h1 h2 her hl h0
  go_enter Try.func4, Try.ntmps4
  go_wp2_with fail
  refine (H1.out _).mono ?_
  rintro e w1 ⟨v1, rfl, hr1, hb1⟩
  have c0 : SpecAt w1 w.heap.size k sz st g sh := SpecAt.below (n₀ := w.heap.size + 1) ⟨by go_simp, by go_simp, by go_simp, by go_simp, by go_simp⟩ (hb1.mono (by simp)) (by omega)
  obtain ⟨c0, c1, c2, c3, c4⟩ := c0
  have hB1 : Below w.heap.size w w1 := ((Below.refl _ _).alloc (Nat.le_refl _) _).trans (hb1.mono (by simp))
  go_wp2_with fail
  refine (H2.out _).mono ?_
  rintro e w2 ⟨v2, rfl, hr2, hb2⟩
  have hr1' := owns_below hr1 hb2
  go_wp2_with fail
  refine (Same_any v1 v2 [] [] w2 (rowIs_of_owns hr1') (rowIs_of_owns hr2)).mono ?_
  rintro e w3 ⟨rfl, hd⟩
  have hb3 := hd.below w2.heap.size
  have hB3 : Below w.heap.size w w3 := hB1.trans ((hb2.mono hB1.size).trans (hb3.mono (Nat.le_trans hB1.size hb2.size)))
  obtain ⟨p, cap, rfl⟩ : ∃ p cap, v1 = .slice p 0 cap := by
    rcases hr1.2 with ⟨rfl, _⟩ | ⟨gb, cap, _, rfl, _⟩
    · exact ⟨none, 0, rfl⟩
    · exact ⟨some ⟨gb, 0, none⟩, cap, rfl⟩
  clear hd hb1 hb2 hb3 hr1 hr2 hr1' hB1
  go_wp2_with fail
  refine (awake_any w3).mono ?_
  rintro e w4 ⟨rfl, hb4⟩
  go_wp2_with fail
  go_ret
  exact ⟨rfl, hB3.trans (hb4.mono hB3.size)⟩

set_option maxRecDepth 100000 in
set_option maxHeartbeats 4000000 in
theorem walk_good (k sz st g sh t : Int) (hp : specP k sz st g sh) (ht : -1000000000000 ≤ t) (ht' : t ≤ 1000000000000) (her : windowsErr k sz st g sh t = 0) (w : World) :
    Calls Try.prog 4 #[.agg #[.int .i64 k, .int .i64 sz, .int .i64 st, .int .i64 g, .int .i64 sh], .int .i64 t] w fun e w' => e = .returned (.bool true) ∧ Below w.heap.size w w' := by
  have hl : windowsOf k sz st g sh t = windowsAt k sz st g sh t := by rw [windowsOf, if_pos her]
  have hF := winFacts k sz st g sh t hp ht ht'
  have h1 := fun W => Windows_any k sz st g sh t W
  have h2 := fun W => refWindows_any k sz st g sh t W
  rw [her, hl] at h1 h2
  have H1 := Lib.hid h1
  have H2 := Lib.hid h2
  clear h1 h2 her hl
  generalize windowsAt k sz st g sh t = xs at *
  have hn1 : xs ≠ [] := fun h => by have := hF.pos; rw [h] at this; simp at this
  have hsm := hF.small
  have HF := Lib.hid hF
  have HN := Lib.hid hn1
  clear hF hn1
  go_enter Try.func4, Try.ntmps4
  go_wp2_with fail
  refine (H1.out _).mono ?_
  rintro e w1 ⟨v1, rfl, hr1, hb1⟩
  have c0 : SpecAt w1 w.heap.size k sz st g sh := SpecAt.below (n₀ := w.heap.size + 1) ⟨by go_simp, by go_simp, by go_simp, by go_simp, by go_simp⟩ (hb1.mono (by simp)) (by omega)
  have hB1 : Below w.heap.size w w1 := ((Below.refl _ _).alloc (Nat.le_refl _) _).trans (hb1.mono (by simp))
  have hw1 : w.heap.size < w1.heap.size := by have := hb1.size; simp at this; omega
  have HS := Lib.hid c0
  obtain ⟨c0, c1, c2, c3, c4⟩ := c0
  go_wp2_with fail
  refine (H2.out _).mono ?_
  rintro e w2 ⟨v2, rfl, hr2, hb2⟩
  have hr1' := owns_below hr1 hb2
  go_wp2_with fail
  refine (Same_any v1 v2 xs xs w2 (rowIs_of_owns hr1') (rowIs_of_owns hr2)).mono ?_
  rintro e w3 ⟨rfl, hd⟩
  have hb3 := hd.below w2.heap.size
  have hr3 := owns_below hr1' hb3
  have hB3 : Below w1.heap.size w1 w3 := hb2.trans (hb3.mono hb2.size)
  obtain ⟨gb, cap, rfl, hgb, hRA⟩ := owns_form hr3 HN.out
  have HRA := Lib.hid hRA
  have hdec : decide (xs = xs) = true := decide_eq_true rfl
  clear hd hb1 hb2 hb3 hr1 hr2 hr1' hr3 hRA c0 c1 c2 c3 c4
  go_wp2_with fail
  have keepS : ∀ (u v : World), Below w3.heap.size w3 u → Below u.heap.size u v → Below w3.heap.size w3 v := fun u v h1 h2 => h1.trans (h2.mono h1.size)
  have HK := Lib.hid keepS
  clear keepS
  have hW0 : Below w3.heap.size w3 w3 := Below.refl _ _
  go_loopw [9] (fun s wr => ∃ i : Nat, i ≤ xs.length ∧ s = .int .i64 i ∧ Below w3.heap.size w3 wr) (fun s _ => xs.length - (intOf s).toNat)
  case atStart => exact ⟨0, Nat.zero_le _, rfl, hW0⟩
  case round =>
    obtain ⟨i, hi, rfl, hBr⟩ := hrel
    by_cases hlt : i < xs.length
    · obtain ⟨g0, g1⟩ := HRA.out i hlt
      have hin := HF.out.inside i hlt
      cases i with
      | zero =>
        simp only [Nat.zero_mul, Nat.zero_add] at g0 g1
        generalize (xs[0]?.getD (0, 0)).1 = x0 at *
        generalize (xs[0]?.getD (0, 0)).2 = x1 at *
        have hS : ∀ w' : World, Below w3.heap.size w3 w' → (Below w3.heap.size w3 w' ∧ w'.cell? ⟨gb, 0, none⟩ = some (.int .i64 x0) ∧ w'.cell? ⟨gb, 1, none⟩ = some (.int .i64 x1)) := fun w' hb => ⟨hb, (hb.cell (p := ⟨gb, 0, none⟩) hgb).trans g0, (hb.cell (p := ⟨gb, 1, none⟩) hgb).trans g1⟩
        have HS1 := Lib.hid hS
        clear hS g0 g1
        have hl0 : (0 : Int) < (xs.length : Int) := by omega
        go_wp2_with fail
        refine wp_region_held_drew (S := fun w' => Below w3.heap.size w3 w' ∧ w'.cell? ⟨gb, 0, none⟩ = some (.int .i64 x0) ∧ w'.cell? ⟨gb, 1, none⟩ = some (.int .i64 x1)) (by kernel_rfl) (HS1.out _ hBr.drew) (fun hHeld => ?_)
        refine wpAnyH_take (i := 0) (oi := _) (v := ?_) rfl (by kernel_rfl) (by kernel_rfl) (by kernel_rfl) (fun _ _ _ h => h) (Or.inl ⟨by rfl, ?_⟩) (by assumption) ?_
        rotate_left
        · intro w hSw
          try dsimp only at hSw
          go_simp
          all_goals with_reducible rfl
        simp only [List.getElem_toArray, List.getElem_cons_succ, List.getElem_cons_zero, Act.put, List.setIfInBounds_toArray, List.set_cons_zero, List.set_cons_succ]
        refine wpAnyH_take (i := 1) (oi := _) (v := ?_) rfl (by kernel_rfl) (by kernel_rfl) (by kernel_rfl) (fun _ _ _ h => h) (Or.inl ⟨by rfl, ?_⟩) (by assumption) ?_
        rotate_left
        · intro w hSw
          try dsimp only at hSw
          go_simp
          all_goals with_reducible rfl
        simp only [List.getElem_toArray, List.getElem_cons_succ, List.getElem_cons_zero, Act.put, List.setIfInBounds_toArray, List.set_cons_zero, List.set_cons_succ]
        refine wpAnyH_take (i := 2) (oi := _) (v := ?_) rfl (by kernel_rfl) (by kernel_rfl) (by kernel_rfl) (fun _ _ _ h => h) (Or.inl ⟨by rfl, ?_⟩) (by assumption) ?_
        rotate_left
        · intro w hSw
          try dsimp only at hSw
          go_simp
          all_goals with_reducible rfl
        simp only [List.getElem_toArray, List.getElem_cons_succ, List.getElem_cons_zero, Act.put, List.setIfInBounds_toArray, List.set_cons_zero, List.set_cons_succ]
        refine wpAnyH_take (i := 3) (oi := _) (v := ?_) rfl (by kernel_rfl) (by kernel_rfl) (by kernel_rfl) (fun _ _ _ h => h) (Or.inl ⟨by rfl, ?_⟩) (by assumption) ?_
        rotate_left
        · intro w hSw
          try dsimp only at hSw
          go_simp
          all_goals with_reducible rfl
        simp only [List.getElem_toArray, List.getElem_cons_succ, List.getElem_cons_zero, Act.put, List.setIfInBounds_toArray, List.set_cons_zero, List.set_cons_succ]
        refine wpAnyH_take (i := 4) (oi := _) (v := ?_) rfl (by kernel_rfl) (by kernel_rfl) (by kernel_rfl) (fun _ _ _ h => h) (Or.inl ⟨by rfl, ?_⟩) (by assumption) ?_
        rotate_left
        · intro w hSw
          try dsimp only at hSw
          go_simp
          all_goals with_reducible rfl
        simp only [List.getElem_toArray, List.getElem_cons_succ, List.getElem_cons_zero, Act.put, List.setIfInBounds_toArray, List.set_cons_zero, List.set_cons_succ]
        refine wpAnyH_ready (rs := [5]) (by kernel_rfl) (by simp) ?_
        refine AllReadyH.cons (o := _) rfl (fun K hK => ?_) AllReadyH.nil
        go_simp
        refine (contains_b _ _ _ _).mono ?_
        rintro e w' ⟨rfl, hb⟩
        refine hK.out _ _ (HS1.out _ (HK.out _ _ hHeld.1 hb)) (fun hHeld2 => ?_)
        clear hK K
        try simp only [List.getElem_toArray, List.getElem_cons_succ, List.getElem_cons_zero, Act.put, List.setIfInBounds_toArray, List.set_cons_zero, List.set_cons_succ]
        refine wpAnyH_take (i := 6) (oi := _) (v := ?_) rfl (by kernel_rfl) (by kernel_rfl) (by kernel_rfl) (fun _ _ _ h => h) (Or.inl ⟨by rfl, ?_⟩) (by assumption) ?_
        rotate_left
        · intro w hSw
          try dsimp only at hSw
          go_simp
          all_goals with_reducible rfl
        simp only [List.getElem_toArray, List.getElem_cons_succ, List.getElem_cons_zero, Act.put, List.setIfInBounds_toArray, List.set_cons_zero, List.set_cons_succ]
        refine wpAnyH_take (i := 7) (oi := _) (v := ?_) rfl (by kernel_rfl) (by kernel_rfl) (by kernel_rfl) (fun _ _ _ h => h) (Or.inl ⟨by rfl, ?_⟩) (by assumption) ?_
        rotate_left
        · intro w hSw
          try dsimp only at hSw
          go_simp
          all_goals with_reducible rfl
        simp only [List.getElem_toArray, List.getElem_cons_succ, List.getElem_cons_zero, Act.put, List.setIfInBounds_toArray, List.set_cons_zero, List.set_cons_succ]
        refine wpAnyH_take (i := 8) (oi := _) (v := ?_) rfl (by kernel_rfl) (by kernel_rfl) (by kernel_rfl) (fun _ _ _ h => h) (Or.inl ⟨by rfl, ?_⟩) (by assumption) ?_
        rotate_left
        · intro w hSw
          try dsimp only at hSw
          go_simp
          all_goals with_reducible rfl
        simp only [List.getElem_toArray, List.getElem_cons_succ, List.getElem_cons_zero, Act.put, List.setIfInBounds_toArray, List.set_cons_zero, List.set_cons_succ]
        refine wpAnyH_take (i := 9) (oi := _) (v := ?_) rfl (by kernel_rfl) (by kernel_rfl) (by kernel_rfl) (fun _ _ _ h => h) (Or.inl ⟨by rfl, ?_⟩) (by assumption) ?_
        rotate_left
        · intro w hSw
          try dsimp only at hSw
          go_simp
          all_goals with_reducible rfl
        simp only [List.getElem_toArray, List.getElem_cons_succ, List.getElem_cons_zero, Act.put, List.setIfInBounds_toArray, List.set_cons_zero, List.set_cons_succ]
        refine wpAnyH_take (i := 10) (oi := _) (v := ?_) rfl (by kernel_rfl) (by kernel_rfl) (by kernel_rfl) (fun _ _ _ h => h) (Or.inl ⟨by rfl, ?_⟩) (by assumption) ?_
        rotate_left
        · intro w hSw
          try dsimp only at hSw
          go_simp
          all_goals with_reducible rfl
        simp only [List.getElem_toArray, List.getElem_cons_succ, List.getElem_cons_zero, Act.put, List.setIfInBounds_toArray, List.set_cons_zero, List.set_cons_succ]
        refine wpAnyH_take (i := 11) (oi := _) (v := undef) rfl (by kernel_rfl) (by kernel_rfl) (by kernel_rfl) (fun _ _ _ h => h) (Or.inr ⟨by rfl, rfl⟩) (by assumption) ?_
        simp only [List.getElem_toArray, List.getElem_cons_succ, List.getElem_cons_zero, Act.put, List.setIfInBounds_toArray, List.set_cons_zero, List.set_cons_succ]
        refine wpAnyH_take (i := 12) (oi := _) (v := undef) rfl (by kernel_rfl) (by kernel_rfl) (by kernel_rfl) (fun _ _ _ h => h) (Or.inr ⟨by rfl, rfl⟩) (by assumption) ?_
        simp only [List.getElem_toArray, List.getElem_cons_succ, List.getElem_cons_zero, Act.put, List.setIfInBounds_toArray, List.set_cons_zero, List.set_cons_succ]
        refine wpAnyH_take (i := 13) (oi := _) (v := undef) rfl (by kernel_rfl) (by kernel_rfl) (by kernel_rfl) (fun _ _ _ h => h) (Or.inr ⟨by rfl, rfl⟩) (by assumption) ?_
        simp only [List.getElem_toArray, List.getElem_cons_succ, List.getElem_cons_zero, Act.put, List.setIfInBounds_toArray, List.set_cons_zero, List.set_cons_succ]
        refine wpAnyH_take (i := 14) (oi := _) (v := undef) rfl (by kernel_rfl) (by kernel_rfl) (by kernel_rfl) (fun _ _ _ h => h) (Or.inr ⟨by rfl, rfl⟩) (by assumption) ?_
        simp only [List.getElem_toArray, List.getElem_cons_succ, List.getElem_cons_zero, Act.put, List.setIfInBounds_toArray, List.set_cons_zero, List.set_cons_succ]
        refine wpAnyH_take (i := 15) (oi := _) (v := undef) rfl (by kernel_rfl) (by kernel_rfl) (by kernel_rfl) (fun _ _ _ h => h) (Or.inr ⟨by rfl, rfl⟩) (by assumption) ?_
        simp only [List.getElem_toArray, List.getElem_cons_succ, List.getElem_cons_zero, Act.put, List.setIfInBounds_toArray, List.set_cons_zero, List.set_cons_succ]
        refine wpAnyH_take (i := 16) (oi := _) (v := undef) rfl (by kernel_rfl) (by kernel_rfl) (by kernel_rfl) (fun _ _ _ h => h) (Or.inr ⟨by rfl, rfl⟩) (by assumption) ?_
        simp only [List.getElem_toArray, List.getElem_cons_succ, List.getElem_cons_zero, Act.put, List.setIfInBounds_toArray, List.set_cons_zero, List.set_cons_succ]
        refine wpAnyH_take (i := 17) (oi := _) (v := undef) rfl (by kernel_rfl) (by kernel_rfl) (by kernel_rfl) (fun _ _ _ h => h) (Or.inr ⟨by rfl, rfl⟩) (by assumption) ?_
        simp only [List.getElem_toArray, List.getElem_cons_succ, List.getElem_cons_zero, Act.put, List.setIfInBounds_toArray, List.set_cons_zero, List.set_cons_succ]
        refine wpAnyH_take (i := 18) (oi := _) (v := undef) rfl (by kernel_rfl) (by kernel_rfl) (by kernel_rfl) (fun _ _ _ h => h) (Or.inr ⟨by rfl, rfl⟩) (by assumption) ?_
        simp only [List.getElem_toArray, List.getElem_cons_succ, List.getElem_cons_zero, Act.put, List.setIfInBounds_toArray, List.set_cons_zero, List.set_cons_succ]
        refine wpAnyH_take (i := 19) (oi := _) (v := undef) rfl (by kernel_rfl) (by kernel_rfl) (by kernel_rfl) (fun _ _ _ h => h) (Or.inr ⟨by rfl, rfl⟩) (by assumption) ?_
        simp only [List.getElem_toArray, List.getElem_cons_succ, List.getElem_cons_zero, Act.put, List.setIfInBounds_toArray, List.set_cons_zero, List.set_cons_succ]
        refine wpAnyH_take (i := 20) (oi := _) (v := undef) rfl (by kernel_rfl) (by kernel_rfl) (by kernel_rfl) (fun _ _ _ h => h) (Or.inr ⟨by rfl, rfl⟩) (by assumption) ?_
        simp only [List.getElem_toArray, List.getElem_cons_succ, List.getElem_cons_zero, Act.put, List.setIfInBounds_toArray, List.set_cons_zero, List.set_cons_succ]
        refine wpAnyH_take (i := 21) (oi := _) (v := undef) rfl (by kernel_rfl) (by kernel_rfl) (by kernel_rfl) (fun _ _ _ h => h) (Or.inr ⟨by rfl, rfl⟩) (by assumption) ?_
        simp only [List.getElem_toArray, List.getElem_cons_succ, List.getElem_cons_zero, Act.put, List.setIfInBounds_toArray, List.set_cons_zero, List.set_cons_succ]
        refine wpAnyH_take (i := 22) (oi := _) (v := ?_) rfl (by kernel_rfl) (by kernel_rfl) (by kernel_rfl) (fun _ _ _ h => h) (Or.inl ⟨by rfl, ?_⟩) (by assumption) ?_
        rotate_left
        · intro w hSw
          try dsimp only at hSw
          go_simp
          all_goals with_reducible rfl
        simp only [List.getElem_toArray, List.getElem_cons_succ, List.getElem_cons_zero, Act.put, List.setIfInBounds_toArray, List.set_cons_zero, List.set_cons_succ]
        refine wpAnyH_take (i := 23) (oi := _) (v := ?_) rfl (by kernel_rfl) (by kernel_rfl) (by kernel_rfl) (fun _ _ _ h => h) (Or.inl ⟨by rfl, ?_⟩) (by assumption) ?_
        rotate_left
        · intro w hSw
          try dsimp only at hSw
          go_simp
          all_goals with_reducible rfl
        simp only [List.getElem_toArray, List.getElem_cons_succ, List.getElem_cons_zero, Act.put, List.setIfInBounds_toArray, List.set_cons_zero, List.set_cons_succ]
        refine wpAnyH_done (by kernel_rfl) ?_ _
        go_wp2_with fail
        exact ⟨⟨1, by omega, rfl, hHeld2.1⟩, by simp [intOf]; omega⟩
      | succ j =>
        obtain ⟨e0, e1⟩ := HRA.out j (by omega)
        have hso := HF.out.sorted j hlt
        simp only [Nat.zero_add] at g0 g1 e0 e1
        generalize (xs[j + 1]?.getD (0, 0)).1 = x0 at *
        generalize (xs[j + 1]?.getD (0, 0)).2 = x1 at *
        generalize (xs[j]?.getD (0, 0)).1 = y0 at *
        generalize (xs[j]?.getD (0, 0)).2 = y1 at *
        have hS : ∀ w' : World, Below w3.heap.size w3 w' → (Below w3.heap.size w3 w' ∧ w'.cell? ⟨gb, (j + 1) * 2, none⟩ = some (.int .i64 x0) ∧ w'.cell? ⟨gb, (j + 1) * 2 + 1, none⟩ = some (.int .i64 x1) ∧ w'.cell? ⟨gb, j * 2, none⟩ = some (.int .i64 y0) ∧ w'.cell? ⟨gb, j * 2 + 1, none⟩ = some (.int .i64 y1)) := fun w' hb => ⟨hb, (hb.cell (p := ⟨gb, (j + 1) * 2, none⟩) hgb).trans g0, (hb.cell (p := ⟨gb, (j + 1) * 2 + 1, none⟩) hgb).trans g1, (hb.cell (p := ⟨gb, j * 2, none⟩) hgb).trans e0, (hb.cell (p := ⟨gb, j * 2 + 1, none⟩) hgb).trans e1⟩
        have HS1 := Lib.hid hS
        clear hS g0 g1 e0 e1
        have hj0 : (0 : Int) ≤ (j : Int) := by omega
        have hj1 : (j : Int) < (xs.length : Int) := by omega
        have hj2 : (0 : Int) ≤ (j : Int) + 1 := by omega
        have hj3 : (j : Int) + 1 < (xs.length : Int) := by omega
        have hj4 : (0 : Int) < (j : Int) + 1 := by omega
        have hq1 : IntKind.i64.wrap (j : Int) = (j : Int) := IntWalk.i64_in _ (by omega)
        go_wp2_with fail
        go_region_held3 (fun w' => Below w3.heap.size w3 w' ∧ w'.cell? ⟨gb, (j + 1) * 2, none⟩ = some (.int .i64 x0) ∧ w'.cell? ⟨gb, (j + 1) * 2 + 1, none⟩ = some (.int .i64 x1) ∧ w'.cell? ⟨gb, j * 2, none⟩ = some (.int .i64 y0) ∧ w'.cell? ⟨gb, j * 2 + 1, none⟩ = some (.int .i64 y1)) (first | exact HS1.out _ (HK.out _ _ (by assumption) (by assumption)) | exact HS1.out _ (HK.out _ _ (And.left (by assumption)) (by assumption)) | exact HS1.out _ (Below.drew (by assumption)) | exact HS1.out _ (Below.drew (And.left (by assumption))) | assumption)
          (first
          | (go_at_call 16; refine (contains_b _ _ _ _).mono ?_; rintro e w' ⟨rfl, hb⟩)
          | (go_at_call 20; refine (compare_b _ _ _ _ _).mono ?_; rintro e w' ⟨rfl, hb⟩))
        all_goals go_wp2_with fail
        refine ⟨⟨j + 2, by omega, by rw [show ((j : Int) + 1 + 1) = ((j + 2 : Nat) : Int) by omega], ?_⟩, by simp [intOf]; omega⟩
        first | assumption | exact And.left (by assumption)
    · have hie : i = xs.length := by omega
      have hgx : xs.length ≤ i := by omega
      have hBw : Below w1.heap.size w1 wr := hB3.trans (hBr.mono hB3.size)
      have hBt : Below w.heap.size w wr := hB1.trans (hBw.mono hB1.size)
      obtain ⟨c0, c1, c2, c3, c4⟩ := HS.out.below hBw hw1
      by_cases hk2 : k = 2
      · subst hk2
        have htwo := HF.out.two rfl
        obtain ⟨hst1, hst2, hsz1, hsz2⟩ : 1 ≤ st ∧ st ≤ 1000000000 ∧ 1 ≤ sz ∧ sz ≤ 1000000000 := by unfold specP at hp; omega
        clear hie hp
        by_cases hq : (xs.length : Int) = sz / st
        · have hq' : ((xs.length : Int) == sz / st) = true := beq_iff_eq.2 hq
          clear hq htwo
          go_wp2_with fail
          refine (awake_any _).mono ?_
          rintro e w5 ⟨rfl, hb5⟩
          go_wp2_with fail
          go_ret
          exact ⟨rfl, hBt.trans (hb5.mono hBt.size)⟩
        · have hq' : ((xs.length : Int) == sz / st) = false := beq_eq_false_iff_ne.2 hq
          have hq2 : ((xs.length : Int) == (sz + st - 1) / st) = true := beq_iff_eq.2 (htwo.resolve_left hq)
          clear hq htwo
          go_wp2_with fail
          refine (awake_any _).mono ?_
          rintro e w5 ⟨rfl, hb5⟩
          go_wp2_with fail
          go_ret
          exact ⟨rfl, hBt.trans (hb5.mono hBt.size)⟩
      · have hone := HF.out.one hk2
        have hk2' : (k == 2) = false := beq_eq_false_iff_ne.2 hk2
        have ho : ((xs.length : Int) == 1) = true := by rw [hone]; rfl
        clear hie hone hp hk2
        go_wp2_with fail
        refine (awake_any _).mono ?_
        rintro e w5 ⟨rfl, hb5⟩
        go_wp2_with fail
        go_ret
        exact ⟨rfl, hBt.trans (hb5.mono hBt.size)⟩

theorem walk (k sz st g sh t : Int) (w : World) :
    Calls Try.prog 4 #[.agg #[.int .i64 k, .int .i64 sz, .int .i64 st, .int .i64 g, .int .i64 sh], .int .i64 t] w fun e w' => e = .returned (.bool true) ∧ Below w.heap.size w w' := by
  by_cases h : windowsErr k sz st g sh t = 0
  · have h1 : specOK k sz st g sh = true := by
      unfold windowsErr at h
      by_cases hh : specOK k sz st g sh = false
      · rw [if_pos hh] at h; omega
      · simpa using hh
    have h2 : inR t (-1000000000000) 1000000000000 = true := by
      unfold windowsErr at h
      rw [if_neg (by simp [h1])] at h
      by_cases hh : inR t (-1000000000000) 1000000000000 = false
      · rw [if_pos hh] at h; omega
      · simpa using hh
    have ht := (inR_iff _ _ _).1 h2
    exact walk_good k sz st g sh t ((specOK_iff _ _ _ _ _).1 h1) ht.1 ht.2 h w
  · exact walk_bad k sz st g sh t _ rfl h w

set_option maxRecDepth 100000 in
theorem lifted (os : Os) (started : os.Started) (H : Type) (enc : TypeId × Value → H) :
    ReturnsInHanded {} Try.checked os 4 .any (Rows.clockWindowsSpec.pre6 enc Try.prog Try.f4 Rows.clockWindowsRow.domain false) (Rows.clockWindowsSpec.post enc Try.prog Try.f4 false true false false) := by
  refine returnsInHanded_of_change (C := Try.checked) own started (by kernel_rfl) Try.func4
    (ChangeSpec.witness6 (enc := enc) (C := Try.checked) false ⟨#[], #[.agg #[.int .i64 0, .int .i64 0, .int .i64 0, .int .i64 0, .int .i64 0], .int .i64 0], []⟩ 8 (by kernel_rfl) (by kernel_rfl) (by kernel_rfl) (by kernel_rfl)) ?_
  intro W base args ds gs before hval0 hW hcnd _
  have hval : ∀ (j : Nat) t v, Try.f4.params[j]? = some t → args[j]? = some v → Value.okWide Try.prog W .any base t v := hval0
  have hW' := hW
  obtain ⟨p, q, hA0, hV, rfl, hfz, hnd⟩ := hW
  have hA : DataW.TrodAll enc Try.prog W 0 (fun _ => true) true Try.f4.params.toList args.toList ds p := hA0
  rw [Try.params4] at hA hval
  obtain ⟨rfl, rfl⟩ := trodVars_none hV
  have hA' := hA
  obtain ⟨v0, vs0, d0, ds0, p0, q0, hargs, rfl, rfl, h0, r0⟩ := trodAll_cons hA
  obtain ⟨v1, vs1, d1, ds1, p1, q1, rfl, rfl, rfl, h1, r1⟩ := trodAll_cons r0
  obtain ⟨rfl, rfl, rfl⟩ := trodAll_nil r1
  obtain rfl : args = #[v0, v1] := by cases args; simp_all
  obtain ⟨k, sz, st, g, sh, rfl⟩ := open_spec (hval 0 _ v0 rfl rfl)
  obtain ⟨t, rfl⟩ := okWide_int Try.underlying3 (hval 1 3 v1 rfl rfl)
  clear hA0 hval0
  refine (walk k sz st g sh t W).mono fun e W' ⟨he, hg⟩ => ?_
  subst he
  exact ⟨_, rfl, _, _, _, [], _, [], hW', trodAll_mk1 (shut_bool Try.underlying4 true), trodAll_below laidOut hg (by decide +kernel) hA' (fun x hx => by simpa using hW'.lt x (by simpa using hx)), rfl, hg.frame _, fun h => by cases h⟩

theorem over : Rows.clockWindowsRow.holds Try.pinned (OpenSpec.ofChange Rows.clockWindowsSpec) :=
  OpenClaim.holds_of_wide 4 Try.f4 rfl rfl rfl rfl rfl rfl rfl ⟨rfl, rfl, rfl, rfl, rfl⟩ rfl rfl rfl rfl rfl (by kernel_rfl) Try.func4 (by kernel_rfl)
    (of_decide_eq_true (by kernel_rfl)) (by unfold Func.isWrapper; first | (rw [if_pos (by decide +kernel)]; kernel_rfl) | (rw [if_neg (by decide +kernel)]; exact ⟨rfl, rfl⟩))
    (fun os started H enc _ => lifted os started H enc)

theorem proved : Rows.ClockWindowsSaid :=
  over
end Go.Proofs.Ytbiaalpnabkkfaa.clockWindows
