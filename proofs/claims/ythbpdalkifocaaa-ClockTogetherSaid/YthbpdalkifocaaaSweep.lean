/-
  clock's 'merged': the sweep over the ascending windows.
-/
import Derived.Test.YthbpdalkifocaaaSorted
import Derived.Test.YthbpdalkifocaaaMergedW
namespace Go.Proofs.Ythbpdalkifocaaa
open Go.RowKit

theorem sweep_take {zs : List Win} {j : Nat} (h : j < zs.length) : sweep (zs.take (j + 1)) = sweep1 (sweep (zs.take j)) (zs[j]?.getD (0, 0)) := by
  unfold sweep
  rw [List.take_succ_eq_append_getElem h, List.foldl_append]
  simp [h]

theorem sweep1_some {left : List Win} {r w : Win} : sweep1 (left ++ [r]) w = if touches r.1 r.2 w.1 w.2 = true then left ++ [(r.1, max r.2 w.2)] else (left ++ [r]) ++ [w] := by
  unfold sweep1
  simp

theorem flatW_append (a b : List (Int × Int)) : flatW (a ++ b) = flatW a ++ flatW b := by simp [flatW]

/-- A store into the last window's end. -/
theorem owns_setLast {W : World} {base gb m cap : Nat} {t : TypeId} {ys : List (Int × Int)} {c d : Int} (e : Int) (hm : ys.length = m) (h : W.ownsRow base t 2 (.slice (some ⟨gb, 0, none⟩) (m + 1) cap) (m + 1) (flatW (ys ++ [(c, d)]))) :
    (W.setCell ⟨gb, m * 2 + 1, none⟩ (.int .i64 e)).ownsRow base t 2 (.slice (some ⟨gb, 0, none⟩) (m + 1) cap) (m + 1) (flatW (ys ++ [(c, e)])) := by
  obtain ⟨hl, hr⟩ := h
  rcases hr with ⟨h0, _⟩ | ⟨g', cap', cur, hv, hg, hb, h1, h2, h3, h4⟩
  · cases h0
  · simp only [Value.slice.injEq, Option.some.injEq, Addr.mk.injEq] at hv
    obtain ⟨⟨rfl, _, _⟩, _, rfl⟩ := hv
    refine ⟨by rw [flatW_len]; simp [hm], .inr ⟨gb, cap, cur.setIfInBounds (m * 2 + 1) (.int .i64 e), rfl, hg, ?_, h1, h2, by simp [h3], ?_⟩⟩
    · obtain ⟨hlt, hk⟩ := Array.getElem?_eq_some_iff.1 hb
      show (W.heap.modify gb _)[gb]? = _
      rw [Array.getElem?_eq_getElem (by rw [Array.size_modify]; exact hlt), Array.getElem_modify_self, hk]
      rfl
    · rw [Array.toList_setIfInBounds, List.take_set, h4, flatW_append, flatW_append]
      rw [List.set_append, if_neg (by rw [flatW_len]; omega)]
      have : m * 2 + 1 - (flatW ys).length = 1 := by rw [flatW_len]; omega
      rw [this]
      rfl

theorem slice_of_owns {W : World} {base n : Nat} {e : TypeId} {size : Nat} {v : Value} {xs : List Value} (h : W.ownsRow base e size v n xs) : ∃ p cap, v = .slice p n cap := by
  rcases h.2 with ⟨rfl, rfl⟩ | ⟨g, cap, cur, rfl, _⟩
  · exact ⟨_, _, rfl⟩
  · exact ⟨_, _, rfl⟩

theorem frozen_of_owns {W : World} {base gb n k cap : Nat} {t : TypeId} {size : Nat} {xs : List Value} (h : W.ownsRow base t size (.slice (some ⟨gb, 0, none⟩) n cap) k xs) (i : Nat) : W.frozen? ⟨gb, i, none⟩ = false := by
  rcases h.2 with ⟨h0, _⟩ | ⟨g', cap', cur, hv, hg, hb, _⟩
  · cases h0
  · simp only [Value.slice.injEq, Option.some.injEq, Addr.mk.injEq] at hv
    obtain ⟨⟨rfl, _, _⟩, _, _⟩ := hv
    simp [World.frozen?, hb]

set_option maxRecDepth 100000 in
set_option maxHeartbeats 8000000 in
theorem merged_in (n : Nat) (hn : 2 ≤ n) (gf : Nat) (lb : Array Value) (eg : ∀ args w, (callFunc gf args).run Try.prog w = .ok (.enter gf args) w) (n₀ : Nat) (S Sp : List (Int × Int) → Prop) (N : Nat)
    (hN : N ≤ maxLen) (hNb : N * 16 ≤ 140737488355328) (hSN : ∀ xs, S xs → xs.length ≤ 10000) (w : World) (hn₀ : n₀ ≤ w.heap.size) (hseq : SeqStopsK Fence.wide (n - 1 - 1) Try.prog gf lb encW (Below n₀) S Sp N w) :
    Calls Try.prog 20 #[.func (.func gf) #[] lb, .func (.func 11) #[] #[]] w fun e w' =>
      ∃ v xs zs, e = .returned v ∧ S xs ∧ zs.Perm xs ∧ Asc zs ∧ (sweep zs).length ≤ xs.length ∧ w'.ownsRow w.heap.size 31 2 v (sweep zs).length (flatW (sweep zs)) ∧ Below w.heap.size w w' := by
  obtain ⟨i0, hi, hz0, hz1, hz2⟩ := info_parts infoW
  have hc := Lib.hid (sortedFunc_in n hn gf lb eg n₀ S Sp N hN hNb (fun xs h => by have := hSN xs h; omega) w hn₀ hseq)
  have HT := Lib.hid fun (a b c d : Int) (V : World) => clkTouch_any a b c d V
  have HSN := Lib.hid hSN
  clear hseq hSN
  go_enter Try.func20, Try.ntmps20
  go_wp2_with (go_at_call 36; refine hc.out.mono ?_; rintro e w1 ⟨v, xs, zs, rfl, hS, hperm, hasc, hzl, hrow1, hB1⟩; rw [← hzl] at hrow1; obtain ⟨p1, cap1, rfl⟩ := slice_of_owns hrow1; have Hzl := Lib.hid hzl; clear hzl)
  have hzl := Hzl.out
  have hRI := rowIs_of_owns hrow1
  have hzn : zs.length ≤ 10000 := by rw [hzl]; exact HSN.out xs hS
  have hw1s := hB1.size
  have HR := Lib.hid hRI
  have HF := Lib.hid (And.intro hS (And.intro hperm (And.intro hasc hzl)))
  clear hrow1 hRI hS hperm hasc hzl
  rcases HR.out.2 with ⟨_, rfl⟩ | ⟨b1, o1, cap2, hsl, hRA⟩
  · clear HR
    refine wp_loop_rounds 1 ?_
    rw [rounds_succ]
    go_wp2_with fail
    go_ret
    obtain ⟨f1, f2, f3, f4⟩ := HF.out
    exact ⟨_, xs, [], rfl, f1, f2, f3, by simp [sweep], World.ownsRow_nil _ _ _ _, hB1⟩
  · have HRA := Lib.hid hRA
    simp only [Value.slice.injEq] at hsl
    obtain ⟨rfl, _, rfl⟩ := hsl
    clear HR hRA
    go_loopw [5, 12] (fun o x wr => ∃ (j : Nat) (ys : List (Int × Int)), j ≤ zs.length ∧ x = .int .i64 j ∧ Hid (ys = sweep (zs.take j)) ∧ ys.length ≤ j ∧ wr.ownsRow w1.heap.size 31 2 o ys.length (flatW ys) ∧ Below w1.heap.size w1 wr)
      (fun _ x _ => zs.length - (intOf x).toNat)
    case atStart =>
      exact ⟨0, [], Nat.zero_le _, rfl, (by show _ = _; simp [sweep]), by simp, World.ownsRow_nil _ _ _ _, Below.refl _ _⟩
    case round =>
      obtain ⟨wr, rfl⟩ : ∃ wm : World, wm = wr := ⟨_, rfl⟩
      obtain ⟨j, ys, hjn, rfl, hys, hyl, hrow, hB⟩ := hrel
      have hBs := hB.size
      by_cases hjl : j < zs.length
      · obtain ⟨g0, g1⟩ := (HRA.out.below hB (Nat.le_refl _)) j hjl
        have hst := sweep_take hjl
        rw [← hys.out] at hst
        have hj0 : (0 : Int) ≤ (j : Int) := by omega
        have hj1 : (j : Int) < (zs.length : Int) := by omega
        obtain ⟨x0, x1, hxe⟩ : ∃ x0 x1 : Int, zs[j]?.getD (0, 0) = (x0, x1) := ⟨_, _, rfl⟩
        rw [hxe] at g0 g1 hst
        simp only at g0 g1
        clear hxe hys
        rcases List.eq_nil_or_concat ys with rfl | ⟨ys', r, rfl⟩
        · obtain ⟨po, co, rfl⟩ := slice_of_owns hrow
          have hst' : Hid ([(x0, x1)] = sweep (zs.take (j + 1))) := by show _ = _; rw [hst]; simp [sweep1]
          clear hst
          go_wp2_with fail
          obtain ⟨W2, hW2⟩ : ∃ W2, wr.alloc (.cells #[.int .i64 x0, .int .i64 x1] 31) = W2 := ⟨_, rfl⟩
          have hbox : Blk W2 wr.heap.size 31 #[.int .i64 x0, .int .i64 x1] := by rw [← hW2]; exact Blk.new _ _ _
          have hrow2 := hrow.alloc (.cells #[.int .i64 x0, .int .i64 x1] 31)
          have hBw2 := hB.alloc hBs (.cells #[.int .i64 x0, .int .i64 x1] 31)
          rw [hW2] at hrow2 hBw2
          try rw [hW2]
          clear hW2 hrow hB
          have hwl := hbox.lt
          have hBr : Below W2.heap.size W2 W2 := Below.refl _ _
          refine wp_region_held_drew (S := fun w' => Below W2.heap.size W2 w') (by kernel_rfl) hBr.drew (fun hHeld => ?_)
          refine wpAnyH_take (i := 0) (oi := _) (v := ?_) rfl (by kernel_rfl) (by kernel_rfl) (by kernel_rfl) (fun _ _ _ h => h) (Or.inl ⟨by rfl, ?_⟩) (by assumption) ?_
          rotate_left
          · intro w hSw
            try dsimp only at hSw
            go_simp
            all_goals with_reducible rfl
          simp only [List.getElem_toArray, List.getElem_cons_zero, Act.put, List.setIfInBounds_toArray, List.set_cons_zero, List.set_cons_succ]
          refine wpAnyH_take (i := 1) (oi := _) (v := ?_) rfl (by kernel_rfl) (by kernel_rfl) (by kernel_rfl) (fun _ _ _ h => h) (Or.inl ⟨by rfl, ?_⟩) (by assumption) ?_
          rotate_left
          · intro w hSw
            try dsimp only at hSw
            go_simp
            all_goals with_reducible rfl
          simp only [List.getElem_toArray, List.getElem_cons_succ, List.getElem_cons_zero, Act.put, List.setIfInBounds_toArray, List.set_cons_zero, List.set_cons_succ]
          refine wpAnyH_take (i := 2) (oi := _) (v := ?_) rfl (by kernel_rfl) (by kernel_rfl) (by kernel_rfl) (fun _ _ _ h => h) (Or.inl ⟨by rfl, ?_⟩) (by assumption) ?_
          rotate_left
          · intro w hSw
            try dsimp only at hSw
            go_simp
            all_goals with_reducible rfl
          simp only [List.getElem_toArray, List.getElem_cons_succ, List.getElem_cons_zero, Act.put, List.setIfInBounds_toArray, List.set_cons_zero, List.set_cons_succ]
          refine wpAnyH_take (i := 3) (oi := _) (v := undef) rfl (by kernel_rfl) (by kernel_rfl) (by kernel_rfl) (fun _ _ _ h => h) (Or.inr ⟨by rfl, rfl⟩) (by assumption) ?_
          simp only [List.getElem_toArray, List.getElem_cons_succ, List.getElem_cons_zero, Act.put, List.setIfInBounds_toArray, List.set_cons_zero, List.set_cons_succ]
          refine wpAnyH_take (i := 4) (oi := _) (v := undef) rfl (by kernel_rfl) (by kernel_rfl) (by kernel_rfl) (fun _ _ _ h => h) (Or.inr ⟨by rfl, rfl⟩) (by assumption) ?_
          simp only [List.getElem_toArray, List.getElem_cons_succ, List.getElem_cons_zero, Act.put, List.setIfInBounds_toArray, List.set_cons_zero, List.set_cons_succ]
          refine wpAnyH_take (i := 5) (oi := _) (v := undef) rfl (by kernel_rfl) (by kernel_rfl) (by kernel_rfl) (fun _ _ _ h => h) (Or.inr ⟨by rfl, rfl⟩) (by assumption) ?_
          simp only [List.getElem_toArray, List.getElem_cons_succ, List.getElem_cons_zero, Act.put, List.setIfInBounds_toArray, List.set_cons_zero, List.set_cons_succ]
          refine wpAnyH_take (i := 6) (oi := _) (v := undef) rfl (by kernel_rfl) (by kernel_rfl) (by kernel_rfl) (fun _ _ _ h => h) (Or.inr ⟨by rfl, rfl⟩) (by assumption) ?_
          simp only [List.getElem_toArray, List.getElem_cons_succ, List.getElem_cons_zero, Act.put, List.setIfInBounds_toArray, List.set_cons_zero, List.set_cons_succ]
          refine wpAnyH_take (i := 7) (oi := _) (v := undef) rfl (by kernel_rfl) (by kernel_rfl) (by kernel_rfl) (fun _ _ _ h => h) (Or.inr ⟨by rfl, rfl⟩) (by assumption) ?_
          simp only [List.getElem_toArray, List.getElem_cons_succ, List.getElem_cons_zero, Act.put, List.setIfInBounds_toArray, List.set_cons_zero, List.set_cons_succ]
          refine wpAnyH_take (i := 8) (oi := _) (v := undef) rfl (by kernel_rfl) (by kernel_rfl) (by kernel_rfl) (fun _ _ _ h => h) (Or.inr ⟨by rfl, rfl⟩) (by assumption) ?_
          simp only [List.getElem_toArray, List.getElem_cons_succ, List.getElem_cons_zero, Act.put, List.setIfInBounds_toArray, List.set_cons_zero, List.set_cons_succ]
          refine wpAnyH_take (i := 9) (oi := _) (v := undef) rfl (by kernel_rfl) (by kernel_rfl) (by kernel_rfl) (fun _ _ _ h => h) (Or.inr ⟨by rfl, rfl⟩) (by assumption) ?_
          simp only [List.getElem_toArray, List.getElem_cons_succ, List.getElem_cons_zero, Act.put, List.setIfInBounds_toArray, List.set_cons_zero, List.set_cons_succ]
          refine wpAnyH_take (i := 10) (oi := _) (v := ?_) rfl (by kernel_rfl) (by kernel_rfl) (by kernel_rfl) (fun _ _ _ h => h) (Or.inl ⟨by rfl, ?_⟩) (by assumption) ?_
          rotate_left
          · intro w hSw
            try dsimp only at hSw
            go_simp
            all_goals with_reducible rfl
          simp only [List.getElem_toArray, List.getElem_cons_succ, List.getElem_cons_zero, Act.put, List.setIfInBounds_toArray, List.set_cons_zero, List.set_cons_succ]
          refine wpAnyH_done (by kernel_rfl) ?_ _
          have hbd : Blk W2.drew wr.heap.size 31 #[.int .i64 x0, .int .i64 x1] := hbox
          have hrd : W2.drew.ownsRow w1.heap.size 31 2 (.slice po ([] : List (Int × Int)).length co) ([] : List (Int × Int)).length (flatW []) := hrow2
          have hBd : Below w1.heap.size w1 W2.drew := hBw2.drew
          clear hHeld hBr hwl hBw2 hrow2 hbox
          generalize W2.drew = W7 at *
          have k0 := hbd.cell 0
          have k1 := hbd.cell 1
          have hds := hBd.size
          go_wp2_with (at_builtin; refine wpList_append_own _ rfl _ _ 22 rfl w1.heap.size 31 i0 (.agg #[.int .i64 0, .int .i64 0]) 2 16 Try.underlying22 hi hz0 hz1 hz2 rfl (by decide) _ _ _ rfl (hrd.alloc _) ⟨W7.heap.size, 0, none⟩ 1 1 (cellsW (x0, x1)) rfl rfl (cells_two_new _ _ _ _) (by simp [cellsW, Value.oneCell']) (by decide) (by decide) (by simp <;> omega) ?_; intro v' w5 hown' hgrow _; have hB5 : Below w1.heap.size w1 w5 := (hBd.alloc hds _).grown hgrow (by simp <;> omega) (fun k e => (hrd.lt k e).1))
          go_roundw
          case rel => exact ⟨j + 1, [(x0, x1)], by omega, by go_num, hst', by simp, hown', hB5⟩
          case measure => simp [intOf]; omega
        · obtain ⟨r0, r1⟩ := r
          obtain ⟨m, hm⟩ : ∃ m, ys'.length = m := ⟨_, rfl⟩
          have hlen : (ys'.concat (r0, r1)).length = m + 1 := by simp [hm]
          rw [hlen] at hrow hyl
          rw [List.concat_eq_append] at hrow hst hlen
          rcases hrow.2 with ⟨_, h0⟩ | ⟨gb, cap2, cur, rfl, hgb, hgc, hc1, hc2, hcs, hct⟩
          · omega
          have hgl : gb < wr.heap.size := (Array.getElem?_eq_some_iff.1 hgc).1
          have e01 : wr.cell? ⟨gb, m * 2, none⟩ = some (.int .i64 r0) ∧ wr.cell? ⟨gb, m * 2 + 1, none⟩ = some (.int .i64 r1) := by
            have hRI := rowIs_of_owns (xs := ys' ++ [(r0, r1)]) (by rw [hlen]; exact hrow)
            rcases hRI.2 with ⟨h, _⟩ | ⟨b', off', cp, he, hra⟩
            · cases h
            · simp only [Value.slice.injEq, Option.some.injEq, Addr.mk.injEq] at he
              obtain ⟨⟨rfl, rfl, _⟩, _, _⟩ := he
              have := hra m (by rw [hlen]; omega)
              have e : (ys' ++ [(r0, r1)])[m]?.getD (0, 0) = (r0, r1) := by rw [← hm]; simp
              rw [e, Nat.zero_add] at this
              exact this
          obtain ⟨e0, e1⟩ := e01
          have hm0 : (0 : Int) ≤ (m : Int) := by omega
          have hm1 : (m : Int) < (m : Int) + 1 := by omega
          clear hgc hct hcs hlen
          have hgn : gb ≠ wr.heap.size := by omega
          go_wp2_with fail
          obtain ⟨W2, hW2⟩ : ∃ W2, wr.alloc (.cells #[.int .i64 x0, .int .i64 x1] 31) = W2 := ⟨_, rfl⟩
          have hbox : Blk W2 wr.heap.size 31 #[.int .i64 x0, .int .i64 x1] := by rw [← hW2]; exact Blk.new _ _ _
          have hrow2 := hrow.alloc (.cells #[.int .i64 x0, .int .i64 x1] 31)
          have hBw2 := hB.alloc hBs (.cells #[.int .i64 x0, .int .i64 x1] 31)
          have f0 : W2.cell? ⟨gb, m * 2, none⟩ = some (.int .i64 r0) := by rw [← hW2]; exact Lib.cell?_alloc_some _ e0
          have f1 : W2.cell? ⟨gb, m * 2 + 1, none⟩ = some (.int .i64 r1) := by rw [← hW2]; exact Lib.cell?_alloc_some _ e1
          rw [hW2] at hrow2 hBw2
          try rw [hW2]
          have hwl := hbox.lt
          have hgl2 : gb < W2.heap.size := by omega
          clear hW2 hrow hB e0 e1
          have hS : ∀ w' : World, Below W2.heap.size W2 w' → (Below W2.heap.size W2 w' ∧ w'.cell? ⟨wr.heap.size, 0, none⟩ = some (.int .i64 x0) ∧ w'.cell? ⟨wr.heap.size, 1, none⟩ = some (.int .i64 x1) ∧ w'.cell? ⟨gb, m * 2, none⟩ = some (.int .i64 r0) ∧ w'.cell? ⟨gb, m * 2 + 1, none⟩ = some (.int .i64 r1)) := fun w' hb => ⟨hb, (hb.cell (p := ⟨wr.heap.size, 0, none⟩) hwl).trans (hbox.cell 0), (hb.cell (p := ⟨wr.heap.size, 1, none⟩) hwl).trans (hbox.cell 1), (hb.cell (p := ⟨gb, m * 2, none⟩) hgl2).trans f0, (hb.cell (p := ⟨gb, m * 2 + 1, none⟩) hgl2).trans f1⟩
          have keepS : ∀ (u v : World), Below W2.heap.size W2 u → Below u.heap.size u v → Below W2.heap.size W2 v := fun u v h1 h2 => h1.trans (h2.mono h1.size)
          have HS1 := Lib.hid hS
          have HK := Lib.hid keepS
          have hWr : Below W2.heap.size W2 W2 := Below.refl _ _
          clear hS keepS f0 f1
          rw [sweep1_some] at hst
          by_cases ht : touches r0 r1 x0 x1 = true
          · have hst' : Hid (ys' ++ [(r0, max r1 x1)] = sweep (zs.take (j + 1))) := by show _ = _; rw [hst]; simp [ht]
            clear hst
            go_region_held3 (fun w' => Below W2.heap.size W2 w' ∧ w'.cell? ⟨wr.heap.size, 0, none⟩ = some (.int .i64 x0) ∧ w'.cell? ⟨wr.heap.size, 1, none⟩ = some (.int .i64 x1) ∧ w'.cell? ⟨gb, m * 2, none⟩ = some (.int .i64 r0) ∧ w'.cell? ⟨gb, m * 2 + 1, none⟩ = some (.int .i64 r1)) (first | exact HS1.out _ (HK.out _ _ (by assumption) (by assumption)) | exact HS1.out _ (HK.out _ _ (And.left (by assumption)) (by assumption)) | exact HS1.out _ (Below.drew (by assumption)) | exact HS1.out _ (Below.drew (And.left (by assumption))) | assumption)
              (first
                | (go_at_call 11; refine (HT.out _ _ _ _ _).mono ?_; rintro e w' ⟨rfl, hb⟩))
            have hBv : Below W2.heap.size W2 w' := And.left (by assumption)
            obtain ⟨_, j0, j1, j2, j3⟩ := HS1.out _ hBv
            have hrv := owns_below hrow2 hBv
            go_wp2_with fail
            go_still_tail 12, (by kernel_rfl)
            have hBd : Below W2.heap.size W2 w'.drew := hBv.drew
            have hrd : w'.drew.ownsRow w1.heap.size 31 2 (.slice (some ⟨gb, 0, none⟩) (m + 1) cap2) (m + 1) (flatW (ys' ++ [(r0, r1)])) := hrv
            clear j0 j1 j2 j3 hBv hrv
            change wpList _ _ _ _ _ w'.drew
            generalize w'.drew = W7 at hBd hrd ⊢
            obtain ⟨_, j0, j1, j2, j3⟩ := HS1.out _ hBd
            have hfz := frozen_of_owns hrd (m * 2 + 1)
            have hB7 : Below w1.heap.size w1 (W7.setCell ⟨gb, m * 2 + 1, none⟩ (.int .i64 (max r1 x1))) := by
              have h8 := hBw2.trans (hBd.mono hBw2.size)
              exact h8.grown (row := some gb) ⟨rfl, rfl, rfl, by simp [World.setCell], fun k _ hk => Below.heap_setCell _ _ _ k (fun e => hk (by rw [e]))⟩ h8.size (fun k e => by cases e; exact hgb)
            have hr7 := owns_setLast (max r1 x1) hm hrd
            have hlen7 : (ys' ++ [(r0, max r1 x1)]).length = m + 1 := by simp [hm]
            have HL7 := Lib.hid hlen7
            clear hlen7 hrow2 hrd
            go_wp2_with fail
            exact ⟨⟨j + 1, ys' ++ [(r0, max r1 x1)], by omega, by go_num, hst', by rw [HL7.out]; omega, by rw [HL7.out]; exact hr7, hB7⟩, by simp [intOf]; omega⟩
          · have ht' : touches r0 r1 x0 x1 = false := by simpa using ht
            have hst' : Hid ((ys' ++ [(r0, r1)]) ++ [(x0, x1)] = sweep (zs.take (j + 1))) := by show _ = _; rw [hst]; simp [ht']
            clear hst ht
            go_region_held3 (fun w' => Below W2.heap.size W2 w' ∧ w'.cell? ⟨wr.heap.size, 0, none⟩ = some (.int .i64 x0) ∧ w'.cell? ⟨wr.heap.size, 1, none⟩ = some (.int .i64 x1) ∧ w'.cell? ⟨gb, m * 2, none⟩ = some (.int .i64 r0) ∧ w'.cell? ⟨gb, m * 2 + 1, none⟩ = some (.int .i64 r1)) (first | exact HS1.out _ (HK.out _ _ (by assumption) (by assumption)) | exact HS1.out _ (HK.out _ _ (And.left (by assumption)) (by assumption)) | exact HS1.out _ (Below.drew (by assumption)) | exact HS1.out _ (Below.drew (And.left (by assumption))) | assumption)
              (first
                | (go_at_call 11; refine (HT.out _ _ _ _ _).mono ?_; rintro e w' ⟨rfl, hb⟩))
            have hBv : Below W2.heap.size W2 w' := And.left (by assumption)
            obtain ⟨_, j0, j1, j2, j3⟩ := HS1.out _ hBv
            have hrv := owns_below hrow2 hBv
            have hBv1 : Below w1.heap.size w1 w' := hBw2.trans (hBv.mono hBw2.size)
            have hvs := hBv1.size
            have hfl : flatW (ys' ++ [(r0, r1)] ++ [(x0, x1)]) = flatW (ys' ++ [(r0, r1)]) ++ cellsW (x0, x1) := flatW_snoc _ _
            have HFL := Lib.hid hfl
            clear hfl
            go_wp2_with (at_builtin; refine wpList_append_own _ rfl _ _ 22 rfl w1.heap.size 31 i0 (.agg #[.int .i64 0, .int .i64 0]) 2 16 Try.underlying22 hi hz0 hz1 hz2 rfl (by decide) _ _ _ rfl (hrv.alloc _) ⟨w'.heap.size, 0, none⟩ 1 1 (cellsW (x0, x1)) rfl rfl (cells_two_new _ _ _ _) (by simp [cellsW, Value.oneCell']) (by unfold maxLen; omega) (by omega) (by simp <;> omega) ?_; intro v' w5 hown' hgrow _; have hB5 : Below w1.heap.size w1 w5 := (hBv1.alloc hvs _).grown hgrow (by simp <;> omega) (fun k e => (hrv.lt k e).1))
            go_roundw
            case rel => exact ⟨j + 1, (ys' ++ [(r0, r1)]) ++ [(x0, x1)], by omega, by go_num, hst', by simp [hm]; omega, by rw [HFL.out]; simpa [hm] using hown', hB5⟩
            case measure => simp [intOf]; omega
      · have hje : j = zs.length := by omega
        have hge : zs.length ≤ j := by omega
        have hge' : (zs.length : Int) ≤ (j : Int) := by omega
        have hE : ys = sweep zs := by have := hys.out; rw [hje, List.take_length] at this; exact this
        have HE := Lib.hid hE
        clear hje hE hys
        go_wp2_with fail
        go_ret
        obtain ⟨f1, f2, f3, f4⟩ := HF.out
        have hE := HE.out
        subst hE
        exact ⟨_, xs, zs, rfl, f1, f2, f3, by omega, ownsRow_base hrow hw1s, hB1.trans (hB.mono hw1s)⟩
#print axioms merged_in
end Go.Proofs.Ythbpdalkifocaaa
