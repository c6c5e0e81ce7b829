/-
  Add of package fold, in an accumulator of one's own.
-/
import Derived.Test.YtfoknllnknjccaaGreatAddM
namespace Go.Proofs.YtfoknllnknjccaaGreat
open Go.RowKit Go.Lib
set_option linter.unusedSimpArgs false
set_option linter.unusedVariables false

set_option maxRecDepth 100000 in
theorem ins_acc {w W : World} {lo B i cap : Nat} {q0 : Option Addr} {gs : List Ag} {n k : Int} {ss : List ItR} {r : RowV} (hlo : lo ≤ w.heap.size) (hA : AccO w lo B (.slice q0 ss.length cap) gs n ss) (hi : i ≤ ss.length) (h4 : ¬ ss.length = 400) (h : Below w.heap.size w W) (hr : OwnsV W lo (rowv r) r.2.1) (hr8 : r.2.1.length ≤ 8) :
    Calls Tryz.prog 39 #[.slice q0 ss.length cap, .int .i64 (i : Int), .slice (some ⟨W.heap.size, 0, none⟩) 1 1] (W.alloc (.cells #[rowv r, .int .i64 k] 53))
      (InsPost (W.alloc (.cells #[rowv r, .int .i64 k] 53)) lo (.slice q0 ss.length cap) (ss.length + 1) ((flatI ss).take (i * 2) ++ [rowv r, .int .i64 k] ++ (flatI ss).drop (i * 2))) ∧
    ∀ (w5 : World) (v' : Value), InsPost (W.alloc (.cells #[rowv r, .int .i64 k] 53)) lo (.slice q0 ss.length cap) (ss.length + 1) ((flatI ss).take (i * 2) ++ [rowv r, .int .i64 k] ++ (flatI ss).drop (i * 2)) (.returned v') w5 →
      AddPost w lo B (.slice q0 ss.length cap) gs n ((vals ss).take i ++ (r.2.1, k) :: (vals ss).drop i) 0 (.returned (.int .i64 0)) (w5.setCell ⟨B, 2, none⟩ v') ∧ w5.cell? ⟨B, 2, none⟩ = some (.slice q0 ss.length cap) ∧ w5.frozen? ⟨B, 2, none⟩ = false := by
  have hAW := hA.belowV h
  have hl4 := hA.2.2.2.2
  have hgr : W.grownBy (W.alloc (.cells #[rowv r, .int .i64 k] 53)) (none : Option Nat) := World.grownBy_alloc W _ none
  have hOW : (W.alloc (.cells #[rowv r, .int .i64 k] 53)).ownsRow lo 53 2 (.slice q0 ss.length cap) ss.length (flatI ss) := hAW.2.2.1.1.alloc _
  have hC := ins_any lo q0 i ss.length cap hi (by omega) (flatI ss) (rowv r) (.int .i64 k) rfl rfl (fun u hu => by
      simp only [flatI, List.mem_flatMap, cellsI, List.mem_cons, List.not_mem_nil, or_false] at hu
      obtain ⟨y, _, rfl | rfl⟩ := hu <;> rfl) W.heap.size (fun g e => by
      have := (hAW.2.2.1.1.lt g (by rw [e]; rfl)).2
      omega) (W.alloc (.cells #[rowv r, .int .i64 k] 53)) (by simp; have := h.size; omega) hOW (Blk.new W _ _)
  refine ⟨hC, fun w5 v' hI => ?_⟩
  obtain ⟨v2, e, hO5, hG5, hat⟩ := hI
  simp only [Ending.returned.injEq] at e
  subst e
  have hgW : W.grownBy w5 (Value.slice q0 ss.length cap).ownBlock := World.grownBy.trans (World.grownBy_alloc W _ _) hG5
  have hl5 : (ss.take i ++ (r, k) :: ss.drop i).length = ss.length + 1 := by simp only [List.length_append, List.length_take, List.length_cons, List.length_drop]; omega
  have hS := hAW.storeV (v' := v') (ss' := ss.take i ++ (r, k) :: ss.drop i) hgW (by rw [hl5, flatI_ins]; exact hO5) (fun x hx => by
    rcases List.mem_append.1 hx with hx | hx
    · exact .inl ⟨x, List.mem_of_mem_take hx, rfl⟩
    · rcases List.mem_cons.1 hx with rfl | hx
      · exact .inr ⟨hr, hr8⟩
      · exact .inl ⟨x, List.mem_of_mem_drop hx, rfl⟩) (by omega)
  obtain ⟨p7, c7, k7, _⟩ := hAW.2.1
  have hne : some B ≠ (Value.slice q0 ss.length cap).ownBlock := fun e => apart_blk hAW.2.2.1.1 k7 (by decide) B e.symm rfl
  have k8 := k7.keepG hgW hne
  refine And.intro (show AddPost w lo B (.slice q0 ss.length cap) gs n ((vals ss).take i ++ (r.2.1, k) :: (vals ss).drop i) 0 (.returned (.int .i64 0)) (w5.setCell ⟨B, 2, none⟩ v') from
    ⟨rfl, v', _, hS.1, by simp [vals, itv], fun x hx => ?_, (keep2_of_below h).trans hS.2 (fun x e => .inl e)⟩) (And.intro (by have := k8.cell 2; simpa using this) (k8.froz 2))
  rcases hat with e | e
  · exact .inl (by rw [← e]; exact hx)
  · rw [e] at hx
    simp only [Option.some.injEq] at hx
    refine .inr ?_
    have := h.size
    have e3 : (W.alloc (.cells #[rowv r, .int .i64 k] 53)).heap.size = W.heap.size + 1 := by simp
    rw [e3] at hx
    omega

set_option maxRecDepth 100000 in
set_option maxHeartbeats 2000000 in
theorem add_any (lo B : Nat) (v : Value) (gs : List Ag) (n k : Int) (ss : List ItR) (q : Option Addr) (xs : List Val) (d : Nat) (hg : 0 < gs.length) (hV : validBag (vals ss) = true) (hz : q = none → d = 0) (w : World) (hlo : lo ≤ w.heap.size) (hX : ValsIn w q xs) (hA : AccO w lo B v gs n ss) :
    Calls Tryz.prog 9 #[.pointer (some ⟨B, 0, none⟩), .slice q xs.length d, .int .i64 k] w (AddPost w lo B v gs n (addVal n (vals ss) xs k) (addErr n (vals ss) xs k)) := by
  have HA := Lib.hid fun W (h : Below w.heap.size w W) => hA.belowV h
  obtain ⟨q0, cap, rfl, hcap⟩ := hA.form
  have HM := Lib.hid (made_any B gs n (q0, ss, cap) hg w hA.at)
  obtain ⟨p, c, k1, _⟩ := hA.2.1
  have HK := Lib.hid fun W (h : Below w.heap.size w W) => And.intro ((k1.belowV h k1.lt).cell 2) ((k1.belowV h k1.lt).froz 2)
  have x0 := k1.cell 0
  have x1 := k1.cell 1
  simp only [List.getElem?_toArray, List.getElem?_cons_zero, List.getElem?_cons_succ] at x0 x1 HK
  have HF := Lib.hid (fitsRow_any p q gs c d n xs w hX)
  have HY := Lib.hid (beyond_any k)
  have HSTAY := Lib.hid fun W (h : Below w.heap.size w W) (er : Int) => (show AddPost w lo B (.slice q0 ss.length cap) gs n (vals ss) er (.returned (.int .i64 er)) W from ⟨rfl, _, ss, hA.belowV h, rfl, fun x hx => .inl hx, keep2_of_below h⟩)
  have hl4 := hA.2.2.2.2
  by_cases hf : fitsR n xs = false
  · have e1 : addErr n (vals ss) xs k = 1 := by unfold addErr; rw [if_pos hf]
    have e2 : addVal n (vals ss) xs k = vals ss := by unfold addVal; rw [e1, if_neg (by decide)]
    rw [e1, e2]
    rw [hf] at HF
    clear hA k1 hX hf e1 e2
    go_enter Tryz.func9, Tryz.ntmps9
    go_wp2_with fail
    refine HM.out.mono ?_
    rintro e w1 ⟨rfl, rfl⟩
    go_wp2_with fail
    refine HF.out.mono ?_
    rintro e w1 ⟨rfl, hb1⟩
    have HZ := Lib.hid (HSTAY.out _ hb1 1)
    clear hb1
    go_wp2_with fail
    go_ret
    exact HZ.out
  have hf : fitsR n xs = true := by simpa using hf
  rw [hf] at HF
  by_cases hk : k = 0 ∨ far k = true
  · have e1 : addErr n (vals ss) xs k = 7 := by unfold addErr; rw [if_neg (by rw [hf]; decide), if_pos hk]
    have e2 : addVal n (vals ss) xs k = vals ss := by unfold addVal; rw [e1, if_neg (by decide)]
    rw [e1, e2]
    by_cases hk0 : k = 0
    · have hkb : (k == 0) = true := by simpa using hk0
      clear hA k1 hX hf e1 e2 hk HY
      subst hk0
      go_enter Tryz.func9, Tryz.ntmps9
      go_wp2_with fail
      refine HM.out.mono ?_
      rintro e w1 ⟨rfl, rfl⟩
      go_wp2_with fail
      refine HF.out.mono ?_
      rintro e w1 ⟨rfl, hb1⟩
      have HZ := Lib.hid (HSTAY.out _ hb1 7)
      clear hb1
      go_wp2_with fail
      go_ret
      exact HZ.out
    · have hfk : far k = true := hk.resolve_left hk0
      rw [hfk] at HY
      have hkb : (k == 0) = false := by simpa using hk0
      clear hA k1 hX hf e1 e2 hk hfk
      go_enter Tryz.func9, Tryz.ntmps9
      go_wp2_with fail
      refine HM.out.mono ?_
      rintro e w1 ⟨rfl, rfl⟩
      go_wp2_with fail
      refine HF.out.mono ?_
      rintro e w1 ⟨rfl, hb1⟩
      have HZ := Lib.hid (HSTAY.out _ hb1 7)
      clear hb1
      go_wp2_with fail
      refine (HY.out _).mono ?_
      rintro e w2 ⟨rfl, rfl⟩
      go_wp2_with fail
      go_ret
      exact HZ.out
  have hk0 : k ≠ 0 := fun e => hk (.inl e)
  have hfk : far k = false := by cases q : far k with | false => rfl | true => exact absurd (.inr q) hk
  rw [hfk] at HY
  have hkb : (k == 0) = false := by simpa using hk0
  have hx8 : xs.length ≤ 8 := by
    unfold fitsR validRow at hf
    rw [Bool.and_eq_true, Bool.and_eq_true, decide_eq_true_eq] at hf
    exact hf.1.1
  have HS := Lib.hid fun W (h : Below w.heap.size w W) => search_any q0 q ss cap xs d (by omega) (by omega) W (hA.items.belowV h) (hX.belowV h)
  have HFND := Lib.hid fun (i : Nat) (h1 : i < ss.length) h2 h3 => add_found (l := vals ss) (n := n) (k := k) (r := xs) (i := i) hV hf hk (by rw [vals_len]; exact h1) h2 h3
  have HABS := Lib.hid fun (i : Nat) (h1 : i ≤ ss.length) h2 h3 => add_absent (l := vals ss) (n := n) (k := k) (r := xs) (i := i) hV hf hk (by rw [vals_len]; exact h1) h2 h3
  have HCH := Lib.hid fun (i : Nat) (hi : i < ss.length) W (h : Below w.heap.size w W) => change_any lo B i (.slice q0 ss.length cap) gs n k ss hi (far_iff.1 hfk) (by
    obtain ⟨_, hok, _⟩ := validBag_iff.1 hV
    have hm : (vals ss)[i]?.getD it0 ∈ vals ss := by rw [List.getElem?_eq_getElem (by rw [vals_len]; exact hi)]; exact List.getElem_mem _
    have := (itOK_iff.1 (hok _ hm)).2
    rw [vals_get] at this
    exact ⟨this.2.1, this.2.2⟩) W (hA.belowV h)
  have HCL := Lib.hid fun W (h : Below w.heap.size w W) => cloneO_any q xs d (by omega) W (hX.belowV h) hz
  have hvr : validRow xs = true := by unfold fitsR at hf; rw [Bool.and_eq_true] at hf; exact hf.1
  have HINS := Lib.hid fun (i : Nat) (hi : i ≤ ss.length) (h4 : ¬ ss.length = 400) (W : World) (r : RowV) (h : Below w.heap.size w W) (hr : OwnsV W lo (rowv r) r.2.1) (hr8 : r.2.1.length ≤ 8) => ins_acc (k := k) hlo hA hi h4 h hr hr8
  generalize addErr n (vals ss) xs k = er at HFND HABS ⊢
  generalize addVal n (vals ss) xs k = l' at HFND HABS ⊢
  clear hA k1 hX hf hk hfk hV
  go_enter Tryz.func9, Tryz.ntmps9
  go_wp2_with fail
  refine HM.out.mono ?_
  rintro e w1 ⟨rfl, rfl⟩
  go_wp2_with fail
  refine HF.out.mono ?_
  rintro e w1 ⟨rfl, hb1⟩
  have HB1 := Lib.hid hb1
  clear hb1
  go_wp2_with fail
  refine (HY.out _).mono ?_
  rintro e w1' ⟨rfl, rfl⟩
  have hc2 := (HK.out _ HB1.out).1
  go_wp2_with fail
  refine (HS.out _ HB1.out).mono ?_
  rintro e w2 ⟨i, f, rfl, hi, h1, h2, h3, hb2⟩
  have HB2 := Lib.hid (HB1.out.trans (hb2.mono HB1.out.size))
  clear hb2 hc2
  unfold cmpAt at h1 h2 h3
  have hcat : ∀ j, (ss[j]?.getD ir0).1.2.1 = ((vals ss)[j]?.getD it0).1 := fun j => by rw [vals_get]; rfl
  rw [hcat] at h1 h2 h3
  cases f with
  | true =>
    obtain ⟨hil, h0⟩ := h2 rfl
    have hFN := HFND.out i hil h1 h0
    have HC := Lib.hid (HCH.out i hil w2 HB2.out)
    rw [vals_get] at hFN
    have hC : Calls Tryz.prog 38 #[.pointer (some ⟨B, 0, none⟩), .int .i64 (i : Int), .int .i64 k] w2 (AddPost w2 lo B (.slice q0 ss.length cap) gs n l' er) := by
      rw [hFN.1, hFN.2]
      exact HC.out
    have HC := Lib.hid hC
    clear h1 h2 h3 hcat h0 hFN hC
    go_wp2_with fail
    refine HC.out.mono ?_
    rintro e w3 ⟨rfl, v', ss', hA', hv', hbl, hkeep⟩
    have HZ := Lib.hid (show AddPost w lo B (.slice q0 ss.length cap) gs n l' er (.returned (.int .i64 er)) w3 from ⟨rfl, v', ss', hA', hv', fun x hx => (hbl x hx).imp id (fun h => Nat.le_trans HB2.out.size h), (keep2_of_below HB2.out).trans hkeep (fun x e => .inl e)⟩)
    clear hA' hv' hbl hkeep
    go_wp2_with fail
    go_ret
    exact HZ.out
  | false =>
    have hAB := HABS.out i hi h1 (by rw [vals_len]; exact h3 rfl)
    rw [vals_len] at hAB
    have HAB := Lib.hid hAB
    clear h1 h2 h3 hcat hAB
    have hc2 := (HK.out _ HB2.out).1
    by_cases hfull : ss.length = 400
    · have hfb : ((ss.length : Int) == 400) = true := by simp; omega
      have hfi : (ss.length : Int) = 400 := by omega
      have HZ := Lib.hid (show AddPost w lo B (.slice q0 ss.length cap) gs n l' er (.returned (.int .i64 4)) w2 from by
        rw [HAB.out.1, HAB.out.2, if_pos hfull, if_pos hfull]; exact HSTAY.out _ HB2.out 4)
      clear hfull
      go_wp2_with fail
      go_ret
      exact HZ.out
    · have hfb : ((ss.length : Int) == 400) = false := by simp; omega
      have hfi : ¬ ((ss.length : Int) = 400) := by omega
      have hAB' : Hid (er = 0 ∧ l' = (vals ss).take i ++ (xs, k) :: (vals ss).drop i) := by
        refine Lib.hid ?_
        rw [HAB.out.1, HAB.out.2, if_neg hfull, if_neg hfull]; exact ⟨rfl, rfl⟩
      have HIN := Lib.hid (HINS.out i hi hfull)
      clear hfull HAB
      go_wp2_with fail
      have hc2' : w2.drew.cell? ⟨B, 2, none⟩ = some (.slice q0 ss.length cap) := hc2
      refine wp_region_held_drew (S := fun _ : World => True) (by kernel_rfl) trivial (fun hHeld => ?_)
      refine wpAnyH_take (i := 0) (oi := _) (v := ?_) rfl (by kernel_rfl) (by kernel_rfl) (by kernel_rfl) (fun _ _ _ h => h) (Or.inl ⟨by rfl, ?_⟩) (by assumption) ?_
      rotate_left
      · intro w hSw
        try dsimp only at hSw
        go_simp
        all_goals with_reducible rfl
      simp only [List.getElem_toArray, List.getElem_cons_succ, List.getElem_cons_zero, Act.put, List.setIfInBounds_toArray, List.set_cons_zero, List.set_cons_succ]
      refine wpAnyH_take (i := 1) (oi := _) (v := ?_) rfl (by kernel_rfl) (by kernel_rfl) (by kernel_rfl) (fun _ _ _ h => h) (Or.inl ⟨by rfl, ?_⟩) (by assumption) ?_
      rotate_left
      · intro w hSw
        try dsimp only at hSw
        go_simp
        all_goals with_reducible rfl
      simp only [List.getElem_toArray, List.getElem_cons_succ, List.getElem_cons_zero, Act.put, List.setIfInBounds_toArray, List.set_cons_zero, List.set_cons_succ]
      refine wpAnyH_take (i := 2) (oi := _) (v := ?_) rfl (by kernel_rfl) (by kernel_rfl) (by kernel_rfl) (fun _ _ _ h => h) (Or.inl ⟨by rfl, ?_⟩) (by assumption) ?_
      rotate_left
      · intro w hSw
        try dsimp only at hSw
        go_simp
        all_goals with_reducible rfl
      simp only [List.getElem_toArray, List.getElem_cons_succ, List.getElem_cons_zero, Act.put, List.setIfInBounds_toArray, List.set_cons_zero, List.set_cons_succ]
      refine wpAnyH_take (i := 3) (oi := _) (v := ?_) rfl (by kernel_rfl) (by kernel_rfl) (by kernel_rfl) (fun _ _ _ h => h) (Or.inl ⟨by rfl, ?_⟩) (by assumption) ?_
      rotate_left
      · intro w hSw
        try dsimp only at hSw
        go_simp
        all_goals with_reducible rfl
      simp only [List.getElem_toArray, List.getElem_cons_succ, List.getElem_cons_zero, Act.put, List.setIfInBounds_toArray, List.set_cons_zero, List.set_cons_succ]
      refine wpAnyH_take (i := 5) (oi := _) (v := ?_) rfl (by kernel_rfl) (by kernel_rfl) (by kernel_rfl) (fun _ _ _ h => h) (Or.inl ⟨by rfl, ?_⟩) (by assumption) ?_
      rotate_left
      · intro w hSw
        try dsimp only at hSw
        go_simp
        all_goals with_reducible rfl
      simp only [List.getElem_toArray, List.getElem_cons_succ, List.getElem_cons_zero, Act.put, List.setIfInBounds_toArray, List.set_cons_zero, List.set_cons_succ]
      refine wpAnyH_take (i := 6) (oi := _) (v := ?_) rfl (by kernel_rfl) (by kernel_rfl) (by kernel_rfl) (fun _ _ _ h => h) (Or.inl ⟨by rfl, ?_⟩) (by assumption) ?_
      rotate_left
      · intro w hSw
        try dsimp only at hSw
        go_simp
        all_goals with_reducible rfl
      simp only [List.getElem_toArray, List.getElem_cons_succ, List.getElem_cons_zero, Act.put, List.setIfInBounds_toArray, List.set_cons_zero, List.set_cons_succ]
      refine wpAnyH_take (i := 8) (oi := _) (v := ?_) rfl (by kernel_rfl) (by kernel_rfl) (by kernel_rfl) (fun _ _ _ h => h) (Or.inl ⟨by rfl, ?_⟩) (by assumption) ?_
      rotate_left
      · intro w hSw
        try dsimp only at hSw
        go_simp
        all_goals with_reducible rfl
      simp only [List.getElem_toArray, List.getElem_cons_succ, List.getElem_cons_zero, Act.put, List.setIfInBounds_toArray, List.set_cons_zero, List.set_cons_succ]
      refine wpAnyH_ready (rs := [4, 7]) (by kernel_rfl) (by simp) ?_
      refine AllReadyH.cons (o := _) rfl (fun K hK => ?_) (AllReadyH.cons (o := _) rfl (fun K hK => ?_) (AllReadyH.nil))
      · go_simp
        refine hK.out _ _ trivial (fun hHeld => ?_)
        clear hK K
        try simp only [List.getElem_toArray, List.getElem_cons_succ, List.getElem_cons_zero, Act.put, List.setIfInBounds_toArray, List.set_cons_zero, List.set_cons_succ]
        refine wpAnyH_ready (rs := [7]) (by kernel_rfl) (by simp) ?_
        refine AllReadyH.cons (o := _) rfl (fun K hK => ?_) (AllReadyH.nil)
        go_simp
        refine (HCL.out _ (HB2.out.trans (((Below.refl _ _).drew).mono HB2.out.size))).mono ?_
        rintro e w3 ⟨⟨rq, rx, rc⟩, rfl, hr1, hr2, hb3⟩
        dsimp only at hr1
        have HR : Hid (OwnsV w3 lo (rowv (rq, rx, rc)) rx ∧ rx.length ≤ 8 ∧ rx = xs) := Lib.hid ⟨by have h7 := ownsRow_base hr2 (Nat.le_trans hlo HB2.out.size); rwa [← hr1] at h7, by rw [hr1]; exact hx8, hr1⟩
        dsimp only [rowv]
        refine hK.out _ _ trivial (fun hHeld => ?_)
        clear hK K
        have HB3 := Lib.hid ((HB2.out.trans ((Below.refl _ _).drew.mono HB2.out.size)).trans (hb3.mono HB2.out.size))
        clear hr1 hr2 hb3
        try simp only [List.getElem_toArray, List.getElem_cons_succ, List.getElem_cons_zero, Act.put, List.setIfInBounds_toArray, List.set_cons_zero, List.set_cons_succ]
        refine wpAnyH_take (i := 9) (oi := _) (v := ?_) rfl (by kernel_rfl) (by kernel_rfl) (by kernel_rfl) (fun _ _ _ h => h) (Or.inl ⟨by rfl, ?_⟩) (by assumption) ?_
        rotate_left
        · intro w hSw
          try dsimp only at hSw
          go_simp
          all_goals with_reducible rfl
        simp only [List.getElem_toArray, List.getElem_cons_succ, List.getElem_cons_zero, Act.put, List.setIfInBounds_toArray, List.set_cons_zero, List.set_cons_succ]
        refine wpAnyH_ready (rs := [10]) (by kernel_rfl) (by simp) ?_
        refine AllReadyH.cons (o := _) rfl (fun K hK => ?_) (AllReadyH.nil)
        go_simp
        refine hK.out _ _ trivial (fun hHeld => ?_)
        clear hK K
        try simp only [List.getElem_toArray, List.getElem_cons_succ, List.getElem_cons_zero, Act.put, List.setIfInBounds_toArray, List.set_cons_zero, List.set_cons_succ]
        have hII := HIN.out w3 (rq, rx, rc) HB3.out HR.out.1 HR.out.2.1
        dsimp only [rowv] at hII
        have HII := Lib.hid hII
        clear hII
        refine wpAnyH_ready (rs := [11]) (by kernel_rfl) (by simp) ?_
        refine AllReadyH.cons (o := _) rfl (fun K hK => ?_) (AllReadyH.nil)
        go_simp
        refine (HII.out.1).mono ?_
        intro e w5 hI
        obtain ⟨v2, rfl, hO5, _⟩ := id hI
        obtain ⟨q2, cap2, rfl, _⟩ := slice_of_own hO5
        have HE := Lib.hid (HII.out.2 w5 _ hI)
        clear hI hO5
        refine hK.out _ _ trivial (fun hHeld => ?_)
        clear hK K
        try simp only [List.getElem_toArray, List.getElem_cons_succ, List.getElem_cons_zero, Act.put, List.setIfInBounds_toArray, List.set_cons_zero, List.set_cons_succ]
        refine wpAnyH_take (i := 12) (oi := _) (v := ?_) rfl (by kernel_rfl) (by kernel_rfl) (by kernel_rfl) (fun _ _ _ h => h) (Or.inl ⟨by rfl, ?_⟩) (by assumption) ?_
        rotate_left
        · intro w hSw
          try dsimp only at hSw
          go_simp
          all_goals with_reducible rfl
        simp only [List.getElem_toArray, List.getElem_cons_succ, List.getElem_cons_zero, Act.put, List.setIfInBounds_toArray, List.set_cons_zero, List.set_cons_succ]
        refine wpAnyH_take (i := 13) (oi := _) (v := ?_) rfl (by kernel_rfl) (by kernel_rfl) (by kernel_rfl) (fun _ _ _ h => h) (Or.inl ⟨by rfl, ?_⟩) (by assumption) ?_
        rotate_left
        · intro w hSw
          try dsimp only at hSw
          go_simp
          all_goals with_reducible rfl
        simp only [List.getElem_toArray, List.getElem_cons_succ, List.getElem_cons_zero, Act.put, List.setIfInBounds_toArray, List.set_cons_zero, List.set_cons_succ]
        refine wpAnyH_ready (rs := [14]) (by kernel_rfl) (by simp) ?_
        refine AllReadyH.cons (o := _) rfl (fun K hK => ?_) (AllReadyH.nil)
        have hce := HE.out.2.1
        have hfe := HE.out.2.2
        go_simp
        refine hK.out _ _ trivial (fun hHeld => ?_)
        clear hK K
        refine wpAnyH_done (by kernel_rfl) ?_ _
        clear hce hfe
        go_wp2_with fail
        go_ret
        have hfin := HE.out.1
        try dsimp only at hfin
        rw [HR.out.2.2] at hfin
        obtain ⟨e1, e2⟩ := hAB'.out
        rw [e1, e2]
        exact hfin
      · go_simp
        refine (HCL.out _ (HB2.out.trans (((Below.refl _ _).drew).mono HB2.out.size))).mono ?_
        rintro e w3 ⟨⟨rq, rx, rc⟩, rfl, hr1, hr2, hb3⟩
        dsimp only at hr1
        have HR : Hid (OwnsV w3 lo (rowv (rq, rx, rc)) rx ∧ rx.length ≤ 8 ∧ rx = xs) := Lib.hid ⟨by have h7 := ownsRow_base hr2 (Nat.le_trans hlo HB2.out.size); rwa [← hr1] at h7, by rw [hr1]; exact hx8, hr1⟩
        dsimp only [rowv]
        refine hK.out _ _ trivial (fun hHeld => ?_)
        clear hK K
        have HB3 := Lib.hid ((HB2.out.trans ((Below.refl _ _).drew.mono HB2.out.size)).trans (hb3.mono HB2.out.size))
        clear hr1 hr2 hb3
        try simp only [List.getElem_toArray, List.getElem_cons_succ, List.getElem_cons_zero, Act.put, List.setIfInBounds_toArray, List.set_cons_zero, List.set_cons_succ]
        refine wpAnyH_take (i := 9) (oi := _) (v := ?_) rfl (by kernel_rfl) (by kernel_rfl) (by kernel_rfl) (fun _ _ _ h => h) (Or.inl ⟨by rfl, ?_⟩) (by assumption) ?_
        rotate_left
        · intro w hSw
          try dsimp only at hSw
          go_simp
          all_goals with_reducible rfl
        simp only [List.getElem_toArray, List.getElem_cons_succ, List.getElem_cons_zero, Act.put, List.setIfInBounds_toArray, List.set_cons_zero, List.set_cons_succ]
        refine wpAnyH_ready (rs := [4, 10]) (by kernel_rfl) (by simp) ?_
        refine AllReadyH.cons (o := _) rfl (fun K hK => ?_) (AllReadyH.cons (o := _) rfl (fun K hK => ?_) (AllReadyH.nil))
        · have hc3 := (HK.out _ HB3.out).1
          go_simp
          refine hK.out _ _ trivial (fun hHeld => ?_)
          clear hK K
          try simp only [List.getElem_toArray, List.getElem_cons_succ, List.getElem_cons_zero, Act.put, List.setIfInBounds_toArray, List.set_cons_zero, List.set_cons_succ]
          clear hc3
          refine wpAnyH_ready (rs := [10]) (by kernel_rfl) (by simp) ?_
          refine AllReadyH.cons (o := _) rfl (fun K hK => ?_) (AllReadyH.nil)
          go_simp
          refine hK.out _ _ trivial (fun hHeld => ?_)
          clear hK K
          try simp only [List.getElem_toArray, List.getElem_cons_succ, List.getElem_cons_zero, Act.put, List.setIfInBounds_toArray, List.set_cons_zero, List.set_cons_succ]
          have hII := HIN.out w3 (rq, rx, rc) HB3.out HR.out.1 HR.out.2.1
          dsimp only [rowv] at hII
          have HII := Lib.hid hII
          clear hII
          refine wpAnyH_ready (rs := [11]) (by kernel_rfl) (by simp) ?_
          refine AllReadyH.cons (o := _) rfl (fun K hK => ?_) (AllReadyH.nil)
          go_simp
          refine (HII.out.1).mono ?_
          intro e w5 hI
          obtain ⟨v2, rfl, hO5, _⟩ := id hI
          obtain ⟨q2, cap2, rfl, _⟩ := slice_of_own hO5
          have HE := Lib.hid (HII.out.2 w5 _ hI)
          clear hI hO5
          refine hK.out _ _ trivial (fun hHeld => ?_)
          clear hK K
          try simp only [List.getElem_toArray, List.getElem_cons_succ, List.getElem_cons_zero, Act.put, List.setIfInBounds_toArray, List.set_cons_zero, List.set_cons_succ]
          refine wpAnyH_take (i := 12) (oi := _) (v := ?_) rfl (by kernel_rfl) (by kernel_rfl) (by kernel_rfl) (fun _ _ _ h => h) (Or.inl ⟨by rfl, ?_⟩) (by assumption) ?_
          rotate_left
          · intro w hSw
            try dsimp only at hSw
            go_simp
            all_goals with_reducible rfl
          simp only [List.getElem_toArray, List.getElem_cons_succ, List.getElem_cons_zero, Act.put, List.setIfInBounds_toArray, List.set_cons_zero, List.set_cons_succ]
          refine wpAnyH_take (i := 13) (oi := _) (v := ?_) rfl (by kernel_rfl) (by kernel_rfl) (by kernel_rfl) (fun _ _ _ h => h) (Or.inl ⟨by rfl, ?_⟩) (by assumption) ?_
          rotate_left
          · intro w hSw
            try dsimp only at hSw
            go_simp
            all_goals with_reducible rfl
          simp only [List.getElem_toArray, List.getElem_cons_succ, List.getElem_cons_zero, Act.put, List.setIfInBounds_toArray, List.set_cons_zero, List.set_cons_succ]
          refine wpAnyH_ready (rs := [14]) (by kernel_rfl) (by simp) ?_
          refine AllReadyH.cons (o := _) rfl (fun K hK => ?_) (AllReadyH.nil)
          have hce := HE.out.2.1
          have hfe := HE.out.2.2
          go_simp
          refine hK.out _ _ trivial (fun hHeld => ?_)
          clear hK K
          refine wpAnyH_done (by kernel_rfl) ?_ _
          clear hce hfe
          go_wp2_with fail
          go_ret
          have hfin := HE.out.1
          try dsimp only at hfin
          rw [HR.out.2.2] at hfin
          obtain ⟨e1, e2⟩ := hAB'.out
          rw [e1, e2]
          exact hfin
        · go_simp
          refine hK.out _ _ trivial (fun hHeld => ?_)
          clear hK K
          try simp only [List.getElem_toArray, List.getElem_cons_succ, List.getElem_cons_zero, Act.put, List.setIfInBounds_toArray, List.set_cons_zero, List.set_cons_succ]
          refine wpAnyH_ready (rs := [4]) (by kernel_rfl) (by simp) ?_
          refine AllReadyH.cons (o := _) rfl (fun K hK => ?_) (AllReadyH.nil)
          have hc4 := (HK.out _ (HB3.out.alloc HB3.out.size (.cells #[.slice rq rx.length rc, .int .i64 k] 53))).1
          go_simp
          refine hK.out _ _ trivial (fun hHeld => ?_)
          clear hK K
          try simp only [List.getElem_toArray, List.getElem_cons_succ, List.getElem_cons_zero, Act.put, List.setIfInBounds_toArray, List.set_cons_zero, List.set_cons_succ]
          clear hc4
          have hII := HIN.out w3 (rq, rx, rc) HB3.out HR.out.1 HR.out.2.1
          dsimp only [rowv] at hII
          have HII := Lib.hid hII
          clear hII
          refine wpAnyH_ready (rs := [11]) (by kernel_rfl) (by simp) ?_
          refine AllReadyH.cons (o := _) rfl (fun K hK => ?_) (AllReadyH.nil)
          go_simp
          refine (HII.out.1).mono ?_
          intro e w5 hI
          obtain ⟨v2, rfl, hO5, _⟩ := id hI
          obtain ⟨q2, cap2, rfl, _⟩ := slice_of_own hO5
          have HE := Lib.hid (HII.out.2 w5 _ hI)
          clear hI hO5
          refine hK.out _ _ trivial (fun hHeld => ?_)
          clear hK K
          try simp only [List.getElem_toArray, List.getElem_cons_succ, List.getElem_cons_zero, Act.put, List.setIfInBounds_toArray, List.set_cons_zero, List.set_cons_succ]
          refine wpAnyH_take (i := 12) (oi := _) (v := ?_) rfl (by kernel_rfl) (by kernel_rfl) (by kernel_rfl) (fun _ _ _ h => h) (Or.inl ⟨by rfl, ?_⟩) (by assumption) ?_
          rotate_left
          · intro w hSw
            try dsimp only at hSw
            go_simp
            all_goals with_reducible rfl
          simp only [List.getElem_toArray, List.getElem_cons_succ, List.getElem_cons_zero, Act.put, List.setIfInBounds_toArray, List.set_cons_zero, List.set_cons_succ]
          refine wpAnyH_take (i := 13) (oi := _) (v := ?_) rfl (by kernel_rfl) (by kernel_rfl) (by kernel_rfl) (fun _ _ _ h => h) (Or.inl ⟨by rfl, ?_⟩) (by assumption) ?_
          rotate_left
          · intro w hSw
            try dsimp only at hSw
            go_simp
            all_goals with_reducible rfl
          simp only [List.getElem_toArray, List.getElem_cons_succ, List.getElem_cons_zero, Act.put, List.setIfInBounds_toArray, List.set_cons_zero, List.set_cons_succ]
          refine wpAnyH_ready (rs := [14]) (by kernel_rfl) (by simp) ?_
          refine AllReadyH.cons (o := _) rfl (fun K hK => ?_) (AllReadyH.nil)
          have hce := HE.out.2.1
          have hfe := HE.out.2.2
          go_simp
          refine hK.out _ _ trivial (fun hHeld => ?_)
          clear hK K
          refine wpAnyH_done (by kernel_rfl) ?_ _
          clear hce hfe
          go_wp2_with fail
          go_ret
          have hfin := HE.out.1
          try dsimp only at hfin
          rw [HR.out.2.2] at hfin
          obtain ⟨e1, e2⟩ := hAB'.out
          rw [e1, e2]
          exact hfin
end Go.Proofs.YtfoknllnknjccaaGreat
