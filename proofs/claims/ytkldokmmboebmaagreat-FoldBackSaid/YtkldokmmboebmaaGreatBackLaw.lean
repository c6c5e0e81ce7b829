/-
  The law FoldBack: what was added and taken out again, and the order of Adds.
-/
import Derived.Test.YtkldokmmboebmaaGreatBackM
import Derived.Test.YtkldokmmboebmaaGreatActs
import Derived.Test.YtkldokmmboebmaaGreatRefOf0
import Derived.Test.YtkldokmmboebmaaGreatSameR
import Derived.Test.YtkldokmmboebmaaGreatWake5
import Derived.Deep.SlicePairs
import Derived.ChangeSlices
import Derived.Test.YtkldokmmboebmaaGreatRows
namespace Go.Proofs.YtkldokmmboebmaaGreat.foldBack
open Go.ChangeShapes Go.WideShapes Go.ChangeAt Go.RowKit Go.Deep
set_option linter.unusedSimpArgs false
set_option linter.unusedVariables false

set_option maxRecDepth 100000 in
/-- A list of aggregates that reads as data: kinds and columns, and their cells. -/
theorem open_aggs {H : Type} {enc : TypeId × Value → H} {W : World} {base : Nat} {v : Value} {d : DataW H} {ps : List MemPlace} (hval : Value.okWide Tryz.prog W .any base 22 v)
    (h : DataW.Trod enc Tryz.prog W 0 (fun _ => true) true 22 v d ps) : ∃ (p : Option Addr) (gs : List Ag) (cap : Nat), v = .slice p gs.length cap ∧ gs.length ≤ maxLen ∧ AggsIn W p gs := by
  obtain ⟨a0, len0, cap0, rfl⟩ := okWide_slice Tryz.underlying22 hval
  obtain ⟨fuel, hf⟩ := h
  rcases open_slice Tryz.underlying22 hf with ⟨hcs, _⟩ | ⟨a, len, cap, m, n, D, Pl, hcs, _, hlc, hcm, hm, _, hi⟩
  · simp only [Value.cells, List.cons.injEq, and_true, Value.slice.injEq] at hcs
    obtain ⟨rfl, rfl, rfl⟩ := hcs
    exact ⟨none, [], 0, rfl, by simp, fun h => absurd h (by simp)⟩
  · simp only [Value.cells, List.cons.injEq, and_true, Value.slice.injEq] at hcs
    obtain ⟨rfl, rfl, rfl⟩ := hcs
    rw [if_pos rfl] at hm
    subst hm
    have ce : Tryz.prog.cellsOf 59 = 2 := by kernel_rfl
    have each : ∀ i, i < len0 → ∃ q : Ag, W.cell? (a.add (i * 2)) = some (.int .i64 q.1) ∧ W.cell? (a.add (i * 2 + 1)) = some (.int .i64 q.2) := fun i hil => by
      obtain ⟨cs', h1, h2⟩ := hi i (by omega)
      rw [ce] at h1
      obtain ⟨_, hlen, hcell⟩ := World.cells?_some h1
      obtain ⟨ys, k, hk, _, _, hyl, hf⟩ := DataW.trod_struct Tryz.underlying59 h2
      match ys, hyl, cs', hlen with
      | [y0, y1], _, [c0, c1], _ =>
        have cI : Tryz.prog.cellsOf 3 = 1 := by kernel_rfl
        have g0 : DataW.trod enc Tryz.prog W 0 (fun _ => true) true k 3 (([c0, c1].drop 0).take (Tryz.prog.cellsOf 3)) = some y0 := hf 0 _ rfl
        have g1 : DataW.trod enc Tryz.prog W 0 (fun _ => true) true k 3 (([c0, c1].drop 1).take (Tryz.prog.cellsOf 3)) = some y1 := hf 1 _ rfl
        rw [cI] at g0 g1
        simp only [List.drop_zero, List.take_succ_cons, List.take_zero, List.drop_succ_cons] at g0 g1
        obtain ⟨n0, e0, _, _⟩ := DataW.trod_int Tryz.underlying3 g0
        obtain ⟨n1, e1, _, _⟩ := DataW.trod_int Tryz.underlying3 g1
        simp only [List.cons.injEq, and_true] at e0 e1
        have d0 := hcell 0 (by omega)
        have d1 := hcell 1 (by omega)
        rw [add_of_add] at d0 d1
        subst e0 e1
        exact ⟨(n0, n1), by simpa using d0, by simpa using d1⟩
    obtain ⟨q, hq⟩ := choose_lt each
    have hl : ((List.range len0).map q).length = len0 := by simp
    refine ⟨some a, (List.range len0).map q, m, by rw [hl], by rw [hl]; omega, fun hp => ?_⟩
    rw [hl] at hp
    obtain ⟨b, off, spot⟩ := a
    have h00 := (hq 0 hp).1
    have hspot : spot = none := by simpa [Addr.add] using World.cell?_spot h00
    subst hspot
    have e0 := (hq 0 hp).1
    rw [add_plain] at e0
    refine ⟨b, off, rfl, World.block_lt_of_cell? W _ e0, fun i hil => ?_⟩
    rw [hl] at hil
    obtain ⟨c0, c1⟩ := hq i hil
    rw [add_plain] at c0 c1
    have : ((List.range len0).map q)[i]?.getD ag0 = q i := by simp [hil]
    rw [this]
    exact ⟨c0, by rw [← Nat.add_assoc] at c1; exact c1⟩

def BagO (w : World) (l : List It) (e : Ending) (w' : World) : Prop := ∃ p c cc, e = .returned (.slice p cc.length c) ∧ ItemsIn w' p cc ∧ vals cc = l ∧ Below w.heap.size w w'
theorem bagO_any {lo B : Nat} {v : Value} {gs : List Ag} {n : Nat} {ss : List ItR} (w : World) (hS : StO w lo B v gs n ss) : Calls Tryz.prog 20 #[.pointer (some ⟨B, 0, none⟩)] w (BagO w (vals ss)) := by
  refine (bagAcc_any lo B v gs n ss w hS.1).mono ?_
  rintro e w' ⟨v', cc, rfl, ho, hv, hb⟩
  obtain ⟨p, c, rfl, _⟩ := slice_of_own ho.1
  refine ⟨p, c, cc, rfl, ho.items rfl fun r hr => ?_, hv, hb⟩
  have hok := (validBag_iff.1 hS.2.1).2.1 (itv r) (by rw [← hv]; exact mem_valsR hr)
  have := (itOK_iff.1 hok).1
  unfold validRow at this
  rw [Bool.and_eq_true, decide_eq_true_eq] at this
  exact Nat.le_trans this.1 (by decide)

set_option maxRecDepth 100000 in
set_option maxHeartbeats 16000000 in
theorem walk (p q : Option Addr) (gs : List Ag) (acts : List ActR) (m : Int) (c d : Nat) (hgm : gs.length ≤ maxLen) (ham : acts.length ≤ maxLen) (w : World) (hG : AggsIn w p gs) (hA : ActsIn w q acts) :
    Calls Tryz.prog 4 #[.slice p gs.length c, .int .i64 m, .slice q acts.length d] w fun e w' => e = .returned (.bool true) ∧ Below w.heap.size w w' := by
  have HW := Lib.hid awake5_any
  by_cases hs : 100 < gs.length
  · have hs' : (100 : Int) < (gs.length : Int) := by omega
    clear hs hA hG
    go_enter Tryz.func4, Tryz.ntmps4
    go_wp2_with fail
    refine (HW.out _).mono ?_
    rintro e w1 ⟨rfl, hb1⟩
    go_wp2_with fail
    go_ret
    exact ⟨rfl, hb1⟩
  have hs' : (gs.length : Int) ≤ (100 : Int) := by omega
  have HF := Lib.hid (few_any q acts d (by unfold maxLen at ham; omega) w hA)
  have hg9 : gs.length ≤ 9223372036854775807 := by unfold maxLen at hgm; omega
  by_cases hbad : newErr gs m = 0
  case neg =>
    obtain ⟨er, her⟩ : ∃ er, er = newErr gs m := ⟨_, rfl⟩
    rw [← her] at hbad
    have HN := Lib.hid fun W (h : Below w.heap.size w W) => new_bad p gs c m er hg9 W (hG.belowV h) her.symm hbad
    have hne : (er != 0) = true := by simpa using hbad
    have hee : (er == er) = true := by simp
    clear hA hG her
    go_enter Tryz.func4, Tryz.ntmps4
    go_wp2_with fail
    refine HF.out.mono ?_
    rintro e w1 ⟨h1, hb1⟩
    have HB1 := Lib.hid hb1
    clear hb1
    rcases h1 with rfl | ⟨rfl, h60⟩
    · go_wp2_with fail
      refine (HW.out _).mono ?_
      rintro e w2 ⟨rfl, hb2⟩
      have HB2 := Lib.hid (HB1.out.trans (hb2.mono HB1.out.size))
      clear hb2
      go_wp2_with fail
      go_ret
      exact ⟨rfl, HB2.out⟩
    · go_wp2_with fail
      refine (HN.out _ HB1.out).mono ?_
      rintro e w2 ⟨rfl, hb2⟩
      have HB2 := Lib.hid (HB1.out.trans (hb2.mono HB1.out.size))
      clear hb2
      go_wp2_with fail
      refine (HN.out _ HB2.out).mono ?_
      rintro e w3 ⟨rfl, hb3⟩
      have HB3 := Lib.hid (HB2.out.trans (hb3.mono HB2.out.size))
      clear hb3
      go_wp2_with fail
      refine (HW.out _).mono ?_
      rintro e w4 ⟨rfl, hb4⟩
      have HB4 := Lib.hid (HB3.out.trans (hb4.mono HB3.out.size))
      clear hb4
      go_wp2_with fail
      go_ret
      exact ⟨rfl, HB4.out⟩
  have hv : validL m gs = true := by
    unfold newErr at hbad
    cases q : validL m gs with
    | true => rfl
    | false => rw [if_pos q] at hbad; omega
  have hm : 0 ≤ m ∧ m ≤ 8 := by
    unfold newErr at hbad
    rw [if_neg (by rw [hv]; decide)] at hbad
    by_cases h : m < 0 ∨ 8 < m
    · rw [if_pos h] at hbad; omega
    · omega
  obtain ⟨n, rfl⟩ : ∃ n : Nat, m = (n : Int) := Int.eq_ofNat_of_zero_le hm.1
  have hg0 : 0 < gs.length := by have := validL_len hv; omega
  have HN := Lib.hid fun W (h : Below w.heap.size w W) => newO_ok p gs c n hg9 W (hG.belowV h) hv hm.1 hm.2
  have HR := Lib.hid fun W B v ss (h : StO W w.heap.size B v gs n ss) => resO_any hv W h
  have HO := Lib.hid fun W (h : Below w.heap.size w W) => refOfNil_any p gs c n hv hm.1 hm.2 W (hG.belowV h)
  have HX := Lib.hid hA
  clear hA hG hbad hv hm
  go_enter Tryz.func4, Tryz.ntmps4
  go_wp2_with fail
  refine HF.out.mono ?_
  rintro e w1 ⟨h1, hb1⟩
  have HB1 := Lib.hid hb1
  clear hb1
  rcases h1 with rfl | ⟨rfl, h60⟩
  · go_wp2_with fail
    refine (HW.out _).mono ?_
    rintro e w2 ⟨rfl, hb2⟩
    have HB2 := Lib.hid (HB1.out.trans (hb2.mono HB1.out.size))
    clear hb2
    go_wp2_with fail
    go_ret
    exact ⟨rfl, HB2.out⟩
  go_wp2_with fail
  refine (HN.out _ HB1.out).mono ?_
  rintro e w2 ⟨Bx, rfl, hBx, hAx, hb2⟩
  have HB2 := Lib.hid (HB1.out.trans (hb2.mono HB1.out.size))
  have hX2 := stO_new hAx HB1.out.size
  have hXlt := hAx.lt
  clear hAx hb2 hBx
  go_wp2_with fail
  refine (HN.out _ HB2.out).mono ?_
  rintro e w3 ⟨By, rfl, hBy, hAy, hb3⟩
  have HB3 := Lib.hid (HB2.out.trans (hb3.mono HB2.out.size))
  have HY3 := Lib.hid (stO_new hAy HB2.out.size)
  have HX3 := Lib.hid (hX2.belowV hb3)
  have hxy : Bx ≠ By := by omega
  clear hAy hb3 hX2 hBy hXlt HN HF
  go_wp2_with fail
  go_loopw [11, 12] (fun s t wr => ∃ (i : Nat) (ok : Bool) (v : Value) (ss : List ItR), s = .bool ok ∧ t = .int .i64 i ∧ i ≤ acts.length ∧ Hid (StO wr w.heap.size Bx v gs n ss) ∧ Hid (StO wr w.heap.size By (.slice none 0 0) gs n []) ∧ Hid (ok = true → Sums (acts.take i) (vals ss) ∧ Small (acts.take i)) ∧ Hid (Below w.heap.size w wr)) (fun _ t _ => acts.length - (RowKit.intOf t).toNat)
  case atStart => exact ⟨0, true, _, [], rfl, rfl, Nat.zero_le _, HX3.out, HY3.out, (fun _ => ⟨fun q => rfl, fun a ha => by cases ha⟩), HB3.out⟩
  case round =>
    clear HB3 HX3 HY3 HB1 HB2
    obtain ⟨i, ok, v, ss, rfl, rfl, hin, HS, HYS, HOK, HBw⟩ := hrel
    by_cases hlt : i < acts.length
    · obtain ⟨b, off, rfl, hbl, hra⟩ := HX.out (by omega)
      obtain ⟨c1, c2, c3, c4⟩ := hra i hlt
      have HI := Lib.hid (show ∀ W, Below w.heap.size w W → Below w.heap.size w W ∧ (W.cell? ⟨b, off + i * 3 + 1, none⟩ = some (.int .i64 (acts[i]?.getD ac0).2.1) ∧ W.cell? ⟨b, off + i * 3 + 2, none⟩ = some (rowv (acts[i]?.getD ac0).2.2)) from fun W h => ⟨h, (h.cell (p := ⟨b, off + i * 3 + 1, none⟩) hbl).trans c1, (h.cell (p := ⟨b, off + i * 3 + 2, none⟩) hbl).trans c2⟩)
      have HADD := Lib.hid fun W (hb : Below w.heap.size w W) (hs : StO W w.heap.size Bx v gs n ss) => act_any (acts[i]?.getD ac0).2.2 (acts[i]?.getD ac0).2.1 hg0 W hb.size hs (c3.belowV hb) c4
      have HNX := Lib.hid (show ∀ l', (∀ q, cnt l' q = cnt (vals ss) q + if cmpRow (acts[i]?.getD ac0).2.2.2.1 q = 0 then (acts[i]?.getD ac0).2.1 else 0) → (-1000000 ≤ (acts[i]?.getD ac0).2.1 ∧ (acts[i]?.getD ac0).2.1 ≤ 1000000) → (Sums (acts.take i) (vals ss) ∧ Small (acts.take i)) → Sums (acts.take (i + 1)) l' ∧ Small (acts.take (i + 1)) from fun l' h hk ⟨h1, h2⟩ => ⟨fun q => by rw [h, h1, sumA_next hlt], small_next hlt h2 hk⟩)
      have HNG := Lib.hid (show (acts[i]?.getD ac0).2.1 = (acts[i]?.getD ac0).2.1 from rfl)
      have hi0 : (0 : Int) ≤ (i : Int) := by omega
      have hi1 : (i : Int) < (acts.length : Int) := by omega
      clear hra c1 c2 c3 c4
      generalize acts[i]?.getD ac0 = a at HI HADD HNX HNG
      obtain ⟨a0, a1, ⟨rq, rx, rc⟩⟩ := a
      dsimp only [rowv] at HI HADD HNX HNG
      have hng := HNG.out
      go_wp2_with fail
      refine wp_region_held_drew (S := fun W' : World => Below w.heap.size w W' ∧ (W'.cell? ⟨b, off + i * 3 + 1, none⟩ = some (.int .i64 a1) ∧ W'.cell? ⟨b, off + i * 3 + 2, none⟩ = some (.slice rq rx.length rc))) (by kernel_rfl) (HI.out _ (HBw.out.trans ((Below.refl _ _).drew.mono HBw.out.size))) (fun hHeld => ?_)
      refine wpAnyH_take (i := 0) (oi := _) (v := ?_) rfl (by kernel_rfl) (by kernel_rfl) (by kernel_rfl) (fun _ _ _ h => h) (Or.inl ⟨by rfl, ?_⟩) (by assumption) ?_
      rotate_left
      · intro w hSw
        try dsimp only at hSw
        go_simp
        all_goals with_reducible rfl
      simp only [List.getElem_toArray, List.getElem_cons_succ, List.getElem_cons_zero, Act.put, List.setIfInBounds_toArray, List.set_cons_zero, List.set_cons_succ]
      refine wpAnyH_take (i := 1) (oi := _) (v := ?_) rfl (by kernel_rfl) (by kernel_rfl) (by kernel_rfl) (fun _ _ _ h => h) (Or.inl ⟨by rfl, ?_⟩) (by assumption) ?_
      rotate_left
      · intro w hSw
        try dsimp only at hSw
        go_simp
        all_goals with_reducible rfl
      simp only [List.getElem_toArray, List.getElem_cons_succ, List.getElem_cons_zero, Act.put, List.setIfInBounds_toArray, List.set_cons_zero, List.set_cons_succ]
      refine wpAnyH_take (i := 2) (oi := _) (v := ?_) rfl (by kernel_rfl) (by kernel_rfl) (by kernel_rfl) (fun _ _ _ h => h) (Or.inl ⟨by rfl, ?_⟩) (by assumption) ?_
      rotate_left
      · intro w hSw
        try dsimp only at hSw
        go_simp
        all_goals with_reducible rfl
      simp only [List.getElem_toArray, List.getElem_cons_succ, List.getElem_cons_zero, Act.put, List.setIfInBounds_toArray, List.set_cons_zero, List.set_cons_succ]
      refine wpAnyH_take (i := 3) (oi := _) (v := ?_) rfl (by kernel_rfl) (by kernel_rfl) (by kernel_rfl) (fun _ _ _ h => h) (Or.inl ⟨by rfl, ?_⟩) (by assumption) ?_
      rotate_left
      · intro w hSw
        try dsimp only at hSw
        go_simp
        all_goals with_reducible rfl
      simp only [List.getElem_toArray, List.getElem_cons_succ, List.getElem_cons_zero, Act.put, List.setIfInBounds_toArray, List.set_cons_zero, List.set_cons_succ]
      refine wpAnyH_take (i := 4) (oi := _) (v := ?_) rfl (by kernel_rfl) (by kernel_rfl) (by kernel_rfl) (fun _ _ _ h => h) (Or.inl ⟨by rfl, ?_⟩) (by assumption) ?_
      rotate_left
      · intro w hSw
        try dsimp only at hSw
        go_simp
        all_goals with_reducible rfl
      simp only [List.getElem_toArray, List.getElem_cons_succ, List.getElem_cons_zero, Act.put, List.setIfInBounds_toArray, List.set_cons_zero, List.set_cons_succ]
      refine wpAnyH_take (i := 5) (oi := _) (v := ?_) rfl (by kernel_rfl) (by kernel_rfl) (by kernel_rfl) (fun _ _ _ h => h) (Or.inl ⟨by rfl, ?_⟩) (by assumption) ?_
      rotate_left
      · intro w hSw
        try dsimp only at hSw
        go_simp
        all_goals with_reducible rfl
      simp only [List.getElem_toArray, List.getElem_cons_succ, List.getElem_cons_zero, Act.put, List.setIfInBounds_toArray, List.set_cons_zero, List.set_cons_succ]
      refine wpAnyH_take (i := 6) (oi := _) (v := ?_) rfl (by kernel_rfl) (by kernel_rfl) (by kernel_rfl) (fun _ _ _ h => h) (Or.inl ⟨by rfl, ?_⟩) (by assumption) ?_
      rotate_left
      · intro w hSw
        try dsimp only at hSw
        go_simp
        all_goals with_reducible rfl
      simp only [List.getElem_toArray, List.getElem_cons_succ, List.getElem_cons_zero, Act.put, List.setIfInBounds_toArray, List.set_cons_zero, List.set_cons_succ]
      refine wpAnyH_take (i := 7) (oi := _) (v := ?_) rfl (by kernel_rfl) (by kernel_rfl) (by kernel_rfl) (fun _ _ _ h => h) (Or.inl ⟨by rfl, ?_⟩) (by assumption) ?_
      rotate_left
      · intro w hSw
        try dsimp only at hSw
        go_simp
        all_goals with_reducible rfl
      simp only [List.getElem_toArray, List.getElem_cons_succ, List.getElem_cons_zero, Act.put, List.setIfInBounds_toArray, List.set_cons_zero, List.set_cons_succ]
      refine wpAnyH_take (i := 8) (oi := _) (v := ?_) rfl (by kernel_rfl) (by kernel_rfl) (by kernel_rfl) (fun _ _ _ h => h) (Or.inl ⟨by rfl, ?_⟩) (by assumption) ?_
      rotate_left
      · intro w hSw
        try dsimp only at hSw
        go_simp
        all_goals with_reducible rfl
      simp only [List.getElem_toArray, List.getElem_cons_succ, List.getElem_cons_zero, Act.put, List.setIfInBounds_toArray, List.set_cons_zero, List.set_cons_succ]
      refine wpAnyH_take (i := 9) (oi := _) (v := ?_) rfl (by kernel_rfl) (by kernel_rfl) (by kernel_rfl) (fun _ _ _ h => h) (Or.inl ⟨by rfl, ?_⟩) (by assumption) ?_
      rotate_left
      · intro w hSw
        try dsimp only at hSw
        go_simp
        all_goals with_reducible rfl
      simp only [List.getElem_toArray, List.getElem_cons_succ, List.getElem_cons_zero, Act.put, List.setIfInBounds_toArray, List.set_cons_zero, List.set_cons_succ]
      refine wpAnyH_take (i := 10) (oi := _) (v := ?_) rfl (by kernel_rfl) (by kernel_rfl) (by kernel_rfl) (fun _ _ _ h => h) (Or.inl ⟨by rfl, ?_⟩) (by assumption) ?_
      rotate_left
      · intro w hSw
        try dsimp only at hSw
        go_simp
        all_goals with_reducible rfl
      simp only [List.getElem_toArray, List.getElem_cons_succ, List.getElem_cons_zero, Act.put, List.setIfInBounds_toArray, List.set_cons_zero, List.set_cons_succ]
      refine wpAnyH_ready (rs := [11]) (by kernel_rfl) (by simp) ?_
      refine AllReadyH.cons (o := _) rfl (fun K hK => ?_) AllReadyH.nil
      go_simp
      refine (HADD.out _ hHeld.1 (HS.out.belowV (Below.refl _ _).drew)).mono ?_
      rintro e w3 ⟨er, v', ss', rfl, hS', hsum, hbl2, hkeep, hlow⟩
      have HB3 := Lib.hid (hHeld.1.trans hlow)
      have HS3 := Lib.hid hS'
      have HSUM := Lib.hid hsum
      have HY3 := Lib.hid ((HYS.out.belowV (Below.refl _ _).drew).other (HS.out.belowV (Below.refl _ _).drew) hxy.symm (fun x hx => by cases hx) hkeep)
      refine hK.out _ _ (HI.out _ HB3.out) (fun hHeld1 => ?_)
      clear hHeld hS' hsum hbl2 hkeep hlow
      clear hK K
      try simp only [List.getElem_toArray, List.getElem_cons_succ, List.getElem_cons_zero, Act.put, List.setIfInBounds_toArray, List.set_cons_zero, List.set_cons_succ]
      by_cases he : er = 0
      · have HER := Lib.hid he
        subst he
        refine wpAnyH_take (i := 12) (oi := _) (v := ?_) rfl (by kernel_rfl) (by kernel_rfl) (by kernel_rfl) (fun _ _ _ h => h) (Or.inl ⟨by rfl, ?_⟩) (by assumption) ?_
        rotate_left
        · intro w hSw
          try dsimp only at hSw
          go_simp
          all_goals with_reducible rfl
        simp only [List.getElem_toArray, List.getElem_cons_succ, List.getElem_cons_zero, Act.put, List.setIfInBounds_toArray, List.set_cons_zero, List.set_cons_succ]
        refine wpAnyH_take (i := 13) (oi := _) (v := ?_) rfl (by kernel_rfl) (by kernel_rfl) (by kernel_rfl) (fun _ _ _ h => h) (Or.inl ⟨by rfl, ?_⟩) (by assumption) ?_
        rotate_left
        · intro w hSw
          try dsimp only at hSw
          go_simp
          all_goals with_reducible rfl
        simp only [List.getElem_toArray, List.getElem_cons_succ, List.getElem_cons_zero, Act.put, List.setIfInBounds_toArray, List.set_cons_zero, List.set_cons_succ]
        refine wpAnyH_take (i := 14) (oi := _) (v := ?_) rfl (by kernel_rfl) (by kernel_rfl) (by kernel_rfl) (fun _ _ _ h => h) (Or.inl ⟨by rfl, ?_⟩) (by assumption) ?_
        rotate_left
        · intro w hSw
          try dsimp only at hSw
          go_simp
          all_goals with_reducible rfl
        simp only [List.getElem_toArray, List.getElem_cons_succ, List.getElem_cons_zero, Act.put, List.setIfInBounds_toArray, List.set_cons_zero, List.set_cons_succ]
        refine wpAnyH_take (i := 15) (oi := _) (v := ?_) rfl (by kernel_rfl) (by kernel_rfl) (by kernel_rfl) (fun _ _ _ h => h) (Or.inl ⟨by rfl, ?_⟩) (by assumption) ?_
        rotate_left
        · intro w hSw
          try dsimp only at hSw
          go_simp
          all_goals with_reducible rfl
        simp only [List.getElem_toArray, List.getElem_cons_succ, List.getElem_cons_zero, Act.put, List.setIfInBounds_toArray, List.set_cons_zero, List.set_cons_succ]
        refine wpAnyH_take (i := 16) (oi := _) (v := ?_) rfl (by kernel_rfl) (by kernel_rfl) (by kernel_rfl) (fun _ _ _ h => h) (Or.inl ⟨by rfl, ?_⟩) (by assumption) ?_
        rotate_left
        · intro w hSw
          try dsimp only at hSw
          go_simp
          all_goals with_reducible rfl
        simp only [List.getElem_toArray, List.getElem_cons_succ, List.getElem_cons_zero, Act.put, List.setIfInBounds_toArray, List.set_cons_zero, List.set_cons_succ]
        refine wpAnyH_done (by kernel_rfl) ?_ _
        clear hHeld1
        go_wp2_with fail
        go_roundw
        case rel => exact ⟨i + 1, ok, v', ss', rfl, by go_num, by omega, HS3.out, HY3.out, fun h => HNX.out _ (HSUM.out rfl).1 (HSUM.out rfl).2 (HOK.out h), HB3.out⟩
        case measure => simp [RowKit.intOf] <;> omega
      · have heb : (er == 0) = false := by simpa using he
        refine wpAnyH_take (i := 12) (oi := _) (v := ?_) rfl (by kernel_rfl) (by kernel_rfl) (by kernel_rfl) (fun _ _ _ h => h) (Or.inl ⟨by rfl, ?_⟩) (by assumption) ?_
        rotate_left
        · intro w hSw
          try dsimp only at hSw
          go_simp
          all_goals with_reducible rfl
        simp only [List.getElem_toArray, List.getElem_cons_succ, List.getElem_cons_zero, Act.put, List.setIfInBounds_toArray, List.set_cons_zero, List.set_cons_succ]
        refine wpAnyH_take (i := 13) (oi := _) (v := ?_) rfl (by kernel_rfl) (by kernel_rfl) (by kernel_rfl) (fun _ _ _ h => h) (Or.inl ⟨by rfl, ?_⟩) (by assumption) ?_
        rotate_left
        · intro w hSw
          try dsimp only at hSw
          go_simp
          all_goals with_reducible rfl
        simp only [List.getElem_toArray, List.getElem_cons_succ, List.getElem_cons_zero, Act.put, List.setIfInBounds_toArray, List.set_cons_zero, List.set_cons_succ]
        refine wpAnyH_take (i := 14) (oi := _) (v := undef) rfl (by kernel_rfl) (by kernel_rfl) (by kernel_rfl) (fun _ _ _ h => h) (Or.inr ⟨by rfl, rfl⟩) (by assumption) ?_
        simp only [List.getElem_toArray, List.getElem_cons_succ, List.getElem_cons_zero, Act.put, List.setIfInBounds_toArray, List.set_cons_zero, List.set_cons_succ]
        refine wpAnyH_take (i := 15) (oi := _) (v := ?_) rfl (by kernel_rfl) (by kernel_rfl) (by kernel_rfl) (fun _ _ _ h => h) (Or.inl ⟨by rfl, ?_⟩) (by assumption) ?_
        rotate_left
        · intro w hSw
          try dsimp only at hSw
          go_simp
          all_goals with_reducible rfl
        simp only [List.getElem_toArray, List.getElem_cons_succ, List.getElem_cons_zero, Act.put, List.setIfInBounds_toArray, List.set_cons_zero, List.set_cons_succ]
        refine wpAnyH_take (i := 16) (oi := _) (v := ?_) rfl (by kernel_rfl) (by kernel_rfl) (by kernel_rfl) (fun _ _ _ h => h) (Or.inl ⟨by rfl, ?_⟩) (by assumption) ?_
        rotate_left
        · intro w hSw
          try dsimp only at hSw
          go_simp
          all_goals with_reducible rfl
        simp only [List.getElem_toArray, List.getElem_cons_succ, List.getElem_cons_zero, Act.put, List.setIfInBounds_toArray, List.set_cons_zero, List.set_cons_succ]
        refine wpAnyH_done (by kernel_rfl) ?_ _
        clear hHeld1
        go_wp2_with fail
        go_roundw
        case rel => exact ⟨i + 1, false, v', ss', rfl, by go_num, by omega, HS3.out, HY3.out, (fun h => by cases h), HB3.out⟩
        case measure => simp [RowKit.intOf] <;> omega

    · have hge : acts.length ≤ i := by omega
      have hie : i = acts.length := by omega
      have HOK1 : Hid (ok = true → Sums acts (vals ss) ∧ Small acts) := Lib.hid fun h => by have := HOK.out h; rwa [hie, List.take_length] at this
      clear hie HOK
      go_wp2_with fail
      go_loopw [11, 13] (fun s t wr2 => ∃ (i : Nat) (ok : Bool) (t0 : Int) (u : Value) (tt : List ItR), s = .bool ok ∧ t = .int .i64 t0 ∧ t0 = (i : Int) - 1 ∧ i ≤ acts.length ∧ Hid (StO wr2 w.heap.size By u gs n tt) ∧ Hid (StO wr2 w.heap.size Bx v gs n ss) ∧ Hid (∀ x, u.ownBlock = some x → v.ownBlock ≠ some x) ∧ Hid (ok = true → (Sums acts (vals ss) ∧ Small acts) ∧ Sums (acts.drop i) (vals tt)) ∧ Hid (Below w.heap.size w wr2)) (fun _ t _ => (RowKit.intOf t + 1).toNat)
      case atStart => exact ⟨acts.length, ok, _, _, [], rfl, rfl, by go_num, Nat.le_refl _, HYS.out, HS.out, (fun x hx => by cases hx), (fun h => ⟨HOK1.out h, fun q => by rw [List.drop_length]; rfl⟩), HBw.out⟩
      case round =>
        clear HYS HS HOK1 HBw
        obtain ⟨i2, ok, t0, u, tt, rfl, rfl, ht0, hin2, HS, HXS, HAP, HOK, HBw⟩ := hrel
        by_cases hi2 : i2 = 0
        case neg =>
          obtain ⟨i, rfl⟩ : ∃ i, i2 = i + 1 := ⟨i2 - 1, by omega⟩
          obtain rfl : t0 = (i : Int) := by omega
          have hlt : i < acts.length := by omega
          clear ht0 hi2
          obtain ⟨b, off, rfl, hbl, hra⟩ := HX.out (by omega)
          obtain ⟨c1, c2, c3, c4⟩ := hra i hlt
          have HI := Lib.hid (show ∀ W, Below w.heap.size w W → Below w.heap.size w W ∧ (W.cell? ⟨b, off + i * 3 + 1, none⟩ = some (.int .i64 (acts[i]?.getD ac0).2.1) ∧ W.cell? ⟨b, off + i * 3 + 2, none⟩ = some (rowv (acts[i]?.getD ac0).2.2)) from fun W h => ⟨h, (h.cell (p := ⟨b, off + i * 3 + 1, none⟩) hbl).trans c1, (h.cell (p := ⟨b, off + i * 3 + 2, none⟩) hbl).trans c2⟩)
          have HADD := Lib.hid fun W (hb : Below w.heap.size w W) (hs : StO W w.heap.size By u gs n tt) => act_any (acts[i]?.getD ac0).2.2 (acts[i]?.getD ac0).2.1 hg0 W hb.size hs (c3.belowV hb) c4
          have HNX := Lib.hid (show ∀ l', (∀ q, cnt l' q = cnt (vals tt) q + if cmpRow (acts[i]?.getD ac0).2.2.2.1 q = 0 then (acts[i]?.getD ac0).2.1 else 0) → Sums (acts.drop (i + 1)) (vals tt) → Sums (acts.drop i) l' from fun l' h h1 q => by rw [h, h1, sumA_drop hlt])
          have HNG := Lib.hid (show (acts[i]?.getD ac0).2.1 = (acts[i]?.getD ac0).2.1 from rfl)
          have hi0 : (0 : Int) ≤ (i : Int) := by omega
          have hi1 : (i : Int) < (acts.length : Int) := by omega
          clear hra c1 c2 c3 c4
          generalize acts[i]?.getD ac0 = a at HI HADD HNX HNG
          obtain ⟨a0, a1, ⟨rq, rx, rc⟩⟩ := a
          dsimp only [rowv] at HI HADD HNX HNG
          have hng := HNG.out
          go_wp2_with fail
          refine wp_region_held_drew (S := fun W' : World => Below w.heap.size w W' ∧ (W'.cell? ⟨b, off + i * 3 + 1, none⟩ = some (.int .i64 a1) ∧ W'.cell? ⟨b, off + i * 3 + 2, none⟩ = some (.slice rq rx.length rc))) (by kernel_rfl) (HI.out _ (HBw.out.trans ((Below.refl _ _).drew.mono HBw.out.size))) (fun hHeld => ?_)
          refine wpAnyH_take (i := 0) (oi := _) (v := ?_) rfl (by kernel_rfl) (by kernel_rfl) (by kernel_rfl) (fun _ _ _ h => h) (Or.inl ⟨by rfl, ?_⟩) (by assumption) ?_
          rotate_left
          · intro w hSw
            try dsimp only at hSw
            go_simp
            all_goals with_reducible rfl
          simp only [List.getElem_toArray, List.getElem_cons_succ, List.getElem_cons_zero, Act.put, List.setIfInBounds_toArray, List.set_cons_zero, List.set_cons_succ]
          refine wpAnyH_take (i := 1) (oi := _) (v := ?_) rfl (by kernel_rfl) (by kernel_rfl) (by kernel_rfl) (fun _ _ _ h => h) (Or.inl ⟨by rfl, ?_⟩) (by assumption) ?_
          rotate_left
          · intro w hSw
            try dsimp only at hSw
            go_simp
            all_goals with_reducible rfl
          simp only [List.getElem_toArray, List.getElem_cons_succ, List.getElem_cons_zero, Act.put, List.setIfInBounds_toArray, List.set_cons_zero, List.set_cons_succ]
          refine wpAnyH_take (i := 2) (oi := _) (v := ?_) rfl (by kernel_rfl) (by kernel_rfl) (by kernel_rfl) (fun _ _ _ h => h) (Or.inl ⟨by rfl, ?_⟩) (by assumption) ?_
          rotate_left
          · intro w hSw
            try dsimp only at hSw
            go_simp
            all_goals with_reducible rfl
          simp only [List.getElem_toArray, List.getElem_cons_succ, List.getElem_cons_zero, Act.put, List.setIfInBounds_toArray, List.set_cons_zero, List.set_cons_succ]
          refine wpAnyH_take (i := 3) (oi := _) (v := ?_) rfl (by kernel_rfl) (by kernel_rfl) (by kernel_rfl) (fun _ _ _ h => h) (Or.inl ⟨by rfl, ?_⟩) (by assumption) ?_
          rotate_left
          · intro w hSw
            try dsimp only at hSw
            go_simp
            all_goals with_reducible rfl
          simp only [List.getElem_toArray, List.getElem_cons_succ, List.getElem_cons_zero, Act.put, List.setIfInBounds_toArray, List.set_cons_zero, List.set_cons_succ]
          refine wpAnyH_take (i := 4) (oi := _) (v := ?_) rfl (by kernel_rfl) (by kernel_rfl) (by kernel_rfl) (fun _ _ _ h => h) (Or.inl ⟨by rfl, ?_⟩) (by assumption) ?_
          rotate_left
          · intro w hSw
            try dsimp only at hSw
            go_simp
            all_goals with_reducible rfl
          simp only [List.getElem_toArray, List.getElem_cons_succ, List.getElem_cons_zero, Act.put, List.setIfInBounds_toArray, List.set_cons_zero, List.set_cons_succ]
          refine wpAnyH_take (i := 5) (oi := _) (v := ?_) rfl (by kernel_rfl) (by kernel_rfl) (by kernel_rfl) (fun _ _ _ h => h) (Or.inl ⟨by rfl, ?_⟩) (by assumption) ?_
          rotate_left
          · intro w hSw
            try dsimp only at hSw
            go_simp
            all_goals with_reducible rfl
          simp only [List.getElem_toArray, List.getElem_cons_succ, List.getElem_cons_zero, Act.put, List.setIfInBounds_toArray, List.set_cons_zero, List.set_cons_succ]
          refine wpAnyH_take (i := 6) (oi := _) (v := ?_) rfl (by kernel_rfl) (by kernel_rfl) (by kernel_rfl) (fun _ _ _ h => h) (Or.inl ⟨by rfl, ?_⟩) (by assumption) ?_
          rotate_left
          · intro w hSw
            try dsimp only at hSw
            go_simp
            all_goals with_reducible rfl
          simp only [List.getElem_toArray, List.getElem_cons_succ, List.getElem_cons_zero, Act.put, List.setIfInBounds_toArray, List.set_cons_zero, List.set_cons_succ]
          refine wpAnyH_take (i := 7) (oi := _) (v := ?_) rfl (by kernel_rfl) (by kernel_rfl) (by kernel_rfl) (fun _ _ _ h => h) (Or.inl ⟨by rfl, ?_⟩) (by assumption) ?_
          rotate_left
          · intro w hSw
            try dsimp only at hSw
            go_simp
            all_goals with_reducible rfl
          simp only [List.getElem_toArray, List.getElem_cons_succ, List.getElem_cons_zero, Act.put, List.setIfInBounds_toArray, List.set_cons_zero, List.set_cons_succ]
          refine wpAnyH_take (i := 8) (oi := _) (v := ?_) rfl (by kernel_rfl) (by kernel_rfl) (by kernel_rfl) (fun _ _ _ h => h) (Or.inl ⟨by rfl, ?_⟩) (by assumption) ?_
          rotate_left
          · intro w hSw
            try dsimp only at hSw
            go_simp
            all_goals with_reducible rfl
          simp only [List.getElem_toArray, List.getElem_cons_succ, List.getElem_cons_zero, Act.put, List.setIfInBounds_toArray, List.set_cons_zero, List.set_cons_succ]
          refine wpAnyH_take (i := 9) (oi := _) (v := ?_) rfl (by kernel_rfl) (by kernel_rfl) (by kernel_rfl) (fun _ _ _ h => h) (Or.inl ⟨by rfl, ?_⟩) (by assumption) ?_
          rotate_left
          · intro w hSw
            try dsimp only at hSw
            go_simp
            all_goals with_reducible rfl
          simp only [List.getElem_toArray, List.getElem_cons_succ, List.getElem_cons_zero, Act.put, List.setIfInBounds_toArray, List.set_cons_zero, List.set_cons_succ]
          refine wpAnyH_take (i := 10) (oi := _) (v := ?_) rfl (by kernel_rfl) (by kernel_rfl) (by kernel_rfl) (fun _ _ _ h => h) (Or.inl ⟨by rfl, ?_⟩) (by assumption) ?_
          rotate_left
          · intro w hSw
            try dsimp only at hSw
            go_simp
            all_goals with_reducible rfl
          simp only [List.getElem_toArray, List.getElem_cons_succ, List.getElem_cons_zero, Act.put, List.setIfInBounds_toArray, List.set_cons_zero, List.set_cons_succ]
          refine wpAnyH_ready (rs := [11]) (by kernel_rfl) (by simp) ?_
          refine AllReadyH.cons (o := _) rfl (fun K hK => ?_) AllReadyH.nil
          go_simp
          refine (HADD.out _ hHeld.1 (HS.out.belowV (Below.refl _ _).drew)).mono ?_
          rintro e w3 ⟨er, v', ss', rfl, hS', hsum, hbl2, hkeep, hlow⟩
          have HB3 := Lib.hid (hHeld.1.trans hlow)
          have HS3 := Lib.hid hS'
          have HSUM := Lib.hid hsum
          have HX3 := Lib.hid ((HXS.out.belowV (Below.refl _ _).drew).other (HS.out.belowV (Below.refl _ _).drew) hxy (fun x hx e => HAP.out x e hx) hkeep)
          have HAP3 := Lib.hid (apart_step (HXS.out.belowV (Below.refl _ _).drew) HAP.out hbl2)
          refine hK.out _ _ (HI.out _ HB3.out) (fun hHeld1 => ?_)
          clear hHeld hS' hsum hbl2 hkeep hlow
          clear hK K
          try simp only [List.getElem_toArray, List.getElem_cons_succ, List.getElem_cons_zero, Act.put, List.setIfInBounds_toArray, List.set_cons_zero, List.set_cons_succ]
          by_cases he : er = 0
          · have HER := Lib.hid he
            subst he
            refine wpAnyH_take (i := 12) (oi := _) (v := ?_) rfl (by kernel_rfl) (by kernel_rfl) (by kernel_rfl) (fun _ _ _ h => h) (Or.inl ⟨by rfl, ?_⟩) (by assumption) ?_
            rotate_left
            · intro w hSw
              try dsimp only at hSw
              go_simp
              all_goals with_reducible rfl
            simp only [List.getElem_toArray, List.getElem_cons_succ, List.getElem_cons_zero, Act.put, List.setIfInBounds_toArray, List.set_cons_zero, List.set_cons_succ]
            refine wpAnyH_take (i := 13) (oi := _) (v := ?_) rfl (by kernel_rfl) (by kernel_rfl) (by kernel_rfl) (fun _ _ _ h => h) (Or.inl ⟨by rfl, ?_⟩) (by assumption) ?_
            rotate_left
            · intro w hSw
              try dsimp only at hSw
              go_simp
              all_goals with_reducible rfl
            simp only [List.getElem_toArray, List.getElem_cons_succ, List.getElem_cons_zero, Act.put, List.setIfInBounds_toArray, List.set_cons_zero, List.set_cons_succ]
            refine wpAnyH_take (i := 14) (oi := _) (v := ?_) rfl (by kernel_rfl) (by kernel_rfl) (by kernel_rfl) (fun _ _ _ h => h) (Or.inl ⟨by rfl, ?_⟩) (by assumption) ?_
            rotate_left
            · intro w hSw
              try dsimp only at hSw
              go_simp
              all_goals with_reducible rfl
            simp only [List.getElem_toArray, List.getElem_cons_succ, List.getElem_cons_zero, Act.put, List.setIfInBounds_toArray, List.set_cons_zero, List.set_cons_succ]
            refine wpAnyH_take (i := 15) (oi := _) (v := ?_) rfl (by kernel_rfl) (by kernel_rfl) (by kernel_rfl) (fun _ _ _ h => h) (Or.inl ⟨by rfl, ?_⟩) (by assumption) ?_
            rotate_left
            · intro w hSw
              try dsimp only at hSw
              go_simp
              all_goals with_reducible rfl
            simp only [List.getElem_toArray, List.getElem_cons_succ, List.getElem_cons_zero, Act.put, List.setIfInBounds_toArray, List.set_cons_zero, List.set_cons_succ]
            refine wpAnyH_take (i := 16) (oi := _) (v := ?_) rfl (by kernel_rfl) (by kernel_rfl) (by kernel_rfl) (fun _ _ _ h => h) (Or.inl ⟨by rfl, ?_⟩) (by assumption) ?_
            rotate_left
            · intro w hSw
              try dsimp only at hSw
              go_simp
              all_goals with_reducible rfl
            simp only [List.getElem_toArray, List.getElem_cons_succ, List.getElem_cons_zero, Act.put, List.setIfInBounds_toArray, List.set_cons_zero, List.set_cons_succ]
            refine wpAnyH_done (by kernel_rfl) ?_ _
            clear hHeld1
            go_wp2_with fail
            go_roundw
            case rel => exact ⟨i, ok, _, v', ss', rfl, rfl, by go_num, by omega, HS3.out, HX3.out, HAP3.out, fun h => ⟨(HOK.out h).1, HNX.out _ (HSUM.out rfl).1 (HOK.out h).2⟩, HB3.out⟩
            case measure => simp [RowKit.intOf] <;> omega
          · have heb : (er == 0) = false := by simpa using he
            refine wpAnyH_take (i := 12) (oi := _) (v := ?_) rfl (by kernel_rfl) (by kernel_rfl) (by kernel_rfl) (fun _ _ _ h => h) (Or.inl ⟨by rfl, ?_⟩) (by assumption) ?_
            rotate_left
            · intro w hSw
              try dsimp only at hSw
              go_simp
              all_goals with_reducible rfl
            simp only [List.getElem_toArray, List.getElem_cons_succ, List.getElem_cons_zero, Act.put, List.setIfInBounds_toArray, List.set_cons_zero, List.set_cons_succ]
            refine wpAnyH_take (i := 13) (oi := _) (v := ?_) rfl (by kernel_rfl) (by kernel_rfl) (by kernel_rfl) (fun _ _ _ h => h) (Or.inl ⟨by rfl, ?_⟩) (by assumption) ?_
            rotate_left
            · intro w hSw
              try dsimp only at hSw
              go_simp
              all_goals with_reducible rfl
            simp only [List.getElem_toArray, List.getElem_cons_succ, List.getElem_cons_zero, Act.put, List.setIfInBounds_toArray, List.set_cons_zero, List.set_cons_succ]
            refine wpAnyH_take (i := 14) (oi := _) (v := undef) rfl (by kernel_rfl) (by kernel_rfl) (by kernel_rfl) (fun _ _ _ h => h) (Or.inr ⟨by rfl, rfl⟩) (by assumption) ?_
            simp only [List.getElem_toArray, List.getElem_cons_succ, List.getElem_cons_zero, Act.put, List.setIfInBounds_toArray, List.set_cons_zero, List.set_cons_succ]
            refine wpAnyH_take (i := 15) (oi := _) (v := ?_) rfl (by kernel_rfl) (by kernel_rfl) (by kernel_rfl) (fun _ _ _ h => h) (Or.inl ⟨by rfl, ?_⟩) (by assumption) ?_
            rotate_left
            · intro w hSw
              try dsimp only at hSw
              go_simp
              all_goals with_reducible rfl
            simp only [List.getElem_toArray, List.getElem_cons_succ, List.getElem_cons_zero, Act.put, List.setIfInBounds_toArray, List.set_cons_zero, List.set_cons_succ]
            refine wpAnyH_take (i := 16) (oi := _) (v := ?_) rfl (by kernel_rfl) (by kernel_rfl) (by kernel_rfl) (fun _ _ _ h => h) (Or.inl ⟨by rfl, ?_⟩) (by assumption) ?_
            rotate_left
            · intro w hSw
              try dsimp only at hSw
              go_simp
              all_goals with_reducible rfl
            simp only [List.getElem_toArray, List.getElem_cons_succ, List.getElem_cons_zero, Act.put, List.setIfInBounds_toArray, List.set_cons_zero, List.set_cons_succ]
            refine wpAnyH_done (by kernel_rfl) ?_ _
            clear hHeld1
            go_wp2_with fail
            go_roundw
            case rel => exact ⟨i, false, _, v', ss', rfl, rfl, by go_num, by omega, HS3.out, HX3.out, HAP3.out, (fun h => by cases h), HB3.out⟩
            case measure => simp [RowKit.intOf] <;> omega

        case pos =>
          subst hi2
          obtain rfl : t0 = -1 := by omega
          clear ht0
          have hneg : ¬ ((0 : Int) ≤ -1) := by decide
          cases ok with
          | false =>
            clear HOK HAP HS HXS
            go_wp2_with fail
            refine (HW.out _).mono ?_
            rintro e w4 ⟨rfl, hb4⟩
            have HB4 := Lib.hid (HBw.out.trans (hb4.mono HBw.out.size))
            clear hb4
            go_wp2_with fail
            go_ret
            exact ⟨rfl, HB4.out⟩
          | true =>
            have hok := HOK.out rfl
            have HSM := Lib.hid hok.1.2
            have HSX := Lib.hid hok.1.1
            have heq : vals tt = vals ss := bags_same HS.out.2.1 HXS.out.2.1 fun q => by rw [hok.2, hok.1.1]; rfl
            have HEQ := Lib.hid heq
            clear hok HOK HAP heq
            go_wp2_with fail
            refine (HR.out _ Bx v ss HXS.out).mono ?_
            rintro e w4 ⟨va, rfl, hoa, hb4⟩
            obtain ⟨pa, ca, rfl⟩ := slice_of_owns hoa
            have HB4 := Lib.hid (HBw.out.trans (hb4.mono HBw.out.size))
            have HX4 := Lib.hid (HXS.out.belowV hb4)
            have HY4 := Lib.hid (HS.out.belowV hb4)
            have HVA := Lib.hid (valsIn_of_owns hoa)
            clear hb4 hoa
            go_wp2_with fail
            refine (HR.out _ By u tt HY4.out).mono ?_
            rintro e w5 ⟨vb, rfl, hob, hb5⟩
            rw [HEQ.out] at hob ⊢
            obtain ⟨pb, cb, rfl⟩ := slice_of_owns hob
            have HB5 := Lib.hid (HB4.out.trans (hb5.mono HB4.out.size))
            have HX5 := Lib.hid (HX4.out.belowV hb5)
            have HY5 := Lib.hid (HY4.out.belowV hb5)
            have HVA5 := Lib.hid (HVA.out.belowV hb5)
            have HVB := Lib.hid (valsIn_of_owns hob)
            have hyl : (resVal gs (vals ss)).length ≤ 100 := by
              unfold resVal
              split
              · simp [toldV]; omega
              · simp
            clear hb5 hob HVA HX4 HY4 HB4 HS HXS HBw
            generalize resErr (vals ss) = er
            generalize resVal gs (vals ss) = ys at hyl HVA5 HVB ⊢
            have hee : (er != er) = false := by simp
            have HSR := Lib.hid (Same_any pa pb ys ca cb ys.length rfl (by omega) w5 HVA5.out HVB.out)
            clear hyl
            go_wp2_with fail
            refine HSR.out.mono ?_
            rintro e w6 ⟨rfl, hb6⟩
            have HB6 := Lib.hid (HB5.out.trans (hb6.mono HB5.out.size))
            have HX6 := Lib.hid (HX5.out.belowV hb6)
            have HY6 := Lib.hid (HY5.out.belowV hb6)
            clear hb6 HX5 HY5 HB5 HVA5 HVB HSR
            go_wp2_with fail
            refine (bagO_any w6 HX6.out).mono ?_
            rintro e w7 ⟨p7, c7, cc, rfl, hi7, hv7, hb7⟩
            have HB7 := Lib.hid (HB6.out.trans (hb7.mono HB6.out.size))
            have HX7 := Lib.hid (HX6.out.belowV hb7)
            have HY7 := Lib.hid (HY6.out.belowV hb7)
            have HI7 := Lib.hid (And.intro hi7 hv7)
            clear hb7 HX6 HY6 HB6 hi7 hv7
            go_wp2_with fail
            refine (bagO_any w7 HY7.out).mono ?_
            rintro e w8 ⟨p8, c8, dd, rfl, hi8, hv8, hb8⟩
            have HB8 := Lib.hid (HB7.out.trans (hb8.mono HB7.out.size))
            have HX8 := Lib.hid (HX7.out.belowV hb8)
            have HSB := Lib.hid (SameB_any p7 p8 cc dd c7 c8 (by rw [HI7.out.2, hv8, HEQ.out]) (by
              have e1 := congrArg List.length HI7.out.2
              rw [vals_len, vals_len] at e1
              have := HX7.out.1.2.2.2.2
              omega) w8 (HI7.out.1.belowV hb8) hi8)
            clear hb8 HX7 HY7 HB7 hi8 hv8 HI7 HEQ
            go_wp2_with fail
            refine HSB.out.mono ?_
            rintro e w9 ⟨rfl, hb9⟩
            have HB9 := Lib.hid (HB8.out.trans (hb9.mono HB8.out.size))
            have HX9 := Lib.hid (HX8.out.belowV hb9)
            clear hb9 HX8 HB8 HSB
            go_wp2_with fail
            go_loopw [16] (fun s wr3 => ∃ (i : Nat) (v : Value) (ss : List ItR), s = .int .i64 i ∧ i ≤ acts.length ∧ Hid (StO wr3 w.heap.size Bx v gs n ss) ∧ Hid (∀ q, cnt (vals ss) q = sumA acts q - sumA (acts.take i) q) ∧ Hid (Below w.heap.size w wr3)) (fun s _ => acts.length - (RowKit.intOf s).toNat)
            case atStart => exact ⟨0, v, ss, rfl, Nat.zero_le _, HX9.out, (fun q => by rw [HSX.out q]; simp [sumA]), HB9.out⟩
            case round =>
              clear HB9 HX9 HSX
              obtain ⟨i, v, ss, rfl, hin3, HS, HCN, HBw⟩ := hrel
              have hcn := HCN.out
              by_cases hlt : i < acts.length
              · obtain ⟨b, off, rfl, hbl, hra⟩ := HX.out (by omega)
                obtain ⟨c1, c2, c3, c4⟩ := hra i hlt
                have HI := Lib.hid (show ∀ W, Below w.heap.size w W → Below w.heap.size w W ∧ (W.cell? ⟨b, off + i * 3 + 1, none⟩ = some (.int .i64 (acts[i]?.getD ac0).2.1) ∧ W.cell? ⟨b, off + i * 3 + 2, none⟩ = some (rowv (acts[i]?.getD ac0).2.2)) from fun W h => ⟨h, (h.cell (p := ⟨b, off + i * 3 + 1, none⟩) hbl).trans c1, (h.cell (p := ⟨b, off + i * 3 + 2, none⟩) hbl).trans c2⟩)
                have HADD := Lib.hid fun W (hb : Below w.heap.size w W) (hs : StO W w.heap.size Bx v gs n ss) => act_any (acts[i]?.getD ac0).2.2 (-(acts[i]?.getD ac0).2.1) hg0 W hb.size hs (c3.belowV hb) c4
                have HNX := Lib.hid (show ∀ l', (∀ q, cnt l' q = cnt (vals ss) q + if cmpRow (acts[i]?.getD ac0).2.2.2.1 q = 0 then -(acts[i]?.getD ac0).2.1 else 0) → ∀ q, cnt l' q = sumA acts q - sumA (acts.take (i + 1)) q from fun l' h q => by
                  rw [h, hcn, sumA_next hlt]
                  split <;> omega)
                have HNG := Lib.hid (show IntKind.i64.wrap (-(acts[i]?.getD ac0).2.1) = -(acts[i]?.getD ac0).2.1 from by have := small_at HSM.out hlt; rw [IntKind.wrap_i64]; omega)
                have hi0 : (0 : Int) ≤ (i : Int) := by omega
                have hi1 : (i : Int) < (acts.length : Int) := by omega
                clear hra c1 c2 c3 c4
                generalize acts[i]?.getD ac0 = a at HI HADD HNX HNG
                obtain ⟨a0, a1, ⟨rq, rx, rc⟩⟩ := a
                dsimp only [rowv] at HI HADD HNX HNG
                have hng := HNG.out
                go_wp2_with fail
                refine wp_region_held_drew (S := fun W' : World => Below w.heap.size w W' ∧ (W'.cell? ⟨b, off + i * 3 + 1, none⟩ = some (.int .i64 a1) ∧ W'.cell? ⟨b, off + i * 3 + 2, none⟩ = some (.slice rq rx.length rc))) (by kernel_rfl) (HI.out _ (HBw.out.trans ((Below.refl _ _).drew.mono HBw.out.size))) (fun hHeld => ?_)
                refine wpAnyH_take (i := 0) (oi := _) (v := ?_) rfl (by kernel_rfl) (by kernel_rfl) (by kernel_rfl) (fun _ _ _ h => h) (Or.inl ⟨by rfl, ?_⟩) (by assumption) ?_
                rotate_left
                · intro w hSw
                  try dsimp only at hSw
                  go_simp
                  all_goals with_reducible rfl
                simp only [List.getElem_toArray, List.getElem_cons_succ, List.getElem_cons_zero, Act.put, List.setIfInBounds_toArray, List.set_cons_zero, List.set_cons_succ]
                refine wpAnyH_take (i := 1) (oi := _) (v := ?_) rfl (by kernel_rfl) (by kernel_rfl) (by kernel_rfl) (fun _ _ _ h => h) (Or.inl ⟨by rfl, ?_⟩) (by assumption) ?_
                rotate_left
                · intro w hSw
                  try dsimp only at hSw
                  go_simp
                  all_goals with_reducible rfl
                simp only [List.getElem_toArray, List.getElem_cons_succ, List.getElem_cons_zero, Act.put, List.setIfInBounds_toArray, List.set_cons_zero, List.set_cons_succ]
                refine wpAnyH_take (i := 2) (oi := _) (v := ?_) rfl (by kernel_rfl) (by kernel_rfl) (by kernel_rfl) (fun _ _ _ h => h) (Or.inl ⟨by rfl, ?_⟩) (by assumption) ?_
                rotate_left
                · intro w hSw
                  try dsimp only at hSw
                  go_simp
                  all_goals with_reducible rfl
                simp only [List.getElem_toArray, List.getElem_cons_succ, List.getElem_cons_zero, Act.put, List.setIfInBounds_toArray, List.set_cons_zero, List.set_cons_succ]
                refine wpAnyH_take (i := 3) (oi := _) (v := ?_) rfl (by kernel_rfl) (by kernel_rfl) (by kernel_rfl) (fun _ _ _ h => h) (Or.inl ⟨by rfl, ?_⟩) (by assumption) ?_
                rotate_left
                · intro w hSw
                  try dsimp only at hSw
                  go_simp
                  all_goals with_reducible rfl
                simp only [List.getElem_toArray, List.getElem_cons_succ, List.getElem_cons_zero, Act.put, List.setIfInBounds_toArray, List.set_cons_zero, List.set_cons_succ]
                refine wpAnyH_take (i := 4) (oi := _) (v := ?_) rfl (by kernel_rfl) (by kernel_rfl) (by kernel_rfl) (fun _ _ _ h => h) (Or.inl ⟨by rfl, ?_⟩) (by assumption) ?_
                rotate_left
                · intro w hSw
                  try dsimp only at hSw
                  go_simp
                  all_goals with_reducible rfl
                simp only [List.getElem_toArray, List.getElem_cons_succ, List.getElem_cons_zero, Act.put, List.setIfInBounds_toArray, List.set_cons_zero, List.set_cons_succ]
                refine wpAnyH_take (i := 5) (oi := _) (v := ?_) rfl (by kernel_rfl) (by kernel_rfl) (by kernel_rfl) (fun _ _ _ h => h) (Or.inl ⟨by rfl, ?_⟩) (by assumption) ?_
                rotate_left
                · intro w hSw
                  try dsimp only at hSw
                  go_simp
                  all_goals with_reducible rfl
                simp only [List.getElem_toArray, List.getElem_cons_succ, List.getElem_cons_zero, Act.put, List.setIfInBounds_toArray, List.set_cons_zero, List.set_cons_succ]
                refine wpAnyH_take (i := 6) (oi := _) (v := ?_) rfl (by kernel_rfl) (by kernel_rfl) (by kernel_rfl) (fun _ _ _ h => h) (Or.inl ⟨by rfl, ?_⟩) (by assumption) ?_
                rotate_left
                · intro w hSw
                  try dsimp only at hSw
                  go_simp
                  all_goals with_reducible rfl
                simp only [List.getElem_toArray, List.getElem_cons_succ, List.getElem_cons_zero, Act.put, List.setIfInBounds_toArray, List.set_cons_zero, List.set_cons_succ]
                refine wpAnyH_take (i := 7) (oi := _) (v := ?_) rfl (by kernel_rfl) (by kernel_rfl) (by kernel_rfl) (fun _ _ _ h => h) (Or.inl ⟨by rfl, ?_⟩) (by assumption) ?_
                rotate_left
                · intro w hSw
                  try dsimp only at hSw
                  go_simp
                  all_goals with_reducible rfl
                simp only [List.getElem_toArray, List.getElem_cons_succ, List.getElem_cons_zero, Act.put, List.setIfInBounds_toArray, List.set_cons_zero, List.set_cons_succ]
                refine wpAnyH_take (i := 8) (oi := _) (v := ?_) rfl (by kernel_rfl) (by kernel_rfl) (by kernel_rfl) (fun _ _ _ h => h) (Or.inl ⟨by rfl, ?_⟩) (by assumption) ?_
                rotate_left
                · intro w hSw
                  try dsimp only at hSw
                  go_simp
                  all_goals with_reducible rfl
                simp only [List.getElem_toArray, List.getElem_cons_succ, List.getElem_cons_zero, Act.put, List.setIfInBounds_toArray, List.set_cons_zero, List.set_cons_succ]
                refine wpAnyH_take (i := 9) (oi := _) (v := ?_) rfl (by kernel_rfl) (by kernel_rfl) (by kernel_rfl) (fun _ _ _ h => h) (Or.inl ⟨by rfl, ?_⟩) (by assumption) ?_
                rotate_left
                · intro w hSw
                  try dsimp only at hSw
                  go_simp
                  all_goals with_reducible rfl
                simp only [List.getElem_toArray, List.getElem_cons_succ, List.getElem_cons_zero, Act.put, List.setIfInBounds_toArray, List.set_cons_zero, List.set_cons_succ]
                refine wpAnyH_take (i := 10) (oi := _) (v := ?_) rfl (by kernel_rfl) (by kernel_rfl) (by kernel_rfl) (fun _ _ _ h => h) (Or.inl ⟨by rfl, ?_⟩) (by assumption) ?_
                rotate_left
                · intro w hSw
                  try dsimp only at hSw
                  go_simp
                  all_goals with_reducible rfl
                simp only [List.getElem_toArray, List.getElem_cons_succ, List.getElem_cons_zero, Act.put, List.setIfInBounds_toArray, List.set_cons_zero, List.set_cons_succ]
                refine wpAnyH_take (i := 11) (oi := _) (v := ?_) rfl (by kernel_rfl) (by kernel_rfl) (by kernel_rfl) (fun _ _ _ h => h) (Or.inl ⟨by rfl, ?_⟩) (by assumption) ?_
                rotate_left
                · intro w hSw
                  try dsimp only at hSw
                  go_simp
                  all_goals with_reducible rfl
                simp only [List.getElem_toArray, List.getElem_cons_succ, List.getElem_cons_zero, Act.put, List.setIfInBounds_toArray, List.set_cons_zero, List.set_cons_succ]
                refine wpAnyH_ready (rs := [12]) (by kernel_rfl) (by simp) ?_
                refine AllReadyH.cons (o := _) rfl (fun K hK => ?_) AllReadyH.nil
                go_simp
                refine (HADD.out _ hHeld.1 (HS.out.belowV (Below.refl _ _).drew)).mono ?_
                rintro e w3 ⟨er, v', ss', rfl, hS', hsum, hbl2, hkeep, hlow⟩
                have HB3 := Lib.hid (hHeld.1.trans hlow)
                have HS3 := Lib.hid hS'
                have HSUM := Lib.hid hsum
                refine hK.out _ _ (HI.out _ HB3.out) (fun hHeld1 => ?_)
                clear hHeld hS' hsum hbl2 hkeep hlow
                clear hK K
                try simp only [List.getElem_toArray, List.getElem_cons_succ, List.getElem_cons_zero, Act.put, List.setIfInBounds_toArray, List.set_cons_zero, List.set_cons_succ]
                by_cases he : er = 0
                · have hne : (er != 0) = false := by simp [he]
                  have HER := Lib.hid he
                  clear he
                  refine wpAnyH_take (i := 13) (oi := _) (v := ?_) rfl (by kernel_rfl) (by kernel_rfl) (by kernel_rfl) (fun _ _ _ h => h) (Or.inl ⟨by rfl, ?_⟩) (by assumption) ?_
                  rotate_left
                  · intro w hSw
                    try dsimp only at hSw
                    go_simp
                    all_goals with_reducible rfl
                  simp only [List.getElem_toArray, List.getElem_cons_succ, List.getElem_cons_zero, Act.put, List.setIfInBounds_toArray, List.set_cons_zero, List.set_cons_succ]
                  refine wpAnyH_done (by kernel_rfl) ?_ _
                  clear hHeld1
                  go_wp2_with fail
                  go_roundw
                  case rel => exact ⟨i + 1, v', ss', by go_num, by omega, HS3.out, HNX.out _ (HSUM.out HER.out).1, HB3.out⟩
                  case measure => simp [RowKit.intOf] <;> omega
                · have hne : (er != 0) = true := by simpa using he
                  refine wpAnyH_take (i := 13) (oi := _) (v := ?_) rfl (by kernel_rfl) (by kernel_rfl) (by kernel_rfl) (fun _ _ _ h => h) (Or.inl ⟨by rfl, ?_⟩) (by assumption) ?_
                  rotate_left
                  · intro w hSw
                    try dsimp only at hSw
                    go_simp
                    all_goals with_reducible rfl
                  simp only [List.getElem_toArray, List.getElem_cons_succ, List.getElem_cons_zero, Act.put, List.setIfInBounds_toArray, List.set_cons_zero, List.set_cons_succ]
                  refine wpAnyH_done (by kernel_rfl) ?_ _
                  clear hHeld1
                  go_wp2_with fail
                  refine (HW.out _).mono ?_
                  rintro e w4 ⟨rfl, hb4⟩
                  have HB4 := Lib.hid (HB3.out.trans (hb4.mono HB3.out.size))
                  clear hb4
                  go_wp2_with fail
                  go_ret
                  exact ⟨rfl, HB4.out⟩

              · have hge : acts.length ≤ i := by omega
                have hie : i = acts.length := by omega
                have hnil : vals ss = [] := bags_same HS.out.2.1 rfl fun q => by rw [hcn, hie, List.take_length]; show _ = (0 : Int); omega
                have hss : ss = [] := by
                  have := congrArg List.length hnil
                  rw [vals_len] at this
                  exact List.length_eq_zero_iff.1 this
                subst hss
                have hwh : wholeB (vals []) = true := rfl
                have e1 : resVal gs (vals []) = toldV gs [] := by unfold resVal; rw [if_pos hwh]; rfl
                have e2 : resErr (vals []) = 0 := by unfold resErr; rw [if_pos hwh]
                have HRX := Lib.hid (HR.out _ Bx v [] HS.out)
                rw [e1, e2] at HRX
                have e3 : totalV (vals []) = 0 := rfl
                have HE3 := Lib.hid e3
                have hyl : (toldV gs []).length ≤ 100 := by simp [toldV]; omega
                clear hnil hwh e1 e2 e3 hie hcn HCN HR
                go_wp2_with fail
                refine HRX.out.mono ?_
                rintro e w10 ⟨va, rfl, hoa, hb10⟩
                obtain ⟨pa, ca, rfl⟩ := slice_of_owns hoa
                have HB10 := Lib.hid (HBw.out.trans (hb10.mono HBw.out.size))
                have HX10 := Lib.hid (HS.out.belowV hb10)
                have HVA := Lib.hid (valsIn_of_owns hoa)
                clear hb10 hoa
                go_wp2_with fail
                refine (HO.out _ HB10.out).mono ?_
                rintro e w11 ⟨vb, rfl, hob, hb11⟩
                obtain ⟨pb, cb, rfl⟩ := slice_of_owns hob
                have HB11 := Lib.hid (HB10.out.trans (hb11.mono HB10.out.size))
                have HX11 := Lib.hid (HX10.out.belowV hb11)
                have HVA11 := Lib.hid (HVA.out.belowV hb11)
                have HVB := Lib.hid (valsIn_of_owns hob)
                clear hb11 hob HVA HX10 HB10 HS HBw HRX HO
                generalize toldV gs [] = ys at hyl HVA11 HVB ⊢
                have HSR := Lib.hid (Same_any pa pb ys ca cb ys.length rfl (by omega) w11 HVA11.out HVB.out)
                clear hyl
                go_wp2_with fail
                refine HSR.out.mono ?_
                rintro e w12 ⟨rfl, hb12⟩
                have HB12 := Lib.hid (HB11.out.trans (hb12.mono HB11.out.size))
                have HX12 := Lib.hid (HX11.out.belowV hb12)
                clear hb12 HX11 HB11 HSR HVA11 HVB
                go_wp2_with fail
                refine (emptyAcc_any _ _ _ _ _ _ _ HX12.out.1).mono ?_
                rintro e w13 ⟨rfl, rfl⟩
                have hde : decide (([] : List ItR).length = 0) = true := rfl
                rw [hde]
                clear hde
                go_wp2_with fail
                refine (rowsAcc_any _ _ _ _ _ _ _ HX12.out.1).mono ?_
                rintro e w13 ⟨rfl, hb13⟩
                rw [HE3.out]
                have HB13 := Lib.hid (HB12.out.trans (hb13.mono HB12.out.size))
                have HX13 := Lib.hid (HX12.out.belowV hb13)
                clear hb13 HX12 HB12
                go_wp2_with fail
                refine (bagO_any w13 HX13.out).mono ?_
                rintro e w14 ⟨p7, c7, cc, rfl, hi7, hv7, hb14⟩
                have hcc : cc = [] := by
                  have := congrArg List.length hv7
                  rw [vals_len] at this
                  exact List.length_eq_zero_iff.1 this
                subst hcc
                have HB14 := Lib.hid (HB13.out.trans (hb14.mono HB13.out.size))
                clear hb14 hi7 hv7 HX13 HB13
                go_wp2_with fail
                refine (HW.out _).mono ?_
                rintro e w15 ⟨rfl, hb15⟩
                have HB15 := Lib.hid (HB14.out.trans (hb15.mono HB14.out.size))
                clear hb15
                go_wp2_with fail
                go_ret
                exact ⟨rfl, HB15.out⟩


set_option maxRecDepth 100000 in
theorem lifted (os : Os) (started : os.Started) (H : Type) (enc : TypeId × Value → H) :
    ReturnsInHanded {} Tryz.checked os 4 .any (Rows.foldBackSpec.pre6 enc Tryz.prog Tryz.f4 Rows.foldBackRow.domain false) (Rows.foldBackSpec.post enc Tryz.prog Tryz.f4 false true false false) := by
  refine returnsInHanded_of_change (C := Tryz.checked) own started (by kernel_rfl) Tryz.func4
    (ChangeSpec.witness6 (enc := enc) (C := Tryz.checked) false ⟨#[], #[.slice none 0 0, .int .i64 0, .slice none 0 0], []⟩ 8 (by kernel_rfl) (by kernel_rfl) (by kernel_rfl) (by kernel_rfl)) ?_
  intro W base args ds gs before hval0 hW hcnd _
  have hval : ∀ (j : Nat) t v, Tryz.f4.params[j]? = some t → args[j]? = some v → Value.okWide Tryz.prog W .any base t v := hval0
  have hW' := hW
  obtain ⟨p, q, hA0, hV, rfl, hfz, hnd⟩ := hW
  have hA : DataW.TrodAll enc Tryz.prog W 0 (fun _ => true) true Tryz.f4.params.toList args.toList ds p := hA0
  rw [Tryz.params4] at hA hval
  obtain ⟨rfl, rfl⟩ := trodVars_none hV
  have hA' := hA
  obtain ⟨v0, vs0, d0, ds0, p0, q0, hargs, rfl, rfl, h0, r0⟩ := trodAll_cons hA
  obtain ⟨v1, vs1, d1, ds1, p1, q1, rfl, rfl, rfl, h1, r1⟩ := trodAll_cons r0
  obtain ⟨v2, vs2, d2, ds2, p2, q2, rfl, rfl, rfl, h2, r2⟩ := trodAll_cons r1
  obtain ⟨rfl, rfl, rfl⟩ := trodAll_nil r2
  obtain rfl : args = #[v0, v1, v2] := by cases args; simp_all
  obtain ⟨a0, gs, c0, rfl, hlm0, hG⟩ := open_aggs (hval 0 _ v0 rfl rfl) h0
  obtain ⟨n, rfl⟩ := okWide_int Tryz.underlying3 (hval 1 _ v1 rfl rfl)
  obtain ⟨a2, l2, c2, rfl, hlm2, hX2⟩ := open_acts (hval 2 _ v2 rfl rfl) h2
  clear hA0 hval0
  refine (walk a0 a2 gs l2 n c0 c2 hlm0 hlm2 W hG hX2).mono fun e W' ⟨he, hg⟩ => ?_
  subst he
  exact ⟨_, rfl, _, _, _, [], _, [], hW', trodAll_mk1 (shut_bool Tryz.underlying4 true), trodAll_below laidOut hg (by decide +kernel) hA' (fun x hx => by simpa using hW'.lt x (by simpa using hx)), rfl, hg.frame _, fun h => by cases h⟩

theorem over : Rows.foldBackRow.holds Tryz.pinned (OpenSpec.ofChange Rows.foldBackSpec) :=
  OpenClaim.holds_of_wide 4 Tryz.f4 rfl rfl rfl rfl rfl rfl rfl ⟨rfl, rfl, rfl, rfl, rfl⟩ rfl rfl rfl rfl rfl (by kernel_rfl) Tryz.func4 (by kernel_rfl)
    (of_decide_eq_true (by kernel_rfl)) (by unfold Func.isWrapper; first | (rw [if_pos (by decide +kernel)]; kernel_rfl) | (rw [if_neg (by decide +kernel)]; exact ⟨rfl, rfl⟩))
    (fun os started H enc _ => lifted os started H enc)

theorem proved : Rows.FoldBackSaid :=
  over
#print axioms proved
end Go.Proofs.YtkldokmmboebmaaGreat.foldBack
