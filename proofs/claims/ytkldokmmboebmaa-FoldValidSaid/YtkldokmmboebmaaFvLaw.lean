/-
  PROVED HERE: for every schema, every list of aggregates and every number the law FoldValid returns true: ValidAgg, Valid and Kinds of package fold answer as the document's own. Its arguments read afterwards as before.
-/
import Derived.Test.YtkldokmmboebmaaRows
import Derived.Test.YtkldokmmboebmaaWake5
import Derived.Test.YtkldokmmboebmaaOpenR
import Derived.Test.YtkldokmmboebmaaKinds2
import Derived.Deep.SlicePairs
import Derived.ChangeSlices
namespace Go.Proofs.Ytkldokmmboebmaa.foldValid
open Go.ChangeShapes Go.WideShapes Go.ChangeAt Go.RowKit Go.Deep
set_option linter.unusedVariables false
set_option linter.unusedSimpArgs false

set_option maxRecDepth 100000 in
theorem open_schema {H : Type} {enc : TypeId × Value → H} {W : World} {base : Nat} {v : Value} {d : DataW H} {ps : List MemPlace} (hval : Value.okWide Try.prog W .any base 23 v)
    (h : DataW.Trod enc Try.prog W 0 (fun _ => true) true 23 v d ps) : ∃ p l cap, v = .slice p l.length cap ∧ l.length ≤ cap ∧ cap ≤ maxLen ∧ ColsIn W p l ∧ (∀ j, (colAt l j).1.size ≤ maxLen) ∧ (p = none → cap = 0) := by
  obtain ⟨a, len, cap, rfl⟩ := okWide_slice Try.underlying23 hval
  obtain ⟨fuel, hf⟩ := h
  rcases open_slice_pairs Try.underlying23 Try.underlying59 (by kernel_rfl) rfl rfl (by kernel_rfl) (by kernel_rfl) hf with ⟨h0, _⟩ | ⟨a', len', cap', m, n, V0, V1, D0, D1, P0, P1, hcs, _, hlc, hcm, hm, _, hi⟩
  · simp only [Value.cells, List.cons.injEq, Value.slice.injEq, and_true] at h0
    obtain ⟨rfl, rfl, rfl⟩ := h0
    exact ⟨none, [], 0, rfl, by simp, by simp, fun h => absurd h (by simp), fun j => by simp [colAt, ByteArray.size], fun _ => rfl⟩
  · simp only [Value.cells, List.cons.injEq, Value.slice.injEq, and_true] at hcs
    obtain ⟨rfl, rfl, rfl⟩ := hcs
    rw [if_pos rfl] at hm
    subst hm
    have each : ∀ i, i < len → ∃ q : Col, (W.cell? (a'.add (i * 2)) = some (.string q.1) ∧ W.cell? (a'.add (i * 2 + 1)) = some (.int .i64 q.2)) ∧ q.1.size ≤ maxLen := fun i hil => by
      obtain ⟨c0, c1, t0, t1⟩ := hi i (by omega)
      obtain ⟨n0, e0, _, hs⟩ := DataW.trod_string Try.underlying9 t0
      obtain ⟨n1, e1, _, _⟩ := DataW.trod_int Try.underlying3 t1
      simp only [List.cons.injEq, and_true] at e0 e1
      exact ⟨(n0, n1), ⟨by rw [c0, e0], by rw [c1, e1]⟩, hs⟩
    obtain ⟨q, hq⟩ := choose_lt each
    have hl : ((List.range len).map q).length = len := by simp
    refine ⟨some a', (List.range len).map q, m, by rw [hl], by rw [hl]; omega, by omega, fun h => ?_, fun j => ?_, fun h => by cases h⟩
    · rw [hl] at h
      obtain ⟨b, off, spot⟩ := a'
      have h00 := (hq 0 h).1.1
      have hspot : spot = none := by simpa [Addr.add] using World.cell?_spot h00
      subst hspot
      have e0 := (hq 0 h).1.1
      rw [add_plain] at e0
      refine ⟨b, off, rfl, World.block_lt_of_cell? W _ e0, fun i hil => ?_⟩
      rw [hl] at hil
      obtain ⟨⟨c0, c1⟩, _⟩ := hq i hil
      rw [add_plain] at c0 c1
      have : colAt ((List.range len).map q) i = q i := by simp [colAt, hil]
      rw [this]
      exact ⟨c0, by rw [← Nat.add_assoc] at c1; exact c1⟩
    · by_cases hj : j < len
      · have : colAt ((List.range len).map q) j = q j := by simp [colAt, hj]
        rw [this]
        exact (hq j hj).2
      · have : colAt ((List.range len).map q) j = Proofs.Ytkldokmmboebmaa.c0 := by
          unfold colAt
          rw [List.getElem?_eq_none (by rw [hl]; omega)]
          rfl
        rw [this]
        simp [ByteArray.size]

set_option maxRecDepth 100000 in
/-- A list of aggregates that reads as data: kinds and columns, and their cells. -/
theorem open_aggs {H : Type} {enc : TypeId × Value → H} {W : World} {base : Nat} {v : Value} {d : DataW H} {ps : List MemPlace} (hval : Value.okWide Try.prog W .any base 24 v)
    (h : DataW.Trod enc Try.prog W 0 (fun _ => true) true 24 v d ps) : ∃ (p : Option Addr) (gs : List Ag) (cap : Nat), v = .slice p gs.length cap ∧ gs.length ≤ maxLen ∧ AggsIn W p gs := by
  obtain ⟨a0, len0, cap0, rfl⟩ := okWide_slice Try.underlying24 hval
  obtain ⟨fuel, hf⟩ := h
  rcases open_slice Try.underlying24 hf with ⟨hcs, _⟩ | ⟨a, len, cap, m, n, D, Pl, hcs, _, hlc, hcm, hm, _, hi⟩
  · simp only [Value.cells, List.cons.injEq, and_true, Value.slice.injEq] at hcs
    obtain ⟨rfl, rfl, rfl⟩ := hcs
    exact ⟨none, [], 0, rfl, by simp, fun h => absurd h (by simp)⟩
  · simp only [Value.cells, List.cons.injEq, and_true, Value.slice.injEq] at hcs
    obtain ⟨rfl, rfl, rfl⟩ := hcs
    rw [if_pos rfl] at hm
    subst hm
    have ce : Try.prog.cellsOf 28 = 2 := by kernel_rfl
    have each : ∀ i, i < len0 → ∃ q : Ag, W.cell? (a.add (i * 2)) = some (.int .i64 q.1) ∧ W.cell? (a.add (i * 2 + 1)) = some (.int .i64 q.2) := fun i hil => by
      obtain ⟨cs', h1, h2⟩ := hi i (by omega)
      rw [ce] at h1
      obtain ⟨_, hlen, hcell⟩ := World.cells?_some h1
      obtain ⟨ys, k, hk, _, _, hyl, hf⟩ := DataW.trod_struct Try.underlying28 h2
      match ys, hyl, cs', hlen with
      | [y0, y1], _, [c0, c1], _ =>
        have cI : Try.prog.cellsOf 3 = 1 := by kernel_rfl
        have g0 : DataW.trod enc Try.prog W 0 (fun _ => true) true k 3 (([c0, c1].drop 0).take (Try.prog.cellsOf 3)) = some y0 := hf 0 _ rfl
        have g1 : DataW.trod enc Try.prog W 0 (fun _ => true) true k 3 (([c0, c1].drop 1).take (Try.prog.cellsOf 3)) = some y1 := hf 1 _ rfl
        rw [cI] at g0 g1
        simp only [List.drop_zero, List.take_succ_cons, List.take_zero, List.drop_succ_cons] at g0 g1
        obtain ⟨n0, e0, _, _⟩ := DataW.trod_int Try.underlying3 g0
        obtain ⟨n1, e1, _, _⟩ := DataW.trod_int Try.underlying3 g1
        simp only [List.cons.injEq, and_true] at e0 e1
        have d0 := hcell 0 (by omega)
        have d1 := hcell 1 (by omega)
        rw [add_of_add] at d0 d1
        subst e0 e1
        exact ⟨(n0, n1), by simpa using d0, by simpa using d1⟩
    obtain ⟨q, hq⟩ := choose_lt each
    have hl : ((List.range len0).map q).length = len0 := by simp
    refine ⟨some a, (List.range len0).map q, m, by rw [hl], by rw [hl]; omega, fun hp => ?_⟩
    rw [hl] at hp
    obtain ⟨b, off, spot⟩ := a
    have h00 := (hq 0 hp).1
    have hspot : spot = none := by simpa [Addr.add] using World.cell?_spot h00
    subst hspot
    have e0 := (hq 0 hp).1
    rw [add_plain] at e0
    refine ⟨b, off, rfl, World.block_lt_of_cell? W _ e0, fun i hil => ?_⟩
    rw [hl] at hil
    obtain ⟨c0, c1⟩ := hq i hil
    rw [add_plain] at c0 c1
    have : ((List.range len0).map q)[i]?.getD ag0 = q i := by simp [hil]
    rw [this]
    exact ⟨c0, by rw [← Nat.add_assoc] at c1; exact c1⟩

theorem kPost_at {w w' : World} {ks : List Int} {er : Int} {e : Ending} (h : KPost w ks er e w') : ∃ p c, e = .returned (.tuple #[.slice p ks.length c, .int .i64 er]) ∧ IntsIn w' p ks ∧ Below w.heap.size w w' := h

set_option maxRecDepth 100000 in
set_option maxHeartbeats 8000000 in
theorem walk (p q : Option Addr) (l : List Col) (gs : List Ag) (n : Int) (c d : Nat) (hlc : l.length ≤ c) (hcm : c ≤ maxLen) (hsz : ∀ j, (colAt l j).1.size ≤ maxLen) (hgm : gs.length ≤ maxLen) (w : World) (hX : ColsIn w p l) (hG : AggsIn w q gs) :
    Calls Try.prog 3 #[.slice p l.length c, .slice q gs.length d, .int .i64 n] w fun e w' => e = .returned (.bool true) ∧ Below w.heap.size w w' := by
  have HW := Lib.hid awake5_any
  by_cases hs : 100 < l.length
  · have hs' : (100 : Int) < (l.length : Int) := by omega
    clear hs hX hG hsz
    go_enter Try.func3, Try.ntmps3
    go_wp2_with fail
    refine (HW.out _).mono ?_
    rintro e w1 ⟨rfl, hb1⟩
    go_wp2_with fail
    go_ret
    exact ⟨rfl, hb1⟩
  by_cases hg : 100 < gs.length
  · have hs' : (l.length : Int) ≤ (100 : Int) := by omega
    have hg' : (100 : Int) < (gs.length : Int) := by omega
    clear hs hg hX hG hsz
    go_enter Try.func3, Try.ntmps3
    go_wp2_with fail
    refine (HW.out _).mono ?_
    rintro e w1 ⟨rfl, hb1⟩
    go_wp2_with fail
    go_ret
    exact ⟨rfl, hb1⟩
  have hs' : (l.length : Int) ≤ (100 : Int) := by omega
  have hg' : (gs.length : Int) ≤ (100 : Int) := by omega
  have HG := Lib.hid hG
  have HV1A := Lib.hid fun a W => validAgg_any a n W
  have HV2A := Lib.hid fun a W => refValidAgg_any a n W
  have HK1 := Lib.hid fun W (h : Below w.heap.size w W) => kinds_any p q l gs c d (by omega) (by omega) hsz W (hX.belowV h) (hG.belowV h)
  have HK2 := Lib.hid fun W (h : Below w.heap.size w W) => refKinds_any p q l gs c d hlc (Nat.le_trans hcm (by decide)) (by omega) (by omega) hsz W (hX.belowV h) (hG.belowV h)
  have HL1 := Lib.hid fun W (h : Below w.heap.size w W) => foldValid_any q gs d n (by omega) W (hG.belowV h)
  have HL2 := Lib.hid fun W (h : Below w.heap.size w W) => refValidL_any q gs d n (by omega) W (hG.belowV h)
  clear hX hG hsz hs hg hlc hcm hgm
  have hkl : ((kVal l gs).length : Int) ≤ 100 := by
    have : (kVal l gs).length ≤ gs.length := by
      unfold kVal kindsV
      split
      · simp
      · simp
    omega
  generalize kVal l gs = ks at HK1 HK2 hkl
  generalize kErr l gs = ke at HK1 HK2
  generalize validL n gs = vl at HL1 HL2
  go_enter Try.func3, Try.ntmps3
  go_wp2_with fail
  go_loopw [7] (fun s wr => ∃ i : Nat, i ≤ gs.length ∧ s = .int .i64 i ∧ Below w.heap.size w wr) (fun s _ => gs.length - (RowKit.intOf s).toNat)
  case atStart => exact ⟨0, Nat.zero_le _, rfl, Below.refl _ _⟩
  case round =>
    obtain ⟨i, hi, rfl, hB⟩ := hrel
    by_cases hlt : i < gs.length
    · obtain ⟨b, off, rfl, hbl, hra⟩ := HG.out (by omega)
      obtain ⟨c0, c1⟩ := (hra.belowV hB hbl) i hlt
      have hbr : b < wr.heap.size := Nat.lt_of_lt_of_le hbl hB.size
      have hi0 : (0 : Int) ≤ (i : Int) := by omega
      have hi1 : (i : Int) < (gs.length : Int) := by omega
      have hv1 := HV1A.out (gs[i]?.getD ag0)
      have hv2 := HV2A.out (gs[i]?.getD ag0)
      clear hra
      generalize (gs[i]?.getD ag0) = x at c0 c1 hv1 hv2
      generalize aggOK n x = bo at hv1 hv2
      obtain ⟨k, m⟩ := x
      dsimp only [nAg] at *
      have HV1 := Lib.hid hv1
      have HV2 := Lib.hid hv2
      have HS := Lib.hid (show ∀ w' : World, Below wr.heap.size wr w' → Below wr.heap.size wr w' ∧ w'.cell? ⟨b, off + i * 2, none⟩ = some (.int .i64 k) ∧ w'.cell? ⟨b, off + i * 2 + 1, none⟩ = some (.int .i64 m) from fun w' hb => ⟨hb, (hb.cell (p := ⟨b, off + i * 2, none⟩) hbr).trans c0, (hb.cell (p := ⟨b, off + i * 2 + 1, none⟩) hbr).trans c1⟩)
      have hd : (bo != bo) = false := by simp
      clear hv1 hv2 c0 c1
      go_wp2_with fail
      refine wp_region_held_drew (S := fun w' : World => Below wr.heap.size wr w' ∧ w'.cell? ⟨b, off + i * 2, none⟩ = some (.int .i64 k) ∧ w'.cell? ⟨b, off + i * 2 + 1, none⟩ = some (.int .i64 m)) (by kernel_rfl) (HS.out _ (Below.refl _ _).drew) (fun hHeld => ?_)
      refine wpAnyH_take (i := 0) (oi := _) (v := ?_) rfl (by kernel_rfl) (by kernel_rfl) (by kernel_rfl) (fun _ _ _ h => h) (Or.inl ⟨by rfl, ?_⟩) (by assumption) ?_
      rotate_left
      · intro w hSw
        try dsimp only at hSw
        go_simp
        all_goals with_reducible rfl
      simp only [List.getElem_toArray, List.getElem_cons_succ, List.getElem_cons_zero, Act.put, List.setIfInBounds_toArray, List.set_cons_zero, List.set_cons_succ]
      refine wpAnyH_take (i := 1) (oi := _) (v := ?_) rfl (by kernel_rfl) (by kernel_rfl) (by kernel_rfl) (fun _ _ _ h => h) (Or.inl ⟨by rfl, ?_⟩) (by assumption) ?_
      rotate_left
      · intro w hSw
        try dsimp only at hSw
        go_simp
        all_goals with_reducible rfl
      simp only [List.getElem_toArray, List.getElem_cons_succ, List.getElem_cons_zero, Act.put, List.setIfInBounds_toArray, List.set_cons_zero, List.set_cons_succ]
      refine wpAnyH_take (i := 2) (oi := _) (v := ?_) rfl (by kernel_rfl) (by kernel_rfl) (by kernel_rfl) (fun _ _ _ h => h) (Or.inl ⟨by rfl, ?_⟩) (by assumption) ?_
      rotate_left
      · intro w hSw
        try dsimp only at hSw
        go_simp
        all_goals with_reducible rfl
      simp only [List.getElem_toArray, List.getElem_cons_succ, List.getElem_cons_zero, Act.put, List.setIfInBounds_toArray, List.set_cons_zero, List.set_cons_succ]
      refine wpAnyH_take (i := 3) (oi := _) (v := ?_) rfl (by kernel_rfl) (by kernel_rfl) (by kernel_rfl) (fun _ _ _ h => h) (Or.inl ⟨by rfl, ?_⟩) (by assumption) ?_
      rotate_left
      · intro w hSw
        try dsimp only at hSw
        go_simp
        all_goals with_reducible rfl
      simp only [List.getElem_toArray, List.getElem_cons_succ, List.getElem_cons_zero, Act.put, List.setIfInBounds_toArray, List.set_cons_zero, List.set_cons_succ]
      refine wpAnyH_take (i := 4) (oi := _) (v := ?_) rfl (by kernel_rfl) (by kernel_rfl) (by kernel_rfl) (fun _ _ _ h => h) (Or.inl ⟨by rfl, ?_⟩) (by assumption) ?_
      rotate_left
      · intro w hSw
        try dsimp only at hSw
        go_simp
        all_goals with_reducible rfl
      simp only [List.getElem_toArray, List.getElem_cons_succ, List.getElem_cons_zero, Act.put, List.setIfInBounds_toArray, List.set_cons_zero, List.set_cons_succ]
      refine wpAnyH_take (i := 6) (oi := _) (v := ?_) rfl (by kernel_rfl) (by kernel_rfl) (by kernel_rfl) (fun _ _ _ h => h) (Or.inl ⟨by rfl, ?_⟩) (by assumption) ?_
      rotate_left
      · intro w hSw
        try dsimp only at hSw
        go_simp
        all_goals with_reducible rfl
      simp only [List.getElem_toArray, List.getElem_cons_succ, List.getElem_cons_zero, Act.put, List.setIfInBounds_toArray, List.set_cons_zero, List.set_cons_succ]
      refine wpAnyH_take (i := 7) (oi := _) (v := ?_) rfl (by kernel_rfl) (by kernel_rfl) (by kernel_rfl) (fun _ _ _ h => h) (Or.inl ⟨by rfl, ?_⟩) (by assumption) ?_
      rotate_left
      · intro w hSw
        try dsimp only at hSw
        go_simp
        all_goals with_reducible rfl
      simp only [List.getElem_toArray, List.getElem_cons_succ, List.getElem_cons_zero, Act.put, List.setIfInBounds_toArray, List.set_cons_zero, List.set_cons_succ]
      refine wpAnyH_take (i := 8) (oi := _) (v := ?_) rfl (by kernel_rfl) (by kernel_rfl) (by kernel_rfl) (fun _ _ _ h => h) (Or.inl ⟨by rfl, ?_⟩) (by assumption) ?_
      rotate_left
      · intro w hSw
        try dsimp only at hSw
        go_simp
        all_goals with_reducible rfl
      simp only [List.getElem_toArray, List.getElem_cons_succ, List.getElem_cons_zero, Act.put, List.setIfInBounds_toArray, List.set_cons_zero, List.set_cons_succ]
      refine wpAnyH_take (i := 9) (oi := _) (v := ?_) rfl (by kernel_rfl) (by kernel_rfl) (by kernel_rfl) (fun _ _ _ h => h) (Or.inl ⟨by rfl, ?_⟩) (by assumption) ?_
      rotate_left
      · intro w hSw
        try dsimp only at hSw
        go_simp
        all_goals with_reducible rfl
      simp only [List.getElem_toArray, List.getElem_cons_succ, List.getElem_cons_zero, Act.put, List.setIfInBounds_toArray, List.set_cons_zero, List.set_cons_succ]
      refine wpAnyH_take (i := 10) (oi := _) (v := ?_) rfl (by kernel_rfl) (by kernel_rfl) (by kernel_rfl) (fun _ _ _ h => h) (Or.inl ⟨by rfl, ?_⟩) (by assumption) ?_
      rotate_left
      · intro w hSw
        try dsimp only at hSw
        go_simp
        all_goals with_reducible rfl
      simp only [List.getElem_toArray, List.getElem_cons_succ, List.getElem_cons_zero, Act.put, List.setIfInBounds_toArray, List.set_cons_zero, List.set_cons_succ]
      refine wpAnyH_ready (rs := [5]) (by kernel_rfl) (by simp) ?_
      refine AllReadyH.cons (o := _) rfl (fun K hK => ?_) AllReadyH.nil
      go_simp
      refine (HV1.out _).mono ?_
      rintro e u1 ⟨rfl, kb1⟩
      refine hK.out _ _ (HS.out _ (hHeld.1.trans (kb1.mono hHeld.1.size))) (fun hHeld1 => ?_)
      clear hHeld kb1
      clear hK K
      try simp only [List.getElem_toArray, List.getElem_cons_succ, List.getElem_cons_zero, Act.put, List.setIfInBounds_toArray, List.set_cons_zero, List.set_cons_succ]
      refine wpAnyH_ready (rs := [11]) (by kernel_rfl) (by simp) ?_
      refine AllReadyH.cons (o := _) rfl (fun K hK => ?_) AllReadyH.nil
      go_simp
      refine (HV2.out _).mono ?_
      rintro e u2 ⟨rfl, kb2⟩
      refine hK.out _ _ (HS.out _ (hHeld1.1.trans (kb2.mono hHeld1.1.size))) (fun hHeld2 => ?_)
      clear hHeld1 kb2
      clear hK K
      try simp only [List.getElem_toArray, List.getElem_cons_succ, List.getElem_cons_zero, Act.put, List.setIfInBounds_toArray, List.set_cons_zero, List.set_cons_succ]
      refine wpAnyH_take (i := 12) (oi := _) (v := ?_) rfl (by kernel_rfl) (by kernel_rfl) (by kernel_rfl) (fun _ _ _ h => h) (Or.inl ⟨by rfl, ?_⟩) (by assumption) ?_
      rotate_left
      · intro w hSw
        try dsimp only at hSw
        go_simp
        all_goals with_reducible rfl
      simp only [List.getElem_toArray, List.getElem_cons_succ, List.getElem_cons_zero, Act.put, List.setIfInBounds_toArray, List.set_cons_zero, List.set_cons_succ]
      refine wpAnyH_done (by kernel_rfl) ?_ _
      have HB5 := Lib.hid (hB.trans (hHeld2.1.mono hB.size))
      clear hHeld2
      go_wp2_with fail
      go_roundw
      case rel => exact ⟨i + 1, by omega, by go_num, HB5.out⟩
      case measure => simp [RowKit.intOf]; omega
    · have hge : gs.length ≤ i := by omega
      have hd : (ke != ke) = false := by simp
      go_wp2_with fail
      refine (HK1.out wr hB).mono ?_
      intro e w1 hk
      obtain ⟨p1, c1, rfl, hi1, hb1⟩ := kPost_at hk
      have hB1 := hB.trans (hb1.mono hB.size)
      have HI1 := Lib.hid hi1
      clear hk hb1 hi1
      go_wp2_with fail
      refine (HK2.out w1 hB1).mono ?_
      intro e w2 hk
      obtain ⟨p2, c2, rfl, hi2, hb2⟩ := kPost_at hk
      have hB2 := hB1.trans (hb2.mono hB1.size)
      have HI2 := Lib.hid (And.intro (HI1.out.belowV hb2) hi2)
      have HB2 := Lib.hid hB2
      clear hk hb2 hi2 HI1 hB1 hB2 hB
      go_wp2_with fail
      go_loopw [12] (fun s wi => ∃ j : Nat, j ≤ ks.length ∧ s = .int .i64 j ∧ Below w2.heap.size w2 wi) (fun s _ => ks.length - (RowKit.intOf s).toNat)
      case atStart => exact ⟨0, Nat.zero_le _, rfl, Below.refl _ _⟩
      case round =>
        obtain ⟨j, hj, rfl, hBj⟩ := hrel
        by_cases hjl : j < ks.length
        · obtain ⟨b1, off1, rfl, hbl1, hr1⟩ := HI2.out.1 (by omega)
          obtain ⟨b2, off2, rfl, hbl2, hr2⟩ := HI2.out.2 (by omega)
          have c1 := (hr1.belowV hBj hbl1) j hjl
          have c2 := (hr2.belowV hBj hbl2) j hjl
          have hj0 : (0 : Int) ≤ (j : Int) := by omega
          have hj1 : (j : Int) < (ks.length : Int) := by omega
          clear hr1 hr2
          generalize ks[j]?.getD 0 = x at c1 c2
          have hdx : (x != x) = false := by simp
          go_wp2_with fail
          go_quiet (fail)
          go_wp2_with fail
          go_roundw
          case rel => exact ⟨j + 1, by omega, by go_num, ⟨hBj.os, hBj.tape, hBj.output, hBj.size, hBj.block⟩⟩
          case measure => simp [RowKit.intOf]; omega
        · have hgj : ks.length ≤ j := by omega
          have hBw : Below w.heap.size w wr := HB2.out.trans (hBj.mono HB2.out.size)
          go_wp2_with fail
          refine (HL1.out wr hBw).mono ?_
          rintro e w3 ⟨rfl, hb3⟩
          have hB3 := hBw.trans (hb3.mono hBw.size)
          go_wp2_with fail
          refine (HL2.out w3 hB3).mono ?_
          rintro e w4 ⟨rfl, hb4⟩
          have hB4 := hB3.trans (hb4.mono hB3.size)
          have hdv : (vl == vl) = true := by simp
          go_wp2_with fail
          refine (HW.out w4).mono ?_
          rintro e w5 ⟨rfl, hb5⟩
          have hB5 := hB4.trans (hb5.mono hB4.size)
          go_wp2_with fail
          go_ret
          exact ⟨rfl, hB5⟩

set_option maxRecDepth 100000 in
theorem lifted (os : Os) (started : os.Started) (H : Type) (enc : TypeId × Value → H) :
    ReturnsInHanded {} Try.checked os 3 .any (Rows.foldValidSpec.pre6 enc Try.prog Try.f3 Rows.foldValidRow.domain false) (Rows.foldValidSpec.post enc Try.prog Try.f3 false true false false) := by
  refine returnsInHanded_of_change (C := Try.checked) own started (by kernel_rfl) Try.func3
    (ChangeSpec.witness6 (enc := enc) (C := Try.checked) false ⟨#[], #[.slice none 0 0, .slice none 0 0, .int .i64 0], []⟩ 8 (by kernel_rfl) (by kernel_rfl) (by kernel_rfl) (by kernel_rfl)) ?_
  intro W base args ds gs before hval0 hW hcnd _
  have hval : ∀ (j : Nat) t v, Try.f3.params[j]? = some t → args[j]? = some v → Value.okWide Try.prog W .any base t v := hval0
  have hW' := hW
  obtain ⟨p, q, hA0, hV, rfl, hfz, hnd⟩ := hW
  have hA : DataW.TrodAll enc Try.prog W 0 (fun _ => true) true Try.f3.params.toList args.toList ds p := hA0
  rw [Try.params3] at hA hval
  obtain ⟨rfl, rfl⟩ := trodVars_none hV
  have hA' := hA
  obtain ⟨v0, vs0, d0, ds0, p0, q0, hargs, rfl, rfl, h0, r0⟩ := trodAll_cons hA
  obtain ⟨v1, vs1, d1, ds1, p1, q1, rfl, rfl, rfl, h1, r1⟩ := trodAll_cons r0
  obtain ⟨v2, vs2, d2, ds2, p2, q2, rfl, rfl, rfl, h2, r2⟩ := trodAll_cons r1
  obtain ⟨rfl, rfl, rfl⟩ := trodAll_nil r2
  obtain rfl : args = #[v0, v1, v2] := by cases args; simp_all
  obtain ⟨a0, l, c0, rfl, hlc0, hcm0, hX, hsz0, _⟩ := open_schema (hval 0 _ v0 rfl rfl) h0
  obtain ⟨a1, l1, c1, rfl, hlm1, hG1⟩ := open_aggs (hval 1 _ v1 rfl rfl) h1
  obtain ⟨n, rfl⟩ := okWide_int Try.underlying3 (hval 2 _ v2 rfl rfl)
  clear hA0 hval0
  refine (walk a0 a1 l l1 n c0 c1 hlc0 hcm0 hsz0 hlm1 W hX hG1).mono fun e W' ⟨he, hg⟩ => ?_
  subst he
  exact ⟨_, rfl, _, _, _, [], _, [], hW', trodAll_mk1 (shut_bool Try.underlying4 true), trodAll_below laidOut hg (by decide +kernel) hA' (fun x hx => by simpa using hW'.lt x (by simpa using hx)), rfl, hg.frame _, fun h => by cases h⟩

theorem over : Rows.foldValidRow.holds Try.pinned (OpenSpec.ofChange Rows.foldValidSpec) :=
  OpenClaim.holds_of_wide 3 Try.f3 rfl rfl rfl rfl rfl rfl rfl ⟨rfl, rfl, rfl, rfl, rfl⟩ rfl rfl rfl rfl rfl (by kernel_rfl) Try.func3 (by kernel_rfl)
    (of_decide_eq_true (by kernel_rfl)) (by unfold Func.isWrapper; first | (rw [if_pos (by decide +kernel)]; kernel_rfl) | (rw [if_neg (by decide +kernel)]; exact ⟨rfl, rfl⟩))
    (fun os started H enc _ => lifted os started H enc)

theorem proved : Rows.FoldValidSaid :=
  over
#print axioms proved
end Go.Proofs.Ytkldokmmboebmaa.foldValid
