/-
  PROVED HERE: for every two schemas, columns and prefix (any values at all) the law RowSchemas returns true: Picked and Joined of package row answer as the document's own. Its arguments read afterwards as before. The library's tables start as the program's text lays them.
-/
import Derived.Test.YtfkkdoodngldhaaDoorRows
import Derived.Test.YtfkkdoodngldhaaDoorRefJoined
import Derived.Test.YtfkkdoodngldhaaDoorOpenR
import Derived.Test.YtfkkdoodngldhaaDoorDoor
import Derived.Test.YtfkkdoodngldhaaDoorCards
import Derived.Deep.SlicePairs
import Derived.ChangeSlices
namespace Go.Proofs.YtfkkdoodngldhaaDoor.rowSchemas
open Go.ChangeShapes Go.WideShapes Go.ChangeAt Go.RowKit Go.Deep
set_option linter.unusedVariables false

set_option maxRecDepth 100000 in
theorem open_schema {H : Type} {enc : TypeId × Value → H} {W : World} {base : Nat} {v : Value} {d : DataW H} {ps : List MemPlace} (hval : Value.okWide Tryd.prog W .any base 23 v)
    (h : DataW.Trod enc Tryd.prog W 0 (fun _ => true) true 23 v d ps) : ∃ p l cap, v = .slice p l.length cap ∧ l.length ≤ cap ∧ cap ≤ maxLen ∧ ColsIn W p l ∧ (∀ j, (colAt l j).1.size ≤ maxLen) ∧ (p = none → cap = 0) := by
  obtain ⟨a, len, cap, rfl⟩ := okWide_slice Tryd.underlying23 hval
  obtain ⟨fuel, hf⟩ := h
  rcases open_slice_pairs Tryd.underlying23 Tryd.underlying67 (by kernel_rfl) rfl rfl (by kernel_rfl) (by kernel_rfl) hf with ⟨h0, _⟩ | ⟨a', len', cap', m, n, V0, V1, D0, D1, P0, P1, hcs, _, hlc, hcm, hm, _, hi⟩
  · simp only [Value.cells, List.cons.injEq, Value.slice.injEq, and_true] at h0
    obtain ⟨rfl, rfl, rfl⟩ := h0
    exact ⟨none, [], 0, rfl, by simp, by simp, fun h => absurd h (by simp), fun j => by simp [colAt, ByteArray.size], fun _ => rfl⟩
  · simp only [Value.cells, List.cons.injEq, Value.slice.injEq, and_true] at hcs
    obtain ⟨rfl, rfl, rfl⟩ := hcs
    rw [if_pos rfl] at hm
    subst hm
    have each : ∀ i, i < len → ∃ q : Col, (W.cell? (a'.add (i * 2)) = some (.string q.1) ∧ W.cell? (a'.add (i * 2 + 1)) = some (.int .i64 q.2)) ∧ q.1.size ≤ maxLen := fun i hil => by
      obtain ⟨c0, c1, t0, t1⟩ := hi i (by omega)
      obtain ⟨n0, e0, _, hs⟩ := DataW.trod_string Tryd.underlying9 t0
      obtain ⟨n1, e1, _, _⟩ := DataW.trod_int Tryd.underlying3 t1
      simp only [List.cons.injEq, and_true] at e0 e1
      exact ⟨(n0, n1), ⟨by rw [c0, e0], by rw [c1, e1]⟩, hs⟩
    obtain ⟨q, hq⟩ := choose_lt each
    have hl : ((List.range len).map q).length = len := by simp
    refine ⟨some a', (List.range len).map q, m, by rw [hl], by rw [hl]; omega, by omega, fun h => ?_, fun j => ?_, fun h => by cases h⟩
    · rw [hl] at h
      obtain ⟨b, off, spot⟩ := a'
      have h00 := (hq 0 h).1.1
      have hspot : spot = none := by simpa [Addr.add] using World.cell?_spot h00
      subst hspot
      have e0 := (hq 0 h).1.1
      rw [add_plain] at e0
      refine ⟨b, off, rfl, World.block_lt_of_cell? W _ e0, fun i hil => ?_⟩
      rw [hl] at hil
      obtain ⟨⟨c0, c1⟩, _⟩ := hq i hil
      rw [add_plain] at c0 c1
      have : colAt ((List.range len).map q) i = q i := by simp [colAt, hil]
      rw [this]
      exact ⟨c0, by rw [← Nat.add_assoc] at c1; exact c1⟩
    · by_cases hj : j < len
      · have : colAt ((List.range len).map q) j = q j := by simp [colAt, hj]
        rw [this]
        exact (hq j hj).2
      · have : colAt ((List.range len).map q) j = Proofs.YtfkkdoodngldhaaDoor.c0 := by
          unfold colAt
          rw [List.getElem?_eq_none (by rw [hl]; omega)]
          rfl
        rw [this]
        simp [ByteArray.size]

set_option maxRecDepth 100000 in
theorem open_text {H : Type} {enc : TypeId × Value → H} {W : World} {base : Nat} {v : Value} {d : DataW H} {ps : List MemPlace} (hval : Value.okWide Tryd.prog W .any base 9 v)
    (h : DataW.Trod enc Tryd.prog W 0 (fun _ => true) true 9 v d ps) : ∃ s, v = .string s ∧ s.size ≤ maxLen := by
  obtain ⟨s, rfl⟩ := okWide_string Tryd.underlying9 hval
  obtain ⟨fuel, hf⟩ := h
  obtain ⟨s', e, _, hs⟩ := DataW.trod_string Tryd.underlying9 hf
  simp only [Value.cells, List.cons.injEq, Value.string.injEq, and_true] at e
  subst e
  exact ⟨_, rfl, hs⟩

set_option maxRecDepth 100000 in
theorem open_cols {H : Type} {enc : TypeId × Value → H} {W : World} {base : Nat} {v : Value} {d : DataW H} {ps : List MemPlace} (hval : Value.okWide Tryd.prog W .any base 52 v)
    (h : DataW.Trod enc Tryd.prog W 0 (fun _ => true) true 52 v d ps) : ∃ p ts cap, v = .slice p ts.length cap ∧ ts.length ≤ maxLen ∧ IntsIn W p ts := by
  obtain ⟨a, len, cap, rfl⟩ := okWide_slice Tryd.underlying52 hval
  obtain ⟨fuel, hf⟩ := h
  rcases open_ints Tryd.underlying52 Tryd.underlying3 (by kernel_rfl) hf with ⟨h0, _⟩ | ⟨a', len', cap', zs, hcs, _, hlc, hcm, hz, _, hc, _⟩
  · simp only [Value.cells, List.cons.injEq, Value.slice.injEq, and_true] at h0
    obtain ⟨rfl, rfl, rfl⟩ := h0
    exact ⟨none, [], 0, rfl, by simp, fun h => absurd h (by simp)⟩
  · simp only [Value.cells, List.cons.injEq, Value.slice.injEq, and_true] at hcs
    obtain ⟨rfl, rfl, rfl⟩ := hcs
    rw [if_pos rfl] at hz
    have hl : (zs.take len).length = len := by rw [List.length_take]; omega
    refine ⟨some a', zs.take len, cap, by rw [hl], by rw [hl]; omega, fun h => ?_⟩
    rw [hl] at h
    obtain ⟨b, off, rfl, hcell⟩ := ints_at hc (by omega)
    refine ⟨b, off, rfl, World.block_lt_of_cell? W _ (hcell 0 (by omega)), fun i hil => ?_⟩
    rw [hl] at hil
    rw [hcell i (by omega)]
    simp [hil]

set_option maxRecDepth 100000 in
set_option maxHeartbeats 8000000 in
theorem walk (p q r : Option Addr) (a b : List Col) (cs : List Int) (pf : ByteArray) (c d f : Nat) (hca : a.length ≤ c) (hcc : c ≤ 9223372036854775807) (hcb : b.length ≤ d) (hdd : d ≤ 9223372036854775807) (hz : p = none → c = 0) (hy : q = none → d = 0) (hsa : ∀ j, (colAt a j).1.size ≤ maxLen) (hsb : ∀ j, (colAt b j).1.size ≤ maxLen) (hmc : cs.length ≤ 9223372036854775807) (hpf : pf.size ≤ 9223372036854775807) (w : World) (hX : ColsIn w p a) (hY : ColsIn w q b) (hC : IntsIn w r cs) (hT : Tab w.heap.size w) :
    Calls Tryd.prog 9 #[.slice p a.length c, .slice q b.length d, .slice r cs.length f, .string pf] w fun e w' => e = .returned (.bool true) ∧ Below w.heap.size w w' := by
  have hma : a.length ≤ 9223372036854775807 := by omega
  have hmb : b.length ≤ 9223372036854775807 := by omega
  have hbA : Below w.heap.size w w := Below.refl _ _
  have HT := Lib.hid hT
  have h1 := fun W (h : Below w.heap.size w W) => rowPicked_any p r a cs c f hma hmc hsa W (hX.belowV h) (hC.belowV h)
  have h2 := fun W (h : Below w.heap.size w W) => refPicked_any p r a cs c f hca hcc hma hmc hsa W (hX.belowV h) (hC.belowV h)
  have h3 := fun W (h : Below w.heap.size w W) => rowJoined_any p q a b pf c d hz hy hma hmb hpf hsa hsb W (hX.belowV h) (hY.belowV h)
  have h4 := fun W (h : Below w.heap.size w W) => refJoined_any p q a b pf c d hca hcc hcb hdd hz hma hmb hpf hsa hsb W (hX.belowV h) (hY.belowV h)
  generalize pickedVal a cs = zz at h1 h2
  generalize pickedErr a cs = er at h1 h2
  generalize joinedVal a b pf = kk at h3 h4
  generalize joinedErr a b pf = ec at h3 h4
  have H1 := Lib.hid h1
  have H2 := Lib.hid h2
  have H3 := Lib.hid h3
  have H4 := Lib.hid h4
  have HS := Lib.hid SameC_any
  clear hX hY hC hT h1 h2 h3 h4 hz hy hsa hsb
  have awk : ∀ u, Below w.heap.size w u → Calls Tryd.prog 12 #[] u fun e w' => e = .returned (.bool true) ∧ Below u.heap.size u w' := fun u h => awake_any _ (HT.out.up h h.size)
  have HAW := Lib.hid awk
  clear awk
  by_cases hb1 : 100 < a.length
  · have g1 : (100 : Int) < (a.length : Int) := by omega
    go_enter Tryd.func9, Tryd.ntmps9
    go_wp2_with fail
    refine (HAW.out _ hbA).mono ?_
    rintro e w2 ⟨rfl, hb2⟩
    go_wp2_with fail
    go_ret
    exact ⟨rfl, hb2⟩
  · have g1 : (a.length : Int) ≤ 100 := by omega
    by_cases hb2 : 100 < b.length
    · have g2 : (100 : Int) < (b.length : Int) := by omega
      go_enter Tryd.func9, Tryd.ntmps9
      go_wp2_with fail
      refine (HAW.out _ hbA).mono ?_
      rintro e w2 ⟨rfl, hb2⟩
      go_wp2_with fail
      go_ret
      exact ⟨rfl, hb2⟩
    · have g2 : (b.length : Int) ≤ 100 := by omega
      by_cases hb3 : 1000 < cs.length
      · have g3 : (1000 : Int) < (cs.length : Int) := by omega
        go_enter Tryd.func9, Tryd.ntmps9
        go_wp2_with fail
        refine (HAW.out _ hbA).mono ?_
        rintro e w2 ⟨rfl, hb2⟩
        go_wp2_with fail
        go_ret
        exact ⟨rfl, hb2⟩
      · have g3 : (cs.length : Int) ≤ 1000 := by omega
        by_cases hb4 : 1000 < pf.size
        · have g4 : (1000 : Int) < (pf.size : Int) := by omega
          go_enter Tryd.func9, Tryd.ntmps9
          go_wp2_with fail
          refine (HAW.out _ hbA).mono ?_
          rintro e w2 ⟨rfl, hb2⟩
          go_wp2_with fail
          go_ret
          exact ⟨rfl, hb2⟩
        · have g4 : (pf.size : Int) ≤ 1000 := by omega
          clear hb1 hb2 hb3 hb4
          go_enter Tryd.func9, Tryd.ntmps9
          go_wp2_with fail
          refine (H1.out _ hbA).mono ?_
          rintro e u1 ⟨v1, rfl, o1, B1⟩
          go_wp2_with fail
          refine (H2.out _ B1).mono ?_
          rintro e u2 ⟨v2, rfl, o2, k2⟩
          have B2 : Below w.heap.size w u2 := B1.trans (k2.mono B1.size)
          have o1' := owns_below o1 k2
          obtain ⟨p1, c1, rfl⟩ := slice_of_owns o1
          obtain ⟨p2, c2, rfl⟩ := slice_of_owns o2
          have hs1 := HS.out p1 p2 zz c1 c2 zz.length rfl (by have := owns_cap o1; unfold maxLen at this; omega) u2 (colsIn_of_owns o1') (colsIn_of_owns o2)
          have HS1 := Lib.hid hs1
          clear k2 o1 o2 o1' hs1 H1 H2
          go_wp2_with fail
          refine HS1.out.mono ?_
          rintro e u3 ⟨rfl, k3⟩
          have B3 : Below w.heap.size w u3 := B2.trans (k3.mono B2.size)
          clear k3 HS1
          go_wp2_with fail
          refine (H3.out _ B3).mono ?_
          rintro e u4 ⟨v4, rfl, o4, k4⟩
          have B4 : Below w.heap.size w u4 := B3.trans (k4.mono B3.size)
          go_wp2_with fail
          refine (H4.out _ B4).mono ?_
          rintro e u5 ⟨v5, rfl, o5, k5⟩
          have B5 : Below w.heap.size w u5 := B4.trans (k5.mono B4.size)
          have o4' := owns_below o4 k5
          obtain ⟨p4, c4, rfl⟩ := slice_of_owns o4
          obtain ⟨p5, c5, rfl⟩ := slice_of_owns o5
          have hs2 := HS.out p4 p5 kk c4 c5 kk.length rfl (by have := owns_cap o4; unfold maxLen at this; omega) u5 (colsIn_of_owns o4') (colsIn_of_owns o5)
          have HS2 := Lib.hid hs2
          clear k4 k5 o4 o5 o4' hs2 H3 H4 HS
          go_wp2_with fail
          refine HS2.out.mono ?_
          rintro e u6 ⟨rfl, k6⟩
          have B6 : Below w.heap.size w u6 := B5.trans (k6.mono B5.size)
          clear k6 HS2
          go_wp2_with fail
          refine (HAW.out _ B6).mono ?_
          rintro e u7 ⟨rfl, k7⟩
          go_wp2_with fail
          go_ret
          exact ⟨rfl, B6.trans (k7.mono B6.size)⟩

set_option maxRecDepth 100000 in
theorem lifted (os : Os) (started : os.Started) (H : Type) (enc : TypeId × Value → H) :
    ReturnsInHanded {} Tryd.checked os 9 .any (fun w args => (Rows.rowSchemasSpec.pre enc Tryd.prog Tryd.f9 [] false w args ∧ laidMetH Tryd.prog laid3 w) ∧ sizedMet enc Tryd.prog Tryd.f9 (OpenSpec.ofChange Rows.rowSchemasSpec) false w args)
      (Rows.rowSchemasSpec.post enc Tryd.prog Tryd.f9 false true false false) := by
  refine returnsInHanded_of_change_and (C := Tryd.checked) (X := fun w _ => laidMetH Tryd.prog laid3 w) (fun _ _ _ hh h => h.of_heap hh) own started (by kernel_rfl) Tryd.func9
    (ChangeSpec.witness_shaped (enc := enc) (C := Tryd.checked) (os := os) (X := fun w _ => laidMetH Tryd.prog laid3 w) false (World.doorLaid Tryd.prog 4000 os) #[.slice none 0 0, .slice none 0 0, .slice none 0 0, .string ⟨#[]⟩] 8 rfl (World.shaped_of_RefB (by kernel_rfl) (by kernel_rfl)) (by kernel_rfl) (by kernel_rfl) (by kernel_rfl) (door_met os _)) ?_
  intro W base args ds gs before hval0 hW _ _ hL _
  have hval : ∀ (j : Nat) t v, Tryd.f9.params[j]? = some t → args[j]? = some v → Value.okWide Tryd.prog W .any base t v := hval0
  have hW' := hW
  obtain ⟨p, q, hA0, hV, rfl, hfz, hnd⟩ := hW
  have hA : DataW.TrodAll enc Tryd.prog W 0 (fun _ => true) true Tryd.f9.params.toList args.toList ds p := hA0
  rw [Tryd.params9] at hA hval
  obtain ⟨rfl, rfl⟩ := trodVars_none hV
  have hA' := hA
  obtain ⟨v0, vs0, d0, ds0, p0, q0, hargs, rfl, rfl, h0, r0⟩ := trodAll_cons hA
  obtain ⟨v1, vs1, d1, ds1, p1, q1, rfl, rfl, rfl, h1, r1⟩ := trodAll_cons r0
  obtain ⟨v2, vs2, d2, ds2, p2, q2, rfl, rfl, rfl, h2, r2⟩ := trodAll_cons r1
  obtain ⟨v3, vs3, d3, ds3, p3, q3, rfl, rfl, rfl, h3, r3⟩ := trodAll_cons r2
  obtain ⟨rfl, rfl, rfl⟩ := trodAll_nil r3
  obtain rfl : args = #[v0, v1, v2, v3] := by cases args; simp_all
  obtain ⟨a0, l, c0, rfl, hlc0, hcm0, hX, hsz0, hz0⟩ := open_schema (hval 0 _ v0 rfl rfl) h0
  obtain ⟨a1, l1, c1, rfl, hlc1, hcm1, hY, hsz1, hz1⟩ := open_schema (hval 1 _ v1 rfl rfl) h1
  obtain ⟨a2, cs, c2, rfl, hcl, hcs⟩ := open_cols (hval 2 _ v2 rfl rfl) h2
  obtain ⟨s, rfl, hs⟩ := open_text (hval 3 _ v3 rfl rfl) h3
  clear hA0 hval0
  refine (walk a0 a1 a2 l l1 cs s c0 c1 c2 hlc0 (Nat.le_trans hcm0 (by decide)) hlc1 (Nat.le_trans hcm1 (by decide)) hz0 hz1 hsz0 hsz1 (Nat.le_trans hcl (by decide)) (Nat.le_trans hs (by decide)) W hX hY hcs (tab_of_laid hL)).mono fun e W' ⟨he, hg⟩ => ?_
  subst he
  exact ⟨_, rfl, _, _, _, [], _, [], hW', trodAll_mk1 (shut_bool Tryd.underlying4 true), trodAll_below laidOut hg (by decide +kernel) hA' (fun x hx => by simpa using hW'.lt x (by simpa using hx)), rfl, hg.frame _, fun h => by cases h⟩

theorem over : Rows.RowSchemasSaid :=
  OpenClaim.holds_of_wide 9 Tryd.f9 rfl rfl rfl rfl rfl rfl rfl ⟨rfl, rfl, rfl, rfl, rfl⟩ rfl rfl rfl rfl rfl (by kernel_rfl) Tryd.func9 (by kernel_rfl)
    (of_decide_eq_true (by kernel_rfl)) (by unfold Func.isWrapper; first | (rw [if_pos (by decide +kernel)]; kernel_rfl) | (rw [if_neg (by decide +kernel)]; exact ⟨rfl, rfl⟩))
    (fun os started H enc _ => lifted os started H enc)

theorem proved : Rows.RowSchemasCardSaid :=
  Claim7.holds_tied_plain_at .later [] [.data, .data, .data] true (true, "7b0b4818b4bde6f5088541445430b425fe6bc8046a3fc79eba7008d2102f2ce4") true
    over (fun _ h => by cases h) (by kernel_rfl) (fun _ h => by cases h) rowSchemas_row_tie rfl ⟨rfl, rfl⟩ (by kernel_rfl) rfl
    (fun f fn hf hfn => by
      obtain rfl : f = 9 := Option.some.inj ((show Tryd.prog.funcNamed "tidewright/tidewrightlaw02.RowSchemas" = some 9 by kernel_rfl).symm.trans hf) |>.symm
      obtain rfl : fn = Tryd.f9 := (Option.some.inj (Tryd.func9.symm.trans hfn)).symm
      exact ⟨by kernel_rfl, fun j t ht => by
        rw [Tryd.params9] at ht
        have hm : t ∈ [23, 23, 52, 9] := by simpa using Array.mem_of_getElem? ht
        have hall : ([23, 23, 52, 9].all fun u => !Tryd.prog.wantsStandIn u) = true := by kernel_rfl
        exact (show Tryd.prog.wantsStandIn t = false by simpa using List.all_eq_true.1 hall t hm)⟩)
    (by kernel_rfl)
end Go.Proofs.YtfkkdoodngldhaaDoor.rowSchemas
