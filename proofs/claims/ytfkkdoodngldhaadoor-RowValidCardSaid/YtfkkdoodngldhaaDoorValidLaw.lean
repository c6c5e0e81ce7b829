/-
  PROVED HERE: for every schema, row and text (any values at all) the law RowValid returns true: ValidValue, Valid, Name, ValidSchema, Fits and Find of package row answer as the document's own. Its arguments read afterwards as before. The library's tables start as the program's text lays them.
-/
import Derived.Test.YtfkkdoodngldhaaDoorRows
import Derived.Test.YtfkkdoodngldhaaDoorFits
import Derived.Test.YtfkkdoodngldhaaDoorOpenR
import Derived.Test.YtfkkdoodngldhaaDoorDoor
import Derived.Test.YtfkkdoodngldhaaDoorCards
import Derived.Deep.SlicePairs
namespace Go.Proofs.YtfkkdoodngldhaaDoor.rowValid
open Go.ChangeShapes Go.WideShapes Go.ChangeAt Go.RowKit Go.Deep
set_option linter.unusedVariables false

set_option maxRecDepth 100000 in
theorem open_schema {H : Type} {enc : TypeId × Value → H} {W : World} {base : Nat} {v : Value} {d : DataW H} {ps : List MemPlace} (hval : Value.okWide Tryd.prog W .any base 23 v)
    (h : DataW.Trod enc Tryd.prog W 0 (fun _ => true) true 23 v d ps) : ∃ p l cap, v = .slice p l.length cap ∧ l.length ≤ cap ∧ cap ≤ maxLen ∧ ColsIn W p l ∧ ∀ j, (colAt l j).1.size ≤ maxLen := by
  obtain ⟨a, len, cap, rfl⟩ := okWide_slice Tryd.underlying23 hval
  obtain ⟨fuel, hf⟩ := h
  rcases open_slice_pairs Tryd.underlying23 Tryd.underlying67 (by kernel_rfl) rfl rfl (by kernel_rfl) (by kernel_rfl) hf with ⟨h0, _⟩ | ⟨a', len', cap', m, n, V0, V1, D0, D1, P0, P1, hcs, _, hlc, hcm, hm, _, hi⟩
  · simp only [Value.cells, List.cons.injEq, Value.slice.injEq, and_true] at h0
    obtain ⟨rfl, rfl, rfl⟩ := h0
    exact ⟨none, [], 0, rfl, by simp, by simp, fun h => absurd h (by simp), fun j => by simp [colAt, ByteArray.size]⟩
  · simp only [Value.cells, List.cons.injEq, Value.slice.injEq, and_true] at hcs
    obtain ⟨rfl, rfl, rfl⟩ := hcs
    rw [if_pos rfl] at hm
    subst hm
    have each : ∀ i, i < len → ∃ q : Col, (W.cell? (a'.add (i * 2)) = some (.string q.1) ∧ W.cell? (a'.add (i * 2 + 1)) = some (.int .i64 q.2)) ∧ q.1.size ≤ maxLen := fun i hil => by
      obtain ⟨c0, c1, t0, t1⟩ := hi i (by omega)
      obtain ⟨n0, e0, _, hs⟩ := DataW.trod_string Tryd.underlying9 t0
      obtain ⟨n1, e1, _, _⟩ := DataW.trod_int Tryd.underlying3 t1
      simp only [List.cons.injEq, and_true] at e0 e1
      exact ⟨(n0, n1), ⟨by rw [c0, e0], by rw [c1, e1]⟩, hs⟩
    obtain ⟨q, hq⟩ := choose_lt each
    have hl : ((List.range len).map q).length = len := by simp
    refine ⟨some a', (List.range len).map q, m, by rw [hl], by rw [hl]; omega, by omega, fun h => ?_, fun j => ?_⟩
    · rw [hl] at h
      obtain ⟨b, off, spot⟩ := a'
      have h00 := (hq 0 h).1.1
      have hspot : spot = none := by simpa [Addr.add] using World.cell?_spot h00
      subst hspot
      have e0 := (hq 0 h).1.1
      rw [add_plain] at e0
      refine ⟨b, off, rfl, World.block_lt_of_cell? W _ e0, fun i hil => ?_⟩
      rw [hl] at hil
      obtain ⟨⟨c0, c1⟩, _⟩ := hq i hil
      rw [add_plain] at c0 c1
      have : colAt ((List.range len).map q) i = q i := by simp [colAt, hil]
      rw [this]
      exact ⟨c0, by rw [← Nat.add_assoc] at c1; exact c1⟩
    · by_cases hj : j < len
      · have : colAt ((List.range len).map q) j = q j := by simp [colAt, hj]
        rw [this]
        exact (hq j hj).2
      · have : colAt ((List.range len).map q) j = Proofs.YtfkkdoodngldhaaDoor.c0 := by
          unfold colAt
          rw [List.getElem?_eq_none (by rw [hl]; omega)]
          rfl
        rw [this]
        simp [ByteArray.size]

set_option maxRecDepth 100000 in
theorem open_text {H : Type} {enc : TypeId × Value → H} {W : World} {base : Nat} {v : Value} {d : DataW H} {ps : List MemPlace} (hval : Value.okWide Tryd.prog W .any base 9 v)
    (h : DataW.Trod enc Tryd.prog W 0 (fun _ => true) true 9 v d ps) : ∃ s, v = .string s ∧ s.size ≤ maxLen := by
  obtain ⟨s, rfl⟩ := okWide_string Tryd.underlying9 hval
  obtain ⟨fuel, hf⟩ := h
  obtain ⟨s', e, _, hs⟩ := DataW.trod_string Tryd.underlying9 hf
  simp only [Value.cells, List.cons.injEq, Value.string.injEq, and_true] at e
  subst e
  exact ⟨_, rfl, hs⟩

set_option maxRecDepth 100000 in
set_option maxHeartbeats 8000000 in
theorem walk (p q : Option Addr) (l : List Col) (xs : List Val) (s : ByteArray) (c d : Nat) (hlc : l.length ≤ c) (hcm : c ≤ maxLen) (hsz : ∀ j, (colAt l j).1.size ≤ maxLen) (hmx : xs.length ≤ 9223372036854775807) (hs : s.size ≤ maxLen) (w : World) (hX : ColsIn w p l) (hY : ValsIn w q xs) (hT : Tab w.heap.size w) :
    Calls Tryd.prog 3 #[.slice p l.length c, .slice q xs.length d, .string s] w fun e w' => e = .returned (.bool true) ∧ Below w.heap.size w w' := by
  have hmc : c ≤ 9223372036854775807 := Nat.le_trans hcm (by decide)
  have hml : l.length ≤ 9223372036854775807 := by omega
  have hss : s.size ≤ 9223372036854775807 := Nat.le_trans hs (by decide)
  have hbA : Below w.heap.size w (w.alloc (.cells #[.slice q xs.length d] 25)) := (Below.refl _ _).alloc (Nat.le_refl _) _
  have hlong := Long_any (some ⟨w.heap.size, 0, none⟩) [(q, xs, d)] 1 (by simp) _ (fun _ => ⟨w.heap.size, 0, rfl, by simp, fun i hi => by
    have hb := Blk.new w 25 #[.slice q xs.length d]
    have hi3 : i = 0 := by simp at hi; omega
    subst hi3
    exact ⟨hb.cell 0, hmx, hY.belowV hbA⟩⟩ : RowsIn (w.alloc (.cells #[.slice q xs.length d] 25)) (some ⟨w.heap.size, 0, none⟩) [(q, xs, d)])
  have HL := Lib.hid hlong
  have HY := Lib.hid hY
  have HT := Lib.hid hT
  have h1 := fun W (h : Below w.heap.size w W) => rowValid_any q xs d W (hY.belowV h)
  have h2 := fun W (h : Below w.heap.size w W) => refValid_any q xs d hmx W (hY.belowV h)
  have h3 := fun W => rowName_any s hss W
  have h4 := fun W => refName_any s hss W
  have h5 := fun W (h : Below w.heap.size w W) => rowSchema_any p l c hml hsz W (hX.belowV h)
  have h6 := fun W (h : Below w.heap.size w W) => refSchema_any p l c hlc hml hmc hsz W (hX.belowV h)
  have h7 := fun W (h : Below w.heap.size w W) => rowFits_any p q l c xs d hml hmx hsz W (hX.belowV h) (hY.belowV h)
  have h8 := fun W (h : Below w.heap.size w W) => refFits_any p q l c xs d hlc hmc hml hmx hsz W (hX.belowV h) (hY.belowV h)
  have h9 := fun W (h : Below w.heap.size w W) => rowFind_any p l c s hs hml hsz W (hX.belowV h)
  have h10 := fun W (h : Below w.heap.size w W) => refFind_any p l c s hlc hml hmc hsz W (hX.belowV h)
  generalize validRow xs = vr at h1 h2
  generalize nameOK s = nk at h3 h4
  generalize schemaOK l = so at h5 h6
  generalize fitOK l xs = ft at h7 h8
  generalize findVal l s = fv at h9 h10
  generalize findErr l s = fe at h9 h10
  have H1 := Lib.hid h1
  have H2 := Lib.hid h2
  have H3 := Lib.hid h3
  have H4 := Lib.hid h4
  have H5 := Lib.hid h5
  have H6 := Lib.hid h6
  have H7 := Lib.hid h7
  have H8 := Lib.hid h8
  have H9 := Lib.hid h9
  have H10 := Lib.hid h10
  clear hX hY hT hlong h1 h2 h3 h4 h5 h6 h7 h8 h9 h10 hsz
  go_enter Tryd.func3, Tryd.ntmps3
  go_wp2_with fail
  refine HL.out.mono ?_
  rintro e w1 ⟨b, rfl, rfl⟩
  cases b with
  | true =>
    go_wp2_with fail
    refine (awake_any _ (HT.out.up hbA hbA.size)).mono ?_
    rintro e w2 ⟨rfl, hb2⟩
    go_wp2_with fail
    go_ret
    exact ⟨rfl, hbA.trans (hb2.mono hbA.size)⟩
  | false =>
    obtain ⟨W0, hW0⟩ : ∃ W0, w.alloc (.cells #[.slice q xs.length d] 25) = W0 := ⟨_, rfl⟩
    rw [hW0] at hbA ⊢
    clear hW0 HL
    by_cases hbig : 100 < l.length
    · have hbig' : (100 : Int) < (l.length : Int) := by omega
      go_wp2_with fail
      refine (awake_any _ (HT.out.up hbA hbA.size)).mono ?_
      rintro e w2 ⟨rfl, hb2⟩
      go_wp2_with fail
      go_ret
      exact ⟨rfl, hbA.trans (hb2.mono hbA.size)⟩
    · have hbig' : (l.length : Int) ≤ 100 := by omega
      by_cases hlen : 1000 < s.size
      · have hlen' : (1000 : Int) < (s.size : Int) := by omega
        go_wp2_with fail
        refine (awake_any _ (HT.out.up hbA hbA.size)).mono ?_
        rintro e w2 ⟨rfl, hb2⟩
        go_wp2_with fail
        go_ret
        exact ⟨rfl, hbA.trans (hb2.mono hbA.size)⟩
      · have hlen' : (s.size : Int) ≤ 1000 := by omega
        clear hbig hlen
        go_wp2_with fail
        go_loopw [7] (fun t wr => ∃ i : Nat, t = .int .i64 i ∧ i ≤ xs.length ∧ Below w.heap.size w wr) (fun t _ => xs.length - (intOf t).toNat)
        case atStart => exact ⟨0, rfl, Nat.zero_le _, hbA⟩
        case round =>
          obtain ⟨i, rfl, hi, hB⟩ := hrel
          by_cases hlt : i < xs.length
          · obtain ⟨b, off, rfl, hbl, hra⟩ := HY.out (by omega)
            obtain ⟨k0, k1, k2⟩ := (hra.belowV hB hbl) i hlt
            have hi0 : (0 : Int) ≤ (i : Int) := by omega
            have hi1 : (i : Int) < (xs.length : Int) := by omega
            have hbr : b < wr.heap.size := Nat.lt_of_lt_of_le hbl hB.size
            clear hra
            generalize (xs[i]?.getD v0) = x at k0 k1 k2
            obtain ⟨x0, x1, x2⟩ := x
            dsimp only at k0 k1 k2
            have HC1 := Lib.hid fun W => rowVV_b x0 x1 x2 W
            have HC2 := Lib.hid fun W => refVV_b x0 x1 x2 W
            generalize validV x0 x1 x2 = v at HC1 HC2
            have hS : ∀ w' : World, Below wr.heap.size wr w' → (Below wr.heap.size wr w' ∧ w'.cell? ⟨b, off + i * 3, none⟩ = some (.int .i64 x0) ∧ w'.cell? ⟨b, off + i * 3 + 1, none⟩ = some (.int .i64 x1) ∧ w'.cell? ⟨b, off + i * 3 + 2, none⟩ = some (.string x2)) := fun w' hb =>
              ⟨hb, (hb.cell (p := ⟨b, off + i * 3, none⟩) hbr).trans k0, (hb.cell (p := ⟨b, off + i * 3 + 1, none⟩) hbr).trans k1, (hb.cell (p := ⟨b, off + i * 3 + 2, none⟩) hbr).trans k2⟩
            have keepS : ∀ (u v : World), Below wr.heap.size wr u → Below u.heap.size u v → Below wr.heap.size wr v := fun u v h1 h2 => h1.trans (h2.mono h1.size)
            have HS := Lib.hid hS
            have HK := Lib.hid keepS
            have hWr : Below wr.heap.size wr wr := Below.refl _ _
            clear hS keepS k0 k1 k2
            go_wp2_with fail
            go_region_held3 (fun w' => Below wr.heap.size wr w' ∧ w'.cell? ⟨b, off + i * 3, none⟩ = some (.int .i64 x0) ∧ w'.cell? ⟨b, off + i * 3 + 1, none⟩ = some (.int .i64 x1) ∧ w'.cell? ⟨b, off + i * 3 + 2, none⟩ = some (.string x2)) (first | exact HS.out _ (HK.out _ _ (by assumption) (by assumption)) | exact HS.out _ (HK.out _ _ (And.left (by assumption)) (by assumption)) | exact HS.out _ (Below.drew (by assumption)) | exact HS.out _ (Below.drew (And.left (by assumption))) | assumption)
              (first
                | (go_at_call 13; refine (HC1.out _).mono ?_; rintro e w' ⟨rfl, hb⟩)
                | (go_at_call 14; refine (HC2.out _).mono ?_; rintro e w' ⟨rfl, hb⟩))
            have hBv : Below wr.heap.size wr w' := And.left (by assumption)
            clear HS HK
            go_wp2_with fail
            go_roundw
            case rel => exact ⟨i + 1, by go_num, by omega, hB.trans (hBv.mono hB.size)⟩
            case measure => simp [intOf]; omega
          · have hge : xs.length ≤ i := by omega
            clear hbA
            go_wp2_with fail
            refine (H1.out _ hB).mono ?_
            rintro e u1 ⟨rfl, kk⟩
            have B1 : Below w.heap.size w u1 := hB.trans (kk.mono hB.size)
            clear kk H1
            go_wp2_with fail
            refine (H2.out _ B1).mono ?_
            rintro e u2 ⟨rfl, kk⟩
            have B2 : Below w.heap.size w u2 := B1.trans (kk.mono B1.size)
            clear kk H2
            go_wp2_with fail
            refine (H3.out _).mono ?_
            rintro e u3 ⟨rfl, rfl⟩
            clear H3
            go_wp2_with fail
            refine (H4.out _).mono ?_
            rintro e u3 ⟨rfl, rfl⟩
            clear H4
            go_wp2_with fail
            refine (H5.out _ B2).mono ?_
            rintro e u5 ⟨rfl, kk⟩
            have B5 : Below w.heap.size w u5 := B2.trans (kk.mono B2.size)
            clear kk H5
            go_wp2_with fail
            refine (H6.out _ B5).mono ?_
            rintro e u6 ⟨rfl, kk⟩
            have B6 : Below w.heap.size w u6 := B5.trans (kk.mono B5.size)
            clear kk H6
            go_wp2_with fail
            refine (H7.out _ B6).mono ?_
            rintro e u7 ⟨rfl, kk⟩
            have B7 : Below w.heap.size w u7 := B6.trans (kk.mono B6.size)
            clear kk H7
            go_wp2_with fail
            refine (H8.out _ B7).mono ?_
            rintro e u8 ⟨rfl, kk⟩
            have B8 : Below w.heap.size w u8 := B7.trans (kk.mono B7.size)
            clear kk H8
            go_wp2_with fail
            refine (H9.out _ B8).mono ?_
            rintro e u9 ⟨rfl, kk⟩
            have B9 : Below w.heap.size w u9 := B8.trans (kk.mono B8.size)
            clear kk H9
            go_wp2_with fail
            refine (H10.out _ B9).mono ?_
            rintro e u10 ⟨rfl, kk⟩
            have B10 : Below w.heap.size w u10 := B9.trans (kk.mono B9.size)
            clear kk H10
            go_wp2_with fail
            refine (awake_any _ (HT.out.up B10 B10.size)).mono ?_
            rintro e u11 ⟨rfl, k12⟩
            go_wp2_with fail
            go_ret
            exact ⟨rfl, B10.trans (k12.mono B10.size)⟩

set_option maxRecDepth 100000 in
theorem lifted (os : Os) (started : os.Started) (H : Type) (enc : TypeId × Value → H) :
    ReturnsInHanded {} Tryd.checked os 3 .any (fun w args => (Rows.rowValidSpec.pre enc Tryd.prog Tryd.f3 [] false w args ∧ laidMetH Tryd.prog laid3 w) ∧ sizedMet enc Tryd.prog Tryd.f3 (OpenSpec.ofChange Rows.rowValidSpec) false w args)
      (Rows.rowValidSpec.post enc Tryd.prog Tryd.f3 false true false false) := by
  refine returnsInHanded_of_change_and (C := Tryd.checked) (X := fun w _ => laidMetH Tryd.prog laid3 w) (fun _ _ _ hh h => h.of_heap hh) own started (by kernel_rfl) Tryd.func3
    (ChangeSpec.witness_shaped (enc := enc) (C := Tryd.checked) (os := os) (X := fun w _ => laidMetH Tryd.prog laid3 w) false (World.doorLaid Tryd.prog 4000 os) #[.slice none 0 0, .slice none 0 0, .string ⟨#[]⟩] 8 rfl (World.shaped_of_RefB (by kernel_rfl) (by kernel_rfl)) (by kernel_rfl) (by kernel_rfl) (by kernel_rfl) (door_met os _)) ?_
  intro W base args ds gs before hval0 hW _ _ hL _
  have hval : ∀ (j : Nat) t v, Tryd.f3.params[j]? = some t → args[j]? = some v → Value.okWide Tryd.prog W .any base t v := hval0
  have hW' := hW
  obtain ⟨p, q, hA0, hV, rfl, hfz, hnd⟩ := hW
  have hA : DataW.TrodAll enc Tryd.prog W 0 (fun _ => true) true Tryd.f3.params.toList args.toList ds p := hA0
  rw [Tryd.params3] at hA hval
  obtain ⟨rfl, rfl⟩ := trodVars_none hV
  have hA' := hA
  obtain ⟨v0, vs0, d0, ds0, p0, q0, hargs, rfl, rfl, h0, r0⟩ := trodAll_cons hA
  obtain ⟨v1, vs1, d1, ds1, p1, q1, rfl, rfl, rfl, h1, r1⟩ := trodAll_cons r0
  obtain ⟨v2, vs2, d2, ds2, p2, q2, rfl, rfl, rfl, h2, r2⟩ := trodAll_cons r1
  obtain ⟨rfl, rfl, rfl⟩ := trodAll_nil r2
  obtain rfl : args = #[v0, v1, v2] := by cases args; simp_all
  obtain ⟨a0, l, c0, rfl, hlc, hcm, hcols, hsz⟩ := open_schema (hval 0 _ v0 rfl rfl) h0
  obtain ⟨⟨a1, xs, c1⟩, rfl, hx, _, _⟩ := open_row (hval 1 _ v1 rfl rfl) h1
  obtain ⟨s, rfl, hs⟩ := open_text (hval 2 _ v2 rfl rfl) h2
  clear hA0 hval0
  refine (walk a0 a1 l xs s c0 c1 hlc hcm hsz hx.1 hs W hcols hx.2 (tab_of_laid hL)).mono fun e W' ⟨he, hg⟩ => ?_
  subst he
  exact ⟨_, rfl, _, _, _, [], _, [], hW', trodAll_mk1 (shut_bool Tryd.underlying4 true), trodAll_below laidOut hg (by decide +kernel) hA' (fun x hx => by simpa using hW'.lt x (by simpa using hx)), rfl, hg.frame _, fun h => by cases h⟩

theorem over : Rows.RowValidSaid :=
  OpenClaim.holds_of_wide 3 Tryd.f3 rfl rfl rfl rfl rfl rfl rfl ⟨rfl, rfl, rfl, rfl, rfl⟩ rfl rfl rfl rfl rfl (by kernel_rfl) Tryd.func3 (by kernel_rfl)
    (of_decide_eq_true (by kernel_rfl)) (by unfold Func.isWrapper; first | (rw [if_pos (by decide +kernel)]; kernel_rfl) | (rw [if_neg (by decide +kernel)]; exact ⟨rfl, rfl⟩))
    (fun os started H enc _ => lifted os started H enc)

theorem proved : Rows.RowValidCardSaid :=
  Claim7.holds_tied_plain_at .later [] [.data, .data, .data] true (true, "7b0b4818b4bde6f5088541445430b425fe6bc8046a3fc79eba7008d2102f2ce4") true
    over (fun _ h => by cases h) (by kernel_rfl) (fun _ h => by cases h) rowValid_row_tie rfl ⟨rfl, rfl⟩ (by kernel_rfl) rfl
    (fun f fn hf hfn => by
      obtain rfl : f = 3 := Option.some.inj ((show Tryd.prog.funcNamed "tidewright/tidewrightlaw02.RowValid" = some 3 by kernel_rfl).symm.trans hf) |>.symm
      obtain rfl : fn = Tryd.f3 := (Option.some.inj (Tryd.func3.symm.trans hfn)).symm
      exact ⟨by kernel_rfl, fun j t ht => by
        rw [Tryd.params3] at ht
        have hm : t ∈ [23, 25, 9] := by simpa using Array.mem_of_getElem? ht
        have hall : ([23, 25, 9].all fun u => !Tryd.prog.wantsStandIn u) = true := by kernel_rfl
        exact (show Tryd.prog.wantsStandIn t = false by simpa using List.all_eq_true.1 hall t hm)⟩)
    (by kernel_rfl)
end Go.Proofs.YtfkkdoodngldhaaDoor.rowValid
