/-
  PROVED HERE: for every two rows (any values at all) and every columns the law RowPicks returns true: Project and Concat of package row answer as the document's own; on all columns a row is itself, and the first columns of both are the first row. Its arguments read afterwards as before. The library's tables start as the program's text lays them.
-/
import Derived.Test.YtfkkdoodngldhaaDoorRows
import Derived.Test.YtfkkdoodngldhaaDoorCat
import Derived.Test.YtfkkdoodngldhaaDoorSameR
import Derived.Test.YtfkkdoodngldhaaDoorOpenR
import Derived.Test.YtfkkdoodngldhaaDoorDoor
import Derived.Test.YtfkkdoodngldhaaDoorCards
import Derived.ChangeSlices
namespace Go.Proofs.YtfkkdoodngldhaaDoor.rowPicks
open Go.ChangeShapes Go.WideShapes Go.ChangeAt Go.RowKit
set_option linter.unusedVariables false

set_option maxRecDepth 100000 in
theorem open_cols {H : Type} {enc : TypeId × Value → H} {W : World} {base : Nat} {v : Value} {d : DataW H} {ps : List MemPlace} (hval : Value.okWide Tryd.prog W .any base 52 v)
    (h : DataW.Trod enc Tryd.prog W 0 (fun _ => true) true 52 v d ps) : ∃ p ts cap, v = .slice p ts.length cap ∧ ts.length ≤ maxLen ∧ IntsIn W p ts := by
  obtain ⟨a, len, cap, rfl⟩ := okWide_slice Tryd.underlying52 hval
  obtain ⟨fuel, hf⟩ := h
  rcases open_ints Tryd.underlying52 Tryd.underlying3 (by kernel_rfl) hf with ⟨h0, _⟩ | ⟨a', len', cap', zs, hcs, _, hlc, hcm, hz, _, hc, _⟩
  · simp only [Value.cells, List.cons.injEq, Value.slice.injEq, and_true] at h0
    obtain ⟨rfl, rfl, rfl⟩ := h0
    exact ⟨none, [], 0, rfl, by simp, fun h => absurd h (by simp)⟩
  · simp only [Value.cells, List.cons.injEq, Value.slice.injEq, and_true] at hcs
    obtain ⟨rfl, rfl, rfl⟩ := hcs
    rw [if_pos rfl] at hz
    have hl : (zs.take len).length = len := by rw [List.length_take]; omega
    refine ⟨some a', zs.take len, cap, by rw [hl], by rw [hl]; omega, fun h => ?_⟩
    rw [hl] at h
    obtain ⟨b, off, rfl, hcell⟩ := ints_at hc (by omega)
    refine ⟨b, off, rfl, World.block_lt_of_cell? W _ (hcell 0 (by omega)), fun i hil => ?_⟩
    rw [hl] at hil
    rw [hcell i (by omega)]
    simp [hil]

theorem infoI : (Tryd.prog.info? 3).map (fun i => (i.zero, i.size, i.bytes)) = some (some (.int .i64 0), 1, 8) := by kernel_rfl
def upto (n : Nat) : List Int := (List.range n).map fun i => ((i : Nat) : Int)
theorem upto_len (n : Nat) : (upto n).length = n := by simp [upto]
theorem upto_succ (n : Nat) : upto (n + 1) = upto n ++ [(n : Int)] := by simp [upto, List.range_succ]
def intsV (ts : List Int) : List Value := ts.map fun t => .int .i64 t
theorem ints_of_owns {W : World} {base c : Nat} {p : Option Addr} {ts : List Int} (h : W.ownsRow base 3 1 (.slice p ts.length c) ts.length (intsV ts)) : IntsIn W p ts := fun hp => by
  have hh := h
  rcases h.2 with ⟨h0, hn⟩ | ⟨g, cap, cur, he, _, hg, _⟩
  · omega
  · simp only [Value.slice.injEq, true_and] at he
    obtain ⟨rfl, rfl⟩ := he
    refine ⟨g, 0, rfl, (Array.getElem?_eq_some_iff.1 hg).1, fun i hi => ?_⟩
    have := hh.cellAt i (by omega)
    simp only [Nat.zero_add]
    rw [this]
    simp [intsV, hi]
theorem okCols_upto {n m : Nat} (h : n ≤ m) : okCols (upto n) m = true := by
  unfold okCols upto
  rw [List.all_eq_true]
  intro c hc
  simp only [List.mem_map, List.mem_range] at hc
  obtain ⟨i, hi, rfl⟩ := hc
  rw [decide_eq_true]
  omega
theorem pick_upto (xs ys : List Val) : pick (xs ++ ys) (upto xs.length) = xs := by
  unfold pick upto
  apply List.ext_getElem
  · simp
  · intro i h1 h2
    simp
    rw [List.getElem?_append_left h2, List.getElem?_eq_getElem h2]
    rfl
theorem validRow_app {xs ys : List Val} (hx : validRow xs = true) (hy : validRow ys = true) (h8 : xs.length + ys.length ≤ 8) : validRow (xs ++ ys) = true := by
  unfold validRow at *
  rw [Bool.and_eq_true] at *
  refine ⟨by rw [decide_eq_true_eq, List.length_append]; exact h8, ?_⟩
  have h1 := hx.2
  have h2 := hy.2
  unfold validVs at *
  rw [List.all_append, h1, h2]
  rfl
theorem cat_ok {xs ys : List Val} (h : catErr xs ys = 0) : validRow xs = true ∧ validRow ys = true ∧ xs.length + ys.length ≤ 8 := by
  unfold catErr at h
  cases hx : validRow xs <;> cases hy : validRow ys <;> simp [hx, hy] at h ⊢
  omega
theorem proj_cat {xs ys : List Val} (h : catErr xs ys = 0) : projErr (xs ++ ys) (upto xs.length) = 0 ∧ projVal (xs ++ ys) (upto xs.length) = xs := by
  obtain ⟨h1, h2, h3⟩ := cat_ok h
  have e : projErr (xs ++ ys) (upto xs.length) = 0 := by
    unfold projErr
    rw [validRow_app h1 h2 h3, okCols_upto (by rw [List.length_append]; omega), upto_len, if_neg (by decide), if_neg (by decide), if_neg (by omega)]
  refine ⟨e, ?_⟩
  unfold projVal
  rw [e, if_pos rfl, pick_upto]
theorem proj_all {xs ys : List Val} (h : catErr xs ys = 0) : projErr xs (upto xs.length) = 0 ∧ projVal xs (upto xs.length) = xs := by
  obtain ⟨h1, h2, h3⟩ := cat_ok h
  have e : projErr xs (upto xs.length) = 0 := by
    unfold projErr
    rw [h1, okCols_upto (Nat.le_refl _), upto_len, if_neg (by decide), if_neg (by decide), if_neg (by omega)]
  refine ⟨e, ?_⟩
  unfold projVal
  rw [e, if_pos rfl]
  simpa using pick_upto xs []
theorem owns_len {W : World} {base : Nat} {e : TypeId} {size : Nat} {v : Value} {n : Nat} {xs : List Value} (h : W.ownsRow base e size v n xs) : n ≤ maxLen := by
  rcases h.2 with ⟨_, hn⟩ | ⟨g, cap, cur, _, _, _, h1, h2, _⟩
  · omega
  · omega

set_option maxRecDepth 100000 in
set_option maxHeartbeats 8000000 in
theorem walk (p q s : Option Addr) (xs ys : List Val) (cs : List Int) (c d f : Nat) (hz : p = none → c = 0) (hy : q = none → d = 0) (hmx : xs.length ≤ 9223372036854775807) (hmy : ys.length ≤ 9223372036854775807) (hmc : cs.length ≤ 9223372036854775807) (w : World) (hX : ValsIn w p xs) (hY : ValsIn w q ys) (hC : IntsIn w s cs) (hT : Tab w.heap.size w) :
    Calls Tryd.prog 8 #[.slice p xs.length c, .slice q ys.length d, .slice s cs.length f] w fun e w' => e = .returned (.bool true) ∧ Below w.heap.size w w' := by
  have hbA : Below w.heap.size w (w.alloc (.cells #[.slice p xs.length c, .slice q ys.length d] 25)) := (Below.refl _ _).alloc (Nat.le_refl _) _
  have hlong := Long_any (some ⟨w.heap.size, 0, none⟩) [(p, xs, c), (q, ys, d)] 2 (by simp) _ (fun _ => ⟨w.heap.size, 0, rfl, by simp, fun i hi => by
    have hb := Blk.new w 25 #[.slice p xs.length c, .slice q ys.length d]
    have hi3 : i = 0 ∨ i = 1 := by simp at hi; omega
    rcases hi3 with rfl | rfl
    · exact ⟨hb.cell 0, hmx, hX.belowV hbA⟩
    · exact ⟨hb.cell 1, hmy, hY.belowV hbA⟩⟩ : RowsIn (w.alloc (.cells #[.slice p xs.length c, .slice q ys.length d] 25)) (some ⟨w.heap.size, 0, none⟩) [(p, xs, c), (q, ys, d)])
  have HL := Lib.hid hlong
  have HX := Lib.hid hX
  have HT := Lib.hid hT
  have h1 := fun W (h : Below w.heap.size w W) => rowProject_any p s xs cs c f hmx hmc W (hX.belowV h) (hC.belowV h)
  have h2 := fun W (h : Below w.heap.size w W) => refProject_any p s xs cs c f hmx hmc W (hX.belowV h) (hC.belowV h)
  have h3 := fun W (h : Below w.heap.size w W) => rowConcat_any p q xs ys c d hz hy hmx hmy W (hX.belowV h) (hY.belowV h)
  have h4 := fun W (h : Below w.heap.size w W) => refConcat_any p q xs ys c d hz hy hmx hmy W (hX.belowV h) (hY.belowV h)
  have hcv : catErr xs ys = 0 → catVal xs ys = xs ++ ys ∧ xs.length ≤ 8 ∧ (∃ n : Nat, n = xs.length) := fun h => ⟨by unfold catVal; rw [if_pos h], by have := cat_ok h; omega, ⟨_, rfl⟩⟩
  have hpa := fun h => @proj_all xs ys h
  have hpc := fun h => @proj_cat xs ys h
  generalize projVal xs cs = zz at h1 h2
  generalize projErr xs cs = er at h1 h2
  generalize catVal xs ys = kk at h3 h4 hcv
  generalize catErr xs ys = ec at h3 h4 hcv hpa hpc
  have H1 := Lib.hid h1
  have H2 := Lib.hid h2
  have H3 := Lib.hid h3
  have H4 := Lib.hid h4
  have HCV := Lib.hid hcv
  have HPA := Lib.hid hpa
  have HPC := Lib.hid hpc
  have HS := Lib.hid Same_any
  have HPJ := Lib.hid rowProject_any
  clear hX hY hC hT hlong h1 h2 h3 h4 hcv hpa hpc hz hy
  go_enter Tryd.func8, Tryd.ntmps8
  go_wp2_with fail
  refine HL.out.mono ?_
  rintro e w1 ⟨b, rfl, rfl⟩
  cases b with
  | true =>
    go_wp2_with fail
    refine (awake_any _ (HT.out.up hbA hbA.size)).mono ?_
    rintro e w2 ⟨rfl, hb2⟩
    go_wp2_with fail
    go_ret
    exact ⟨rfl, hbA.trans (hb2.mono hbA.size)⟩
  | false =>
    obtain ⟨W0, hW0⟩ : ∃ W0, w.alloc (.cells #[.slice p xs.length c, .slice q ys.length d] 25) = W0 := ⟨_, rfl⟩
    rw [hW0] at hbA ⊢
    clear hW0 HL
    by_cases hbig : 1000 < cs.length
    · have hbig' : (1000 : Int) < (cs.length : Int) := by omega
      go_wp2_with fail
      refine (awake_any _ (HT.out.up hbA hbA.size)).mono ?_
      rintro e w2 ⟨rfl, hb2⟩
      go_wp2_with fail
      go_ret
      exact ⟨rfl, hbA.trans (hb2.mono hbA.size)⟩
    · have hbig' : (cs.length : Int) ≤ 1000 := by omega
      go_wp2_with fail
      refine (H1.out _ hbA).mono ?_
      rintro e u1 ⟨v1, rfl, o1, k1⟩
      have B1 : Below w.heap.size w u1 := hbA.trans (k1.mono hbA.size)
      go_wp2_with fail
      refine (H2.out _ B1).mono ?_
      rintro e u2 ⟨v2, rfl, o2, k2⟩
      have B2 : Below w.heap.size w u2 := B1.trans (k2.mono B1.size)
      have o1' := owns_below o1 k2
      obtain ⟨p1, c1, rfl⟩ := slice_of_owns o1
      obtain ⟨p2, c2, rfl⟩ := slice_of_owns o2
      have hs1 := HS.out p1 p2 zz c1 c2 zz.length rfl (Nat.le_trans (owns_len o1) (by decide)) u2 (valsIn_of_owns o1') (valsIn_of_owns o2)
      have HS1 := Lib.hid hs1
      clear k1 k2 o1 o2 o1' hs1 H1 H2
      go_wp2_with fail
      refine HS1.out.mono ?_
      rintro e u3 ⟨rfl, k3⟩
      have B3 : Below w.heap.size w u3 := B2.trans (k3.mono B2.size)
      clear k3 HS1
      go_wp2_with fail
      refine (H3.out _ B3).mono ?_
      rintro e u4 ⟨v4, rfl, o4, k4⟩
      have B4 : Below w.heap.size w u4 := B3.trans (k4.mono B3.size)
      go_wp2_with fail
      refine (H4.out _ B4).mono ?_
      rintro e u5 ⟨v5, rfl, o5, k5⟩
      have B5 : Below w.heap.size w u5 := B4.trans (k5.mono B4.size)
      have o4' := owns_below o4 k5
      obtain ⟨p4, c4, rfl⟩ := slice_of_owns o4
      obtain ⟨p5, c5, rfl⟩ := slice_of_owns o5
      have hkl := Nat.le_trans (owns_len o4) (by decide : maxLen ≤ 9223372036854775807)
      have hs2 := HS.out p4 p5 kk c4 c5 kk.length rfl hkl u5 (valsIn_of_owns o4') (valsIn_of_owns o5)
      have HS2 := Lib.hid hs2
      have HO4 := Lib.hid o4'
      clear k4 k5 o4 o5 o4' hs2 H3 H4
      go_wp2_with fail
      refine HS2.out.mono ?_
      rintro e u6 ⟨rfl, k6⟩
      have B6 : Below w.heap.size w u6 := B5.trans (k6.mono B5.size)
      have HO6 := Lib.hid (owns_below HO4.out k6)
      clear k6 HS2 HO4
      by_cases hec : ec = 0
      · subst hec
        obtain ⟨hkk, h8, _⟩ := HCV.out rfl
        have hpa := HPA.out rfl
        have hpc := HPC.out rfl
        rw [← hkk] at hpc
        have HPA' := Lib.hid hpa
        have HPC' := Lib.hid hpc
        clear HCV HPA HPC hpa hpc hkk
        obtain ⟨i0, hi, hz0, hz1, hz2⟩ := info_parts infoI
        go_wp2_with fail
        go_loopw [13, 14] (fun o t wr => ∃ i : Nat, t = .int .i64 i ∧ i ≤ xs.length ∧ wr.ownsRow u6.heap.size 3 1 o i (intsV (upto i)) ∧ Below u6.heap.size u6 wr) (fun _ t _ => xs.length - (intOf t).toNat)
        case atStart => exact ⟨0, rfl, Nat.zero_le _, World.ownsRow_nil _ _ _ _, Below.refl _ _⟩
        case round =>
          obtain ⟨i, rfl, hi', hrow, hB⟩ := hrel
          have hBs := hB.size
          by_cases hlt : i < xs.length
          · have hi0 : (0 : Int) ≤ (i : Int) := by omega
            have hi1 : (i : Int) < (xs.length : Int) := by omega
            go_wp2_with (at_builtin; refine wpList_append_own _ rfl _ _ 52 rfl u6.heap.size 3 i0 (.int .i64 0) 1 8 Tryd.underlying52 hi hz0 hz1 hz2 rfl (by decide) _ _ _ rfl (hrow.alloc _) ⟨wr.heap.size, 0, none⟩ 1 1 [.int .i64 (i : Int)] rfl rfl (cells_new _ _ _) (by simp [Value.oneCell']) (by unfold maxLen; omega) (by omega) (by simp <;> omega) ?_; intro v' w5 hown' hgrow _; have hB5 : Below u6.heap.size u6 w5 := (hB.alloc hBs _).grown hgrow (by simp <;> omega) (fun k e => (hrow.lt k e).1))
            go_roundw
            case rel => exact ⟨i + 1, by go_num, by omega, by rw [upto_succ]; simpa [intsV] using hown', hB5⟩
            case measure => simp [intOf]; omega
          · have hge : xs.length ≤ i := by omega
            obtain rfl : i = xs.length := by omega
            obtain ⟨p7, c7, rfl⟩ := slice_of_owns hrow
            have hrow' : wr.ownsRow u6.heap.size 3 1 (.slice p7 (upto xs.length).length c7) (upto xs.length).length (intsV (upto xs.length)) := by rw [upto_len]; exact hrow
            have hI := ints_of_owns hrow'
            have B7 : Below w.heap.size w wr := B6.trans (hB.mono B6.size)
            have hV := valsIn_of_owns (owns_below HO6.out hB)
            have hP1 := HPJ.out p4 p7 kk (upto xs.length) c4 c7 hkl (by rw [upto_len]; exact hmx) wr hV hI
            have hP2 := fun W (h : Below wr.heap.size wr W) => HPJ.out p p7 xs (upto xs.length) c c7 hmx (by rw [upto_len]; exact hmx) W (HX.out.belowV (B7.trans (h.mono B7.size))) (hI.belowV h)
            rw [HPA'.out.1, HPA'.out.2, upto_len] at hP2
            rw [HPC'.out.1, HPC'.out.2, upto_len] at hP1
            have HP1 := Lib.hid hP1
            have HP2 := Lib.hid hP2
            clear hP1 hP2 hrow hrow' hI hV HPA' HPC' HPJ
            go_wp2_with fail
            refine HP1.out.mono ?_
            rintro e u8 ⟨v8, rfl, o8, k8⟩
            have B8 : Below w.heap.size w u8 := B7.trans (k8.mono B7.size)
            go_wp2_with fail
            refine (HP2.out _ k8).mono ?_
            rintro e u9 ⟨v9, rfl, o9, k9⟩
            have B9 : Below w.heap.size w u9 := B8.trans (k9.mono B8.size)
            have o8' := owns_below o8 k9
            obtain ⟨p8, c8, rfl⟩ := slice_of_owns o8
            obtain ⟨p9, c9, rfl⟩ := slice_of_owns o9
            have hs3 := HS.out p8 p xs c8 c xs.length rfl hmx u9 (valsIn_of_owns o8') (HX.out.belowV B9)
            have hs4 := fun W (h : Below u9.heap.size u9 W) => HS.out p9 p xs c9 c xs.length rfl hmx W ((valsIn_of_owns o9).belowV h) (HX.out.belowV (B9.trans (h.mono B9.size)))
            have HS3 := Lib.hid hs3
            have HS4 := Lib.hid hs4
            clear k8 k9 o8 o9 o8' hs3 hs4 HS HP1 HP2
            go_wp2_with fail
            refine HS3.out.mono ?_
            rintro e u10 ⟨rfl, k10⟩
            have B10 : Below w.heap.size w u10 := B9.trans (k10.mono B9.size)
            go_wp2_with fail
            refine (HS4.out _ k10).mono ?_
            rintro e u11 ⟨rfl, k11⟩
            have B11 : Below w.heap.size w u11 := B10.trans (k11.mono B10.size)
            clear k10 k11 HS3 HS4
            go_wp2_with fail
            refine (awake_any _ (HT.out.up B11 B11.size)).mono ?_
            rintro e u12 ⟨rfl, k12⟩
            go_wp2_with fail
            go_ret
            exact ⟨rfl, B11.trans (k12.mono B11.size)⟩
      · have hec' : (ec != 0) = true := by rw [bne_iff_ne]; exact hec
        clear HCV HPA HPC
        go_wp2_with fail
        refine (awake_any _ (HT.out.up B6 B6.size)).mono ?_
        rintro e u7 ⟨rfl, k7⟩
        go_wp2_with fail
        go_ret
        exact ⟨rfl, B6.trans (k7.mono B6.size)⟩

set_option maxRecDepth 100000 in
theorem lifted (os : Os) (started : os.Started) (H : Type) (enc : TypeId × Value → H) :
    ReturnsInHanded {} Tryd.checked os 8 .any (fun w args => (Rows.rowPicksSpec.pre enc Tryd.prog Tryd.f8 [] false w args ∧ laidMetH Tryd.prog laid3 w) ∧ sizedMet enc Tryd.prog Tryd.f8 (OpenSpec.ofChange Rows.rowPicksSpec) false w args)
      (Rows.rowPicksSpec.post enc Tryd.prog Tryd.f8 false true false false) := by
  refine returnsInHanded_of_change_and (C := Tryd.checked) (X := fun w _ => laidMetH Tryd.prog laid3 w) (fun _ _ _ hh h => h.of_heap hh) own started (by kernel_rfl) Tryd.func8
    (ChangeSpec.witness_shaped (enc := enc) (C := Tryd.checked) (os := os) (X := fun w _ => laidMetH Tryd.prog laid3 w) false (World.doorLaid Tryd.prog 4000 os) #[.slice none 0 0, .slice none 0 0, .slice none 0 0] 8 rfl (World.shaped_of_RefB (by kernel_rfl) (by kernel_rfl)) (by kernel_rfl) (by kernel_rfl) (by kernel_rfl) (door_met os _)) ?_
  intro W base args ds gs before hval0 hW _ _ hL _
  have hval : ∀ (j : Nat) t v, Tryd.f8.params[j]? = some t → args[j]? = some v → Value.okWide Tryd.prog W .any base t v := hval0
  have hW' := hW
  obtain ⟨p, q, hA0, hV, rfl, hfz, hnd⟩ := hW
  have hA : DataW.TrodAll enc Tryd.prog W 0 (fun _ => true) true Tryd.f8.params.toList args.toList ds p := hA0
  rw [Tryd.params8] at hA hval
  obtain ⟨rfl, rfl⟩ := trodVars_none hV
  have hA' := hA
  obtain ⟨v0, vs0, d0, ds0, p0, q0, hargs, rfl, rfl, h0, r0⟩ := trodAll_cons hA
  obtain ⟨v1, vs1, d1, ds1, p1, q1, rfl, rfl, rfl, h1, r1⟩ := trodAll_cons r0
  obtain ⟨v2, vs2, d2, ds2, p2, q2, rfl, rfl, rfl, h2, r2⟩ := trodAll_cons r1
  obtain ⟨rfl, rfl, rfl⟩ := trodAll_nil r2
  obtain rfl : args = #[v0, v1, v2] := by cases args; simp_all
  obtain ⟨⟨a0, xs, c0⟩, rfl, hx, hzx, _⟩ := open_row (hval 0 _ v0 rfl rfl) h0
  obtain ⟨⟨a1, ys, c1⟩, rfl, hy, hzy, _⟩ := open_row (hval 1 _ v1 rfl rfl) h1
  obtain ⟨a2, cs, c2, rfl, hcl, hcs⟩ := open_cols (hval 2 _ v2 rfl rfl) h2
  clear hA0 hval0
  refine (walk a0 a1 a2 xs ys cs c0 c1 c2 hzx hzy hx.1 hy.1 (Nat.le_trans hcl (by decide)) W hx.2 hy.2 hcs (tab_of_laid hL)).mono fun e W' ⟨he, hg⟩ => ?_
  subst he
  exact ⟨_, rfl, _, _, _, [], _, [], hW', trodAll_mk1 (shut_bool Tryd.underlying4 true), trodAll_below laidOut hg (by decide +kernel) hA' (fun x hx => by simpa using hW'.lt x (by simpa using hx)), rfl, hg.frame _, fun h => by cases h⟩

theorem over : Rows.RowPicksSaid :=
  OpenClaim.holds_of_wide 8 Tryd.f8 rfl rfl rfl rfl rfl rfl rfl ⟨rfl, rfl, rfl, rfl, rfl⟩ rfl rfl rfl rfl rfl (by kernel_rfl) Tryd.func8 (by kernel_rfl)
    (of_decide_eq_true (by kernel_rfl)) (by unfold Func.isWrapper; first | (rw [if_pos (by decide +kernel)]; kernel_rfl) | (rw [if_neg (by decide +kernel)]; exact ⟨rfl, rfl⟩))
    (fun os started H enc _ => lifted os started H enc)

theorem proved : Rows.RowPicksCardSaid :=
  Claim7.holds_tied_plain_at .later [] [.data, .data, .data] true (true, "7b0b4818b4bde6f5088541445430b425fe6bc8046a3fc79eba7008d2102f2ce4") true
    over (fun _ h => by cases h) (by kernel_rfl) (fun _ h => by cases h) rowPicks_row_tie rfl ⟨rfl, rfl⟩ (by kernel_rfl) rfl
    (fun f fn hf hfn => by
      obtain rfl : f = 8 := Option.some.inj ((show Tryd.prog.funcNamed "tidewright/tidewrightlaw02.RowPicks" = some 8 by kernel_rfl).symm.trans hf) |>.symm
      obtain rfl : fn = Tryd.f8 := (Option.some.inj (Tryd.func8.symm.trans hfn)).symm
      exact ⟨by kernel_rfl, fun j t ht => by
        rw [Tryd.params8] at ht
        have hm : t ∈ [25, 25, 52] := by simpa using Array.mem_of_getElem? ht
        have hall : ([25, 25, 52].all fun u => !Tryd.prog.wantsStandIn u) = true := by kernel_rfl
        exact (show Tryd.prog.wantsStandIn t = false by simpa using List.all_eq_true.1 hall t hm)⟩)
    (by kernel_rfl)
end Go.Proofs.YtfkkdoodngldhaaDoor.rowPicks
