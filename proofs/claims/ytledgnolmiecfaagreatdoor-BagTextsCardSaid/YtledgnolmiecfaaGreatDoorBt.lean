/-
  BagTexts: both Parse of bags at any text; what the law's own walk leaves.
-/
import Derived.Test.YtledgnolmiecfaaGreatDoorBr
import Derived.Test.YtledgnolmiecfaaGreatDoorSameB
import Derived.Test.YtledgnolmiecfaaGreatDoorJH
namespace Go.Proofs.YtledgnolmiecfaaGreatDoor.bagTexts
open Go.ChangeShapes Go.WideShapes Go.ChangeAt Go.RowKit
set_option linter.unusedSimpArgs false
set_option linter.unusedVariables false

set_option maxRecDepth 100000 in
set_option maxHeartbeats 1000000 in
theorem refParse_long3 (t : ByteArray) (hl : 65536 < t.size) (w : World) : Calls Tryz.prog 11 #[.string t] w (BpPost ([], 0, 3) w) := by
  have g1 : (65536 : Int) < t.size := by omega
  clear hl
  go_enter Tryz.func11, Tryz.ntmps11
  go_wp2_with fail
  refine bodyPost_ret (v := .tuple #[.slice none 0 0, .int .i64 0, .int .i64 3]) (by simp [results, Tryz.f11, go_sem]) rfl ?_
  exact ⟨_, [], rfl, OwnItems.nil _ _, rfl, Below.refl _ _⟩
set_option maxRecDepth 100000 in
set_option maxHeartbeats 1000000 in
theorem bagParse_long (t : ByteArray) (hl : 65536 < t.size) (w : World) : Calls Tryz.prog 8 #[.string t] w (BpPost ([], 0, 3) w) := by
  have g1 : (65536 : Int) < t.size := by omega
  have HB1 := Lib.hid ((((Below.refl w.heap.size w).alloc (Nat.le_refl _) (.cells #[.slice none 0 0] 23)).alloc (by simp) (.cells #[.int .i64 0] 3)).alloc (by simp; omega) (.cells #[.int .i64 0] 27))
  have HK0 := Lib.hid (((Blk.new w 23 #[.slice none 0 0]).allocG (.cells #[.int .i64 0] 3)).allocG (.cells #[.int .i64 0] 27))
  have HK1 := Lib.hid ((Blk.newAt (w.alloc (.cells #[.slice none 0 0] 23)) 3 #[.int .i64 0] (g := w.heap.size + 1) (by simp)).allocG (.cells #[.int .i64 0] 27))
  have HK2 := Lib.hid (Blk.newAt ((w.alloc (.cells #[.slice none 0 0] 23)).alloc (.cells #[.int .i64 0] 3)) 27 #[.int .i64 0] (g := w.heap.size + 1 + 1) (by simp))
  generalize hw1 : ((w.alloc (.cells #[.slice none 0 0] 23)).alloc (.cells #[.int .i64 0] 3)).alloc (.cells #[.int .i64 0] 27) = w1 at HB1 HK0 HK1 HK2
  have d0 := HK0.out.cell 0
  have d1 := HK1.out.cell 0
  have d2 := HK2.out.cell 0
  have f0 := HK0.out.froz 0
  have f1 := HK1.out.froz 0
  have f2 := HK2.out.froz 0
  simp only [List.getElem?_toArray, List.getElem?_cons_zero] at d0 d1 d2
  have HF := Lib.hid (show Below w.heap.size w (((w1.setCell ⟨w.heap.size, 0, none⟩ (.slice none 0 0)).setCell ⟨w.heap.size + 1, 0, none⟩ (.int .i64 0)).setCell ⟨w.heap.size + 1 + 1, 0, none⟩ (.int .i64 3)) ∧ Blk (((w1.setCell ⟨w.heap.size, 0, none⟩ (.slice none 0 0)).setCell ⟨w.heap.size + 1, 0, none⟩ (.int .i64 0)).setCell ⟨w.heap.size + 1 + 1, 0, none⟩ (.int .i64 3)) w.heap.size 23 #[.slice none 0 0] ∧ Blk (((w1.setCell ⟨w.heap.size, 0, none⟩ (.slice none 0 0)).setCell ⟨w.heap.size + 1, 0, none⟩ (.int .i64 0)).setCell ⟨w.heap.size + 1 + 1, 0, none⟩ (.int .i64 3)) (w.heap.size + 1) 3 #[.int .i64 0] ∧ Blk (((w1.setCell ⟨w.heap.size, 0, none⟩ (.slice none 0 0)).setCell ⟨w.heap.size + 1, 0, none⟩ (.int .i64 0)).setCell ⟨w.heap.size + 1 + 1, 0, none⟩ (.int .i64 3)) (w.heap.size + 1 + 1) 27 #[.int .i64 3] from
    ⟨((HB1.out.setCell (p := ⟨w.heap.size, 0, none⟩) (Nat.le_refl _) _).setCell (p := ⟨w.heap.size + 1, 0, none⟩) (by show w.heap.size ≤ w.heap.size + 1; omega) _).setCell (p := ⟨w.heap.size + 1 + 1, 0, none⟩) (by show w.heap.size ≤ w.heap.size + 1 + 1; omega) _,
      ((HK0.out.setG 0 _).setOther (by omega) _).setOther (by omega) _, ((HK1.out.setOther (by omega) _).setG 0 _).setOther (by omega) _, ((HK2.out.setOther (by omega) _).setOther (by omega) _).setG 0 _⟩)
  clear hl HK0 HK1 HK2 HB1
  go_enter Tryz.func8, Tryz.ntmps8
  go_wp2_with fail
  have r0 := HF.out.2.1.cell 0
  have r1 := HF.out.2.2.1.cell 0
  have r2 := HF.out.2.2.2.cell 0
  simp only [List.getElem?_toArray, List.getElem?_cons_zero] at r0 r1 r2
  refine bodyPost_ret (v := .tuple #[.slice none 0 0, .int .i64 0, .int .i64 3]) (by simp [results, Tryz.f8, go_sem, r0, r1, r2]) rfl ?_
  exact ⟨_, [], rfl, OwnItems.nil _ _, rfl, HF.out.1⟩
theorem nil_valid : validBag [] = true := validBag_iff.2 ⟨Nat.zero_le _, by simp, .nil⟩
/-- Both Parse at any text: the same bag, the same line, the same error. -/
theorem parse_out (s : ByteArray) : ∃ (l : List It) (ln er : Int), (∀ w, Env w.heap.size w → Calls Tryz.prog 8 #[.string s] w (BpPost (l, ln, er) w)) ∧ (∀ w, Env w.heap.size w → Calls Tryz.prog 11 #[.string s] w (BpPost (l, ln, er) w)) ∧ validBag l = true ∧ (s.size ≤ 65536 → (l, ln, er) = readsL [] (linesT s.data.toList)) := by
  by_cases hl : 65536 < s.size
  · exact ⟨[], 0, 3, fun w _ => bagParse_long s hl w, fun w _ => refParse_long3 s hl w, nil_valid, fun h => by omega⟩
  · exact ⟨_, _, _, fun w hE => bagParse_any s (by omega) w hE, fun w hE => refBagParse_any s (by omega) w hE, reads_valid nil_valid, fun _ => rfl⟩
theorem lens_of_valid {os : List ItR} (h : validBag (vals os) = true) : (∀ r ∈ os, r.1.2.1.length ≤ 9223372036854775807) ∧ os.length ≤ 9223372036854775807 := by
  refine ⟨fun r hr => ?_, by have := (validBag_iff.1 h).1; rw [vals_len] at this; omega⟩
  have h1 := (validBag_iff.1 h).2.1 (itv r) (List.mem_map_of_mem hr)
  have h2 := (valid_split (itOK_iff.1 h1).1).1
  dsimp only [itv] at h2
  omega

set_option maxRecDepth 100000 in
set_option maxHeartbeats 8000000 in
theorem walk (x : BagV) (t : ByteArray) (w : World) (hX : BagOK w x) (hE : Env w.heap.size w) :
    Calls Tryz.prog 3 #[bagv x, .string t] w fun e w' => e = .returned (.bool true) ∧ Below w.heap.size w w' := by
  have hbA : Below w.heap.size w (w.alloc (.cells #[bagv x] 23)) := (Below.refl _ _).alloc (Nat.le_refl _) _
  have hfew := Few_any w.heap.size [x] (by simp) (w.alloc (.cells #[bagv x] 23)) (by simp) (fun i hi => by
    have hb := Blk.new w 23 #[bagv x]
    have hi3 : i = 0 := by simp at hi; omega
    subst hi3
    exact hb.cell 0) (fun b hb => by
    simp only [List.mem_cons, List.not_mem_nil, or_false] at hb
    subst hb
    exact hX.belowV hbA)
  have HF := Lib.hid hfew
  have HXX := Lib.hid hX
  have HE := Lib.hid hE
  clear hfew hX hE
  obtain ⟨p, rs, c⟩ := x
  dsimp only [bagv] at *
  have HW := Lib.hid awake_any
  have HXW := Lib.hid (fun W (k : Below w.heap.size w W) => (show ItemsIn W p rs from HXX.out.2.2.belowV k))
  have HEW := Lib.hid (fun W (k : Below w.heap.size w W) => (show Env W.heap.size W from (HE.out.on k).up k.size))
  have HC := Lib.hid (show rs.length ≤ c from HXX.out.2.1)
  have HM := Lib.hid (show rs.length ≤ 9223372036854775807 from HXX.out.1)
  clear HXX HE
  go_enter Tryz.func3, Tryz.ntmps3
  go_wp2_with fail
  refine HF.out.mono ?_
  rintro e w1 ⟨he, hb1⟩
  have HB := Lib.hid (hbA.trans (hb1.mono hbA.size))
  clear hb1 hbA HF
  rcases he with rfl | ⟨rfl, h60⟩
  · go_wp2_with fail
    refine (HW.out _).mono ?_
    rintro e w99 ⟨rfl, k99⟩
    go_wp2_with fail
    go_ret
    exact ⟨rfl, HB.out.trans (k99.mono HB.out.size)⟩
  · by_cases ht : 131072 < t.size
    · have g1 : (131072 : Int) < (t.size : Int) := by omega
      clear ht h60
      go_wp2_with fail
      refine (HW.out _).mono ?_
      rintro e w99 ⟨rfl, k99⟩
      go_wp2_with fail
      go_ret
      exact ⟨rfl, HB.out.trans (k99.mono HB.out.size)⟩
    · have g1 : ¬ (131072 : Int) < (t.size : Int) := by omega
      have h60' : rs.length ≤ 60 := h60 (p, rs, c) (by simp)
      have HF1 := Lib.hid (fun W (k : Below w.heap.size w W) => bagFormat_any p rs c h60' HC.out W (HXW.out W k) (HEW.out W k))
      have HF2 := Lib.hid (fun W (k : Below w.heap.size w W) => refFormat_any p rs c h60' W (HXW.out W k) (HEW.out W k))
      have HVB := Lib.hid (fun W (k : Below w.heap.size w W) => refBagValid_any p rs c HM.out W (HXW.out W k))
      obtain ⟨l2, n2, e2, hp2, hq2, hv2, _⟩ := parse_out t
      have HP2 := Lib.hid (fun W (k : Below w.heap.size w W) => hp2 W (HEW.out W k))
      have HQ2 := Lib.hid (fun W (k : Below w.heap.size w W) => hq2 W (HEW.out W k))
      have HV2 := Lib.hid hv2
      obtain ⟨l1, n1, e1, hp1, _, hv1, hout⟩ := parse_out (bs (fmtB (vals rs)))
      have HP1 := Lib.hid (fun W (k : Below w.heap.size w W) => hp1 W (HEW.out W k))
      have HV1 := Lib.hid hv1
      have HO1 := Lib.hid (show validBag (vals rs) = true → (bs (fmtB (vals rs))).size ≤ 65536 → (l1, n1, e1) = (vals rs, 0, 0) from fun hv hs => by
        rw [hout hs, bs_data, show fmtB (vals rs) = textB (vals rs) by unfold fmtB; rw [hv]; rfl, reads_text (vals rs) [] hv]
        rfl)
      clear hp2 hq2 hv2 hp1 hv1 hout h60 ht HEW h60'
      generalize bs (fmtB (vals rs)) = y at HF1 HF2 HP1 HO1
      go_wp2_with fail
      refine (HF1.out _ HB.out).mono ?_
      rintro e w2 ⟨rfl, k2⟩
      have HB2 := Lib.hid (HB.out.trans (k2.mono HB.out.size))
      clear k2 HB HF1
      go_wp2_with fail
      refine (HF2.out _ HB2.out).mono ?_
      rintro e w3 ⟨rfl, k3⟩
      have HB3 := Lib.hid (HB2.out.trans (k3.mono HB2.out.size))
      clear k3 HB2 HF2
      go_wp2_with fail
      refine (HP1.out _ HB3.out).mono ?_
      rintro e w4 ⟨v1, rs1, rfl, o1, hr1, k4⟩
      have HB4 := Lib.hid (HB3.out.trans (k4.mono HB3.out.size))
      have HR1 := Lib.hid (And.intro o1 hr1)
      obtain ⟨p1, c1, rfl⟩ := slice_of_owns o1.1
      clear k4 HB3 HP1 o1 hr1
      go_wp2_with fail
      refine (HVB.out _ HB4.out).mono ?_
      rintro e w5 ⟨rfl, k5⟩
      have HB := Lib.hid (HB4.out.trans (k5.mono HB4.out.size))
      have HI1 := Lib.hid (show OwnItems w5 w3.heap.size (.slice p1 rs1.length c1) rs1 from HR1.out.1.below k5)
      have HR := Lib.hid HR1.out.2
      clear k5 HB4 HVB HR1
      cases hvb : validBag (vals rs) with
      | false =>
        clear hvb
        go_wp2_with fail
        refine (HP2.out _ HB.out).mono ?_
        rintro e u1 ⟨x1, y1, rfl, ox1, hx1, m1⟩
        have HU1 := Lib.hid (HB.out.trans (m1.mono HB.out.size))
        obtain ⟨px1, cx1, rfl⟩ := slice_of_owns ox1.1
        have HX1 := Lib.hid (And.intro ox1 hx1)
        clear m1 ox1 hx1 HP2
        go_wp2_with fail
        refine (HQ2.out _ HU1.out).mono ?_
        rintro e u2 ⟨x2, y2, rfl, ox2, hx2, m2⟩
        have HU2 := Lib.hid (HU1.out.trans (m2.mono HU1.out.size))
        obtain ⟨px2, cx2, rfl⟩ := slice_of_owns ox2.1
        have hva := lens_of_valid (os := y1) (by rw [HX1.out.2]; exact HV2.out)
        have hvc := lens_of_valid (os := y2) (by rw [hx2]; exact HV2.out)
        have HSA := Lib.hid (SameB_any px1 px2 y1 y2 cx1 cx2 (HX1.out.2.trans hx2.symm) hva.2 u2 ((HX1.out.1.below m2).items rfl hva.1) (ox2.items rfl hvc.1))
        clear m2 ox2 hx2 HQ2 hva hvc HX1
        go_wp2_with fail
        refine HSA.out.mono ?_
        rintro e u3 ⟨rfl, m3⟩
        have HU3 := Lib.hid (HU2.out.trans (m3.mono HU2.out.size))
        clear m3 HSA
        go_wp2_with fail
        refine (HW.out _).mono ?_
        rintro e w99 ⟨rfl, k99⟩
        go_wp2_with fail
        go_ret
        exact ⟨rfl, HU3.out.trans (k99.mono HU3.out.size)⟩
      | true =>
        by_cases hsz : y.size ≤ 65536
        · have g2 : (y.size : Int) ≤ 65536 := by omega
          have ho := HO1.out hvb hsz
          simp only [Prod.mk.injEq] at ho
          obtain ⟨rfl, rfl, rfl⟩ := ho
          have HSM := Lib.hid (SameB_any p1 p rs1 rs c1 c HR.out (by have := (lens_of_valid (os := rs1) (by rw [HR.out]; exact hvb)).2; omega) w5 (HI1.out.items rfl (lens_of_valid (os := rs1) (by rw [HR.out]; exact hvb)).1) (HXW.out _ HB.out))
          clear hvb hsz HO1 HI1 HR
          go_wp2_with fail
          refine HSM.out.mono ?_
          rintro e w6 ⟨rfl, k6⟩
          have HB6 := Lib.hid (HB.out.trans (k6.mono HB.out.size))
          clear k6 HB HSM
          have HB := HB6
          clear HB6
          go_wp2_with fail
          refine (HP2.out _ HB.out).mono ?_
          rintro e u1 ⟨x1, y1, rfl, ox1, hx1, m1⟩
          have HU1 := Lib.hid (HB.out.trans (m1.mono HB.out.size))
          obtain ⟨px1, cx1, rfl⟩ := slice_of_owns ox1.1
          have HX1 := Lib.hid (And.intro ox1 hx1)
          clear m1 ox1 hx1 HP2
          go_wp2_with fail
          refine (HQ2.out _ HU1.out).mono ?_
          rintro e u2 ⟨x2, y2, rfl, ox2, hx2, m2⟩
          have HU2 := Lib.hid (HU1.out.trans (m2.mono HU1.out.size))
          obtain ⟨px2, cx2, rfl⟩ := slice_of_owns ox2.1
          have hva := lens_of_valid (os := y1) (by rw [HX1.out.2]; exact HV2.out)
          have hvc := lens_of_valid (os := y2) (by rw [hx2]; exact HV2.out)
          have HSA := Lib.hid (SameB_any px1 px2 y1 y2 cx1 cx2 (HX1.out.2.trans hx2.symm) hva.2 u2 ((HX1.out.1.below m2).items rfl hva.1) (ox2.items rfl hvc.1))
          clear m2 ox2 hx2 HQ2 hva hvc HX1
          go_wp2_with fail
          refine HSA.out.mono ?_
          rintro e u3 ⟨rfl, m3⟩
          have HU3 := Lib.hid (HU2.out.trans (m3.mono HU2.out.size))
          clear m3 HSA
          go_wp2_with fail
          refine (HW.out _).mono ?_
          rintro e w99 ⟨rfl, k99⟩
          go_wp2_with fail
          go_ret
          exact ⟨rfl, HU3.out.trans (k99.mono HU3.out.size)⟩
        · have g2 : ¬ (y.size : Int) ≤ 65536 := by omega
          clear hvb hsz HO1 HI1 HR
          go_wp2_with fail
          refine (HP2.out _ HB.out).mono ?_
          rintro e u1 ⟨x1, y1, rfl, ox1, hx1, m1⟩
          have HU1 := Lib.hid (HB.out.trans (m1.mono HB.out.size))
          obtain ⟨px1, cx1, rfl⟩ := slice_of_owns ox1.1
          have HX1 := Lib.hid (And.intro ox1 hx1)
          clear m1 ox1 hx1 HP2
          go_wp2_with fail
          refine (HQ2.out _ HU1.out).mono ?_
          rintro e u2 ⟨x2, y2, rfl, ox2, hx2, m2⟩
          have HU2 := Lib.hid (HU1.out.trans (m2.mono HU1.out.size))
          obtain ⟨px2, cx2, rfl⟩ := slice_of_owns ox2.1
          have hva := lens_of_valid (os := y1) (by rw [HX1.out.2]; exact HV2.out)
          have hvc := lens_of_valid (os := y2) (by rw [hx2]; exact HV2.out)
          have HSA := Lib.hid (SameB_any px1 px2 y1 y2 cx1 cx2 (HX1.out.2.trans hx2.symm) hva.2 u2 ((HX1.out.1.below m2).items rfl hva.1) (ox2.items rfl hvc.1))
          clear m2 ox2 hx2 HQ2 hva hvc HX1
          go_wp2_with fail
          refine HSA.out.mono ?_
          rintro e u3 ⟨rfl, m3⟩
          have HU3 := Lib.hid (HU2.out.trans (m3.mono HU2.out.size))
          clear m3 HSA
          go_wp2_with fail
          refine (HW.out _).mono ?_
          rintro e w99 ⟨rfl, k99⟩
          go_wp2_with fail
          go_ret
          exact ⟨rfl, HU3.out.trans (k99.mono HU3.out.size)⟩
end Go.Proofs.YtledgnolmiecfaaGreatDoor.bagTexts
