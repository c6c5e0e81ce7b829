/-
  PROVED HERE: for every two bags (any items at all), every list of changes and every time the law BagChanges returns true: Apply and Changes of package bag answer as the document's own, and the changes from a to b make b of a. Its arguments read afterwards as before. Condition: the three listed tables hold what the program's text lays in them.
-/
import Derived.Test.YthoimepdioeckaaGreatDoorCards
import Derived.Test.YthoimepdioeckaaGreatDoorDoor
import Derived.Test.YthoimepdioeckaaGreatDoorRefChg
import Derived.Test.YthoimepdioeckaaGreatDoorFewCs
import Derived.Test.YthoimepdioeckaaGreatDoorWake
namespace Go.Proofs.YthoimepdioeckaaGreatDoor.bagChanges
open Go.ChangeShapes Go.WideShapes Go.ChangeAt Go.RowKit
set_option linter.unusedVariables false

theorem back {a b : List It} {t : Int} (h : chgErr a b t = 0) : appErr a (chgVal a b t) = 0 ∧ appVal a (chgVal a b t) = b := by
  have hv : validBag a = true ∧ validBag b = true := by
    by_cases hv : validBag a = true ∧ validBag b = true
    · exact hv
    · unfold chgErr at h; rw [if_neg hv] at h; exact absurd h (by decide)
  have ht : inT t := by
    by_cases ht : inT t
    · exact ht
    · unfold chgErr at h; rw [if_pos hv, if_neg ht] at h; exact absurd h (by decide)
  have ha := asc_of_valid hv.1
  have hb := asc_of_valid hv.2
  have hd : validBag (comb (fun x y => x - y) b a) = true := by
    by_cases hd : validBag (comb (fun x y => x - y) b a) = true
    · exact hd
    · unfold chgErr combErr toldErr at h; rw [if_pos hv, if_pos ht, if_pos hv.symm, if_neg hd] at h; exact absurd h (by decide)
  have e1 : chgVal a b t = stamp t (comb (fun x y => x - y) b a) := by
    have e0 : combVal (fun x y => x - y) b a = comb (fun x y => x - y) b a := by unfold combVal toldVal; rw [if_pos hv.symm, if_pos hd]
    unfold chgVal; rw [if_pos h, e0]
  rw [e1]
  have hda := comb_asc (fun x y => x - y) hb ha
  have hcnt : ∀ r, cnt (comb (fun x y => x - y) b a) r = cnt b r - cnt a r := fun r => comb_cnt (by simp) hb ha r
  generalize comb (fun x y => x - y) b a = D at hd hda hcnt ⊢
  have e2 : its (stamp t D) = D := by unfold its stamp; rw [List.map_map]; exact List.map_id D
  have hvc : validCs (stamp t D) = true := validCs_iff.2 ⟨by unfold stamp; rw [List.length_map]; exact (validBag_iff.1 hd).1, fun c hc => by
    obtain ⟨x, hx, rfl⟩ := List.mem_map.1 hc
    have := itOK_iff.1 ((validBag_iff.1 hd).2.1 x hx)
    unfold okC chgOK
    rw [decide_eq_true ht, this.1, decide_eq_true this.2]; rfl⟩
  have e3 : after a D = b := bag_ext (after_asc ha fun x hx => (hda.1 x hx).1) hb fun r => by rw [after_cnt ha.2, sumC_up hda.2, hcnt]; omega
  obtain ⟨f1, f2⟩ := appYes (a := a) (l := stamp t D) ⟨hv.1, hvc⟩
  rw [f1, f2, e2, e3]
  unfold toldErr toldVal
  rw [if_pos hv.2, if_pos hv.2]
  exact ⟨rfl, rfl⟩
theorem appVal_len (a : List It) (l : List Ch) : (appVal a l).length ≤ 400 := by
  unfold appVal
  split
  · exact toldVal_len _
  · simp
theorem chgVal_len (a b : List It) (t : Int) : (chgVal a b t).length ≤ 400 := by
  unfold chgVal
  split
  · unfold stamp; rw [List.length_map]; exact combVal_len _ _ _
  · simp

set_option maxRecDepth 100000 in
set_option maxHeartbeats 8000000 in
theorem walk (x y : BagV) (l : ChsV) (t : Int) (w : World) (hX : BagOK w x) (hxz : x.1 = none → x.2.2 = 0) (hY : BagOK w y) (hyz : y.1 = none → y.2.2 = 0) (hL : ChsOK w l) (hT : Tab w.heap.size w) :
    Calls Tryz.prog 3 #[bagv x, bagv y, chsv l, .int .i64 t] w fun e w' => e = .returned (.bool true) ∧ Below w.heap.size w w' := by
  have hbA : Below w.heap.size w (w.alloc (.cells #[bagv x, bagv y] 23)) := (Below.refl _ _).alloc (Nat.le_refl _) _
  have hfew := Few_any w.heap.size [x, y] (by simp) (w.alloc (.cells #[bagv x, bagv y] 23)) (by simp) (fun i hi => by
    have hb := Blk.new w 23 #[bagv x, bagv y]
    have hi3 : i = 0 ∨ i = 1 := by simp at hi; omega
    rcases hi3 with rfl | rfl
    · exact hb.cell 0
    · exact hb.cell 1) (fun b hb => by
    simp only [List.mem_cons, List.not_mem_nil, or_false] at hb
    rcases hb with rfl | rfl
    · exact hX.belowV hbA
    · exact hY.belowV hbA)
  have HF := Lib.hid hfew
  have HXYZ := Lib.hid (And.intro hX (And.intro hxz (And.intro hY hyz)))
  have HLL := Lib.hid hL
  have HTT := Lib.hid hT
  clear hfew hX hY hxz hyz hL hT
  obtain ⟨p, rs, c⟩ := x
  obtain ⟨q, ss, d⟩ := y
  obtain ⟨o, cs, k⟩ := l
  dsimp only [bagv, chsv] at *
  have HW := Lib.hid awake_any
  go_enter Tryz.func3, Tryz.ntmps3
  go_wp2_with fail
  refine HF.out.mono ?_
  rintro e w1 ⟨he, hb1⟩
  have hB1 : Below w.heap.size w w1 := hbA.trans (hb1.mono hbA.size)
  clear hb1 hbA
  rcases he with rfl | ⟨rfl, h60⟩
  · go_wp2_with fail
    refine (HW.out _).mono ?_
    rintro e w2 ⟨rfl, hb2⟩
    go_wp2_with fail
    go_ret
    exact ⟨rfl, hB1.trans (hb2.mono hB1.size)⟩
  · have HFC := Lib.hid (FewCs_any o cs k HLL.out.1 w1 (HLL.out.2.2.belowV hB1))
    go_wp2_with fail
    refine HFC.out.mono ?_
    rintro e w1' ⟨bq, rfl, hb1'⟩
    have hB1' : Below w.heap.size w w1' := hB1.trans (hb1'.mono hB1.size)
    clear hb1' HFC
    cases bq with
    | false =>
      go_wp2_with fail
      refine (HW.out _).mono ?_
      rintro e w2 ⟨rfl, hb2⟩
      go_wp2_with fail
      go_ret
      exact ⟨rfl, hB1'.trans (hb2.mono hB1'.size)⟩
    | true =>
      have hx6 : rs.length ≤ 60 := h60 (p, rs, c) (by simp)
      have hy6 : ss.length ≤ 60 := h60 (q, ss, d) (by simp)
      obtain ⟨⟨_, hx7, hx8⟩, hx9, ⟨_, hy7, hy8⟩, hy9⟩ := HXYZ.out
      obtain ⟨hl6, hl7, hl8⟩ := HLL.out
      dsimp only at hx7 hx8 hx9 hy7 hy8 hy9 hl6 hl7 hl8
      have s1 := fun W (h : Below w.heap.size w W) => Apply_any p o rs cs c k (by omega) hl6 hx7 W (hx8.belowV h) hx9 (hl8.belowV h) (HTT.out.up h h.size)
      have s2 := fun W (h : Below w.heap.size w W) => refApply_any p o rs cs c k (by omega) hl6 hx7 W (hx8.belowV h) hx9 (hl8.belowV h)
      have s3 := fun W (h : Below w.heap.size w W) => Changes_any p q rs ss c d t (by omega) (by omega) hx7 hy7 W (hx8.belowV h) (hy8.belowV h)
      have s4 := fun W (h : Below w.heap.size w W) => refChanges_any p q rs ss c d t (by omega) (by omega) W (hx8.belowV h) (hy8.belowV h) hy9
      have s5 := fun W (h : Below w.heap.size w W) (p1 : Option Addr) (r1 : List ChR) (c1 : Nat) (hl : r1.length ≤ 100000) (hi : ChgIn W p1 r1) => Apply_any p p1 rs r1 c c1 (by omega) (by omega) hx7 W (hx8.belowV h) hx9 hi (HTT.out.up h h.size)
      have hun := @back (vals rs) (vals ss) t
      have l1 := appVal_len (vals rs) (cvals cs)
      have l3 := chgVal_len (vals rs) (vals ss) t
      generalize appErr (vals rs) (cvals cs) = e1 at s1 s2
      generalize appVal (vals rs) (cvals cs) = v1 at s1 s2 l1
      generalize chgErr (vals rs) (vals ss) t = e3 at s3 s4 hun
      generalize chgVal (vals rs) (vals ss) t = v3 at s3 s4 hun l3
      have S1 := Lib.hid s1
      have S2 := Lib.hid s2
      have S3 := Lib.hid s3
      have S4 := Lib.hid s4
      have S5 := Lib.hid s5
      have HUN := Lib.hid hun
      have HY8 := Lib.hid fun W (h : Below w.heap.size w W) => hy8.belowV h
      clear s1 s2 s3 s4 s5 hun hx8 hy8 hx9 hy9 hl8 HXYZ HLL HF h60
      go_wp2_with fail
      refine (S1.out _ hB1').mono ?_
      rintro e w2 ⟨p1, r1, c1, rfl, hv1, hc1, _, hi1, hb⟩
      have hB2 : Below w.heap.size w w2 := hB1'.trans (hb.mono hB1'.size)
      have hl1 : r1.length ≤ 100000 := by rw [← vals_len, hv1]; omega
      have HV1 := Lib.hid hv1
      clear hv1 hb
      go_wp2_with fail
      refine (S2.out _ hB2).mono ?_
      rintro e w3 ⟨p2, r2, c2, rfl, hv2, hc2, _, hi2, hb⟩
      have hB3 : Below w.heap.size w w3 := hB2.trans (hb.mono hB2.size)
      have hl2 : r2.length ≤ 100000 := by rw [← vals_len, hv2]; omega
      have HSM := Lib.hid (SameB_any p1 p2 r1 r2 c1 c2 (HV1.out.trans hv2.symm) (by omega) w3 (hi1.belowV hb) hi2)
      clear hv2 hb hi1 hi2
      go_wp2_with fail
      refine HSM.out.mono ?_
      rintro e w4 ⟨rfl, hb⟩
      have hB4 : Below w.heap.size w w4 := hB3.trans (hb.mono hB3.size)
      clear HSM hb
      go_wp2_with fail
      refine (S3.out _ hB4).mono ?_
      rintro e w5 ⟨p3, r3, c3, rfl, hv3, hc3, _, hi3, hb⟩
      have hB5 : Below w.heap.size w w5 := hB4.trans (hb.mono hB4.size)
      have hl3 : r3.length ≤ 100000 := by rw [← cvals_len, hv3]; omega
      have HV3 := Lib.hid hv3
      clear hv3 hb
      go_wp2_with fail
      refine (S4.out _ hB5).mono ?_
      rintro e w6 ⟨p4, r4, c4, rfl, hv4, hc4, _, hi4, hb⟩
      have hB6 : Below w.heap.size w w6 := hB5.trans (hb.mono hB5.size)
      have hi3 := hi3.belowV hb
      have HSM := Lib.hid (SameC_any p3 p4 r3 r4 c3 c4 (HV3.out.trans hv4.symm) (by omega) w6 hi3 hi4)
      clear hv4 hb hi4
      go_wp2_with fail
      refine HSM.out.mono ?_
      rintro e w7 ⟨rfl, hb⟩
      have hB7 : Below w.heap.size w w7 := hB6.trans (hb.mono hB6.size)
      have hi3 := hi3.belowV hb
      clear HSM hb
      by_cases q3 : e3 = 0
      · have hun := HUN.out q3
        have f1 : (e3 != 0) = false := by rw [q3]; rfl
        have g5 := S5.out w7 hB7 p3 r3 c3 hl3 hi3
        rw [HV3.out, hun.1, hun.2] at g5
        have G5 := Lib.hid g5
        clear g5 hun q3
        go_wp2_with fail
        refine G5.out.mono ?_
        rintro e w8 ⟨p5, r5, c5, rfl, hv5, hc5, hl5, hi5, hb⟩
        have hB8 : Below w.heap.size w w8 := hB7.trans (hb.mono hB7.size)
        have HSM := Lib.hid (SameB_any p5 q r5 ss c5 d hv5 (by omega) w8 hi5 (HY8.out _ hB8))
        clear hb hv5 hi5
        go_wp2_with fail
        refine HSM.out.mono ?_
        rintro e w9 ⟨rfl, hb⟩
        have hB9 : Below w.heap.size w w9 := hB8.trans (hb.mono hB8.size)
        clear hb HSM
        go_wp2_with fail
        refine (HW.out _).mono ?_
        rintro e w10 ⟨rfl, hb⟩
        go_wp2_with fail
        go_ret
        exact ⟨rfl, hB9.trans (hb.mono hB9.size)⟩
      · have f1 : (e3 != 0) = true := by rw [bne_iff_ne]; exact q3
        clear q3 hi3
        go_wp2_with fail
        refine (HW.out _).mono ?_
        rintro e w8 ⟨rfl, hb⟩
        go_wp2_with fail
        go_ret
        exact ⟨rfl, hB7.trans (hb.mono hB7.size)⟩

set_option maxRecDepth 100000 in
theorem lifted (os : Os) (started : os.Started) (H : Type) (enc : TypeId × Value → H) :
    ReturnsInHanded {} Tryz.checked os 3 .any (fun w args => (Rows.bagChangesSpec.pre enc Tryz.prog Tryz.f3 [] false w args ∧ laidMetH Tryz.prog laid3 w) ∧ sizedMet enc Tryz.prog Tryz.f3 (OpenSpec.ofChange Rows.bagChangesSpec) false w args)
      (Rows.bagChangesSpec.post enc Tryz.prog Tryz.f3 false true false false) := by
  refine returnsInHanded_of_change_and (C := Tryz.checked) (X := fun w _ => laidMetH Tryz.prog laid3 w) (fun _ _ _ hh h => h.of_heap hh) own started (by kernel_rfl) Tryz.func3
    (ChangeSpec.witness_shaped (enc := enc) (C := Tryz.checked) (os := os) (X := fun w _ => laidMetH Tryz.prog laid3 w) false (World.doorLaid Tryz.prog 4000 os) #[.slice none 0 0, .slice none 0 0, .slice none 0 0, .int .i64 0] 8 rfl (World.shaped_of_RefB (by kernel_rfl) (by kernel_rfl)) (by kernel_rfl) (by kernel_rfl) (by kernel_rfl) (door_met os _)) ?_
  intro W base args ds gs before hval0 hW _ _ hL _
  have hval : ∀ (j : Nat) t v, Tryz.f3.params[j]? = some t → args[j]? = some v → Value.okWide Tryz.prog W .any base t v := hval0
  have hW' := hW
  obtain ⟨p, q, hA0, hV, rfl, hfz, hnd⟩ := hW
  have hA : DataW.TrodAll enc Tryz.prog W 0 (fun _ => true) true Tryz.f3.params.toList args.toList ds p := hA0
  rw [Tryz.params3] at hA hval
  obtain ⟨rfl, rfl⟩ := trodVars_none hV
  have hA' := hA
  obtain ⟨v0, vs0, d0, ds0, p0, q0, hargs, rfl, rfl, h0, r0⟩ := trodAll_cons hA
  obtain ⟨v1, vs1, d1, ds1, p1, q1, rfl, rfl, rfl, h1, r1⟩ := trodAll_cons r0
  obtain ⟨v2, vs2, d2, ds2, p2, q2, rfl, rfl, rfl, h2, r2⟩ := trodAll_cons r1
  obtain ⟨v3, vs3, d3, ds3, p3, q3, rfl, rfl, rfl, h3, r3⟩ := trodAll_cons r2
  obtain ⟨rfl, rfl, rfl⟩ := trodAll_nil r3
  obtain rfl : args = #[v0, v1, v2, v3] := by cases args; simp_all
  obtain ⟨x, rfl, hX, hxz⟩ := open_bag (hval 0 _ v0 rfl rfl) h0
  obtain ⟨y, rfl, hY, hyz⟩ := open_bag (hval 1 _ v1 rfl rfl) h1
  obtain ⟨l, rfl, hCL, _⟩ := open_changes (hval 2 _ v2 rfl rfl) h2
  obtain ⟨t, rfl⟩ := okWide_int Tryz.underlying3 (hval 3 _ v3 rfl rfl)
  clear hA0 hval0
  refine (walk x y l t W hX hxz hY hyz hCL (tab_of_laid hL)).mono fun e W' ⟨he, hg⟩ => ?_
  subst he
  exact ⟨_, rfl, _, _, _, [], _, [], hW', trodAll_mk1 (shut_bool Tryz.underlying4 true), trodAll_below laidOut hg (by decide +kernel) hA' (fun x hx => by simpa using hW'.lt x (by simpa using hx)), rfl, hg.frame _, fun h => by cases h⟩

theorem over : Rows.BagChangesSaid :=
  OpenClaim.holds_of_wide 3 Tryz.f3 rfl rfl rfl rfl rfl rfl rfl ⟨rfl, rfl, rfl, rfl, rfl⟩ rfl rfl rfl rfl rfl (by kernel_rfl) Tryz.func3 (by kernel_rfl)
    (of_decide_eq_true (by kernel_rfl)) (by unfold Func.isWrapper; first | (rw [if_pos (by decide +kernel)]; kernel_rfl) | (rw [if_neg (by decide +kernel)]; exact ⟨rfl, rfl⟩))
    (fun os started H enc _ => lifted os started H enc)

theorem proved : Rows.BagChangesCardSaid :=
  Claim7.holds_tied_plain_at .later [] [.data, .data, .data] true (true, "e149b117561d86b19624fbd063e74279d5dc5e49ce8b9bb936bb7e071e67dd24") true
    over (fun _ h => by cases h) (by kernel_rfl) (fun _ h => by cases h) bagChanges_row_tie rfl ⟨rfl, rfl⟩ (by kernel_rfl) rfl
    (fun f fn hf hfn => by
      obtain rfl : f = 3 := Option.some.inj ((show Tryz.prog.funcNamed "tidewright/tidewrightlaw03.BagChanges" = some 3 by kernel_rfl).symm.trans hf) |>.symm
      obtain rfl : fn = Tryz.f3 := (Option.some.inj (Tryz.func3.symm.trans hfn)).symm
      exact ⟨by kernel_rfl, fun j t ht => by
        rw [Tryz.params3] at ht
        have hm : t ∈ [23, 23, 24, 3] := by simpa using Array.mem_of_getElem? ht
        have hall : ([23, 23, 24, 3].all fun u => !Tryz.prog.wantsStandIn u) = true := by kernel_rfl
        exact (show Tryz.prog.wantsStandIn t = false by simpa using List.all_eq_true.1 hall t hm)⟩)
    (by kernel_rfl)
#print axioms proved
end Go.Proofs.YthoimepdioeckaaGreatDoor.bagChanges
