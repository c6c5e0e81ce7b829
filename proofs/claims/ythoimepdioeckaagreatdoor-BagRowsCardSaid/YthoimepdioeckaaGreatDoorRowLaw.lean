/-
  PROVED HERE: for every bag (any items at all), every list of rows and every list of columns the law BagRows returns true: Of, Rows and Project of package bag answer as the document's own, and the bag of a bag's rows is that bag. Its arguments read afterwards as before. Condition: the three listed tables hold what the program's text lays in them.
-/
import Derived.Test.YthoimepdioeckaaGreatDoorCards
import Derived.Test.YthoimepdioeckaaGreatDoorDoor
import Derived.Test.YthoimepdioeckaaGreatDoorRwA
import Derived.Test.YthoimepdioeckaaGreatDoorPjA
import Derived.Test.YthoimepdioeckaaGreatDoorFewC
import Derived.Test.YthoimepdioeckaaGreatDoorWake
namespace Go.Proofs.YthoimepdioeckaaGreatDoor.bagRows
open Go.ChangeShapes Go.WideShapes Go.ChangeAt Go.RowKit
set_option linter.unusedVariables false

theorem ofVal_len (l : RLv) : (ofVal l).length ≤ 400 := by
  unfold ofVal
  split
  · rename_i h
    have := after_len [] (ones l)
    simp only [List.length_nil, ones, List.length_map] at this
    unfold ones
    omega
  · simp
theorem prjVal_len (l : List It) (cs : List Int) : (prjVal l cs).length ≤ 400 := by
  unfold prjVal
  split
  · exact toldVal_len _
  · simp

set_option maxRecDepth 100000 in
set_option maxHeartbeats 8000000 in
theorem walk (x : BagV) (l : RwsV) (q : Option Addr) (cs : List Int) (d : Nat) (w : World) (hX : BagOK w x) (hxz : x.1 = none → x.2.2 = 0) (hL : RwsOK w l) (hmc : cs.length ≤ 9223372036854775807) (hC : IntsIn w q cs) (hT : Tab w.heap.size w) :
    Calls Tryz.prog 5 #[bagv x, rwsv l, .slice q cs.length d] w fun e w' => e = .returned (.bool true) ∧ Below w.heap.size w w' := by
  have hbA : Below w.heap.size w (w.alloc (.cells #[bagv x] 23)) := (Below.refl _ _).alloc (Nat.le_refl _) _
  have hfew := Few_any w.heap.size [x] (by simp) (w.alloc (.cells #[bagv x] 23)) (by simp) (fun i hi => by
    have hb := Blk.new w 23 #[bagv x]
    have hi3 : i = 0 := by simp at hi; omega
    subst hi3
    exact hb.cell 0) (fun b hb => by
    simp only [List.mem_cons, List.not_mem_nil, or_false] at hb
    subst hb
    exact hX.belowV hbA)
  have HF := Lib.hid hfew
  have HXYZ := Lib.hid (And.intro hX hxz)
  have HLL := Lib.hid hL
  have HCC := Lib.hid hC
  have HTT := Lib.hid hT
  clear hfew hX hxz hL hC hT
  obtain ⟨p, rs, c⟩ := x
  obtain ⟨o, ls, k⟩ := l
  dsimp only [bagv, rwsv] at *
  have HW := Lib.hid awake_any
  go_enter Tryz.func5, Tryz.ntmps5
  go_wp2_with fail
  refine HF.out.mono ?_
  rintro e w1 ⟨he, hb1⟩
  have hB1 : Below w.heap.size w w1 := hbA.trans (hb1.mono hbA.size)
  clear hb1 hbA
  rcases he with rfl | ⟨rfl, h60⟩
  · go_wp2_with fail
    refine (HW.out _).mono ?_
    rintro e w99 ⟨rfl, hb99⟩
    go_wp2_with fail
    go_ret
    exact ⟨rfl, hB1.trans (hb99.mono hB1.size)⟩
  · by_cases h5 : ls.length ≤ 500
    · have h5' : (ls.length : Int) ≤ 500 := by omega
      have HLG := Lib.hid (Long_any o ls k HLL.out.1 w1 (HLL.out.2.1.belowV hB1))
      go_wp2_with fail
      refine HLG.out.mono ?_
      rintro e w1' ⟨bl, rfl, rfl⟩
      cases bl with
      | true =>
        go_wp2_with fail
        refine (HW.out _).mono ?_
        rintro e w99 ⟨rfl, hb99⟩
        go_wp2_with fail
        go_ret
        exact ⟨rfl, hB1.trans (hb99.mono hB1.size)⟩
      | false =>
        by_cases h10 : cs.length ≤ 1000
        · have h10' : (cs.length : Int) ≤ 1000 := by omega
          have hx6 : rs.length ≤ 60 := h60 (p, rs, c) (by simp)
          obtain ⟨⟨_, hx7, hx8⟩, hx9⟩ := HXYZ.out
          obtain ⟨hl6, hl7, hl8⟩ := HLL.out
          dsimp only at hx7 hx8 hx9 hl6 hl7 hl8
          have s1 := fun W (h : Below w.heap.size w W) => bagOf_any o ls k hl6 W (hl7.belowV h) hl8 (HTT.out.up h h.size)
          have s2 := fun W (h : Below w.heap.size w W) => refOf_any o ls k hl6 W (hl7.belowV h) hl8
          have s3 := fun W (h : Below w.heap.size w W) => bagProject_any p q rs cs c d (by omega) hx7 hmc W (hx8.belowV h) (HCC.out.belowV h) (HTT.out.up h h.size)
          have s4 := fun W (h : Below w.heap.size w W) => refProject_any p q rs cs c d (by omega) hmc W (hx8.belowV h) (HCC.out.belowV h)
          have s5 := fun W (h : Below w.heap.size w W) => bagRows_any p rs c (by omega) hx7 W (hx8.belowV h)
          have s6 := fun W (h : Below w.heap.size w W) => refRows_any p rs c (by omega) hx7 W (hx8.belowV h)
          have s7 := fun W (h : Below w.heap.size w W) (p1 : Option Addr) (r1 : List RowV) (c1 : Nat) (hl : r1.length ≤ 9223372036854775807) (hi : RowsIn W p1 r1) (hz : ∀ r ∈ r1, r.1 = none → r.2.2 = 0) => bagOf_any p1 r1 c1 hl W hi hz (HTT.out.up h h.size)
          have hun := @exp_back (vals rs)
          have l1 := ofVal_len (rvals ls)
          have l3 := prjVal_len (vals rs) cs
          generalize ofErr (rvals ls) = e1 at s1 s2
          generalize ofVal (rvals ls) = v1 at s1 s2 l1
          generalize prjErr (vals rs) cs = e3 at s3 s4
          generalize prjVal (vals rs) cs = v3 at s3 s4 l3
          generalize rowsErr (vals rs) = e5 at s5 s6 hun
          generalize rowsVal (vals rs) = v5 at s5 s6 hun
          have S1 := Lib.hid s1
          have S2 := Lib.hid s2
          have S3 := Lib.hid s3
          have S4 := Lib.hid s4
          have S5 := Lib.hid s5
          have S6 := Lib.hid s6
          have S7 := Lib.hid s7
          have HUN := Lib.hid hun
          have HX8 := Lib.hid fun W (h : Below w.heap.size w W) => hx8.belowV h
          clear s1 s2 s3 s4 s5 s6 s7 hun hx8 hx9 hl7 hl8 HXYZ HLL HF HLG h60
          go_wp2_with fail
          refine (S1.out _ hB1).mono ?_
          rintro e w2 ⟨p1, r1, c1, rfl, hv1, hc1, _, hi1, hb⟩
          have hB2 : Below w.heap.size w w2 := hB1.trans (hb.mono hB1.size)
          have hl1 : r1.length ≤ 100000 := by rw [← vals_len, hv1]; omega
          have HV1 := Lib.hid hv1
          clear hv1 hb
          go_wp2_with fail
          refine (S2.out _ hB2).mono ?_
          rintro e w3 ⟨p2, r2, c2, rfl, hv2, hc2, _, hi2, hb⟩
          have hB3 : Below w.heap.size w w3 := hB2.trans (hb.mono hB2.size)
          have HSM := Lib.hid (SameB_any p1 p2 r1 r2 c1 c2 (HV1.out.trans hv2.symm) (by omega) w3 (hi1.belowV hb) hi2)
          clear hv2 hb hi1 hi2
          go_wp2_with fail
          refine HSM.out.mono ?_
          rintro e w4 ⟨rfl, hb⟩
          have hB4 : Below w.heap.size w w4 := hB3.trans (hb.mono hB3.size)
          clear HSM hb
          go_wp2_with fail
          refine (S3.out _ hB4).mono ?_
          rintro e w5 ⟨p3, r3, c3, rfl, hv3, hc3, _, hi3, hb⟩
          have hB5 : Below w.heap.size w w5 := hB4.trans (hb.mono hB4.size)
          have hl3 : r3.length ≤ 100000 := by rw [← vals_len, hv3]; omega
          have HV3 := Lib.hid hv3
          clear hv3 hb
          go_wp2_with fail
          refine (S4.out _ hB5).mono ?_
          rintro e w6 ⟨p4, r4, c4, rfl, hv4, hc4, _, hi4, hb⟩
          have hB6 : Below w.heap.size w w6 := hB5.trans (hb.mono hB5.size)
          have HSM := Lib.hid (SameB_any p3 p4 r3 r4 c3 c4 (HV3.out.trans hv4.symm) (by omega) w6 (hi3.belowV hb) hi4)
          clear hv4 hb hi3 hi4
          go_wp2_with fail
          refine HSM.out.mono ?_
          rintro e w7 ⟨rfl, hb⟩
          have hB7 : Below w.heap.size w w7 := hB6.trans (hb.mono hB6.size)
          clear HSM hb
          go_wp2_with fail
          refine (S5.out _ hB7).mono ?_
          rintro e w8 ⟨p5, r5, c5, rfl, hv5, hl5, hi5, hz5, hb⟩
          have hB8 : Below w.heap.size w w8 := hB7.trans (hb.mono hB7.size)
          have HV5 := Lib.hid hv5
          have HZ5 := Lib.hid hz5
          clear hv5 hb hz5
          go_wp2_with fail
          refine (S6.out _ hB8).mono ?_
          rintro e w9 ⟨p6, r6, c6, rfl, hv6, hl6', hi6, _, hb⟩
          have hB9 : Below w.heap.size w w9 := hB8.trans (hb.mono hB8.size)
          have hi5 := hi5.belowV hb
          have HSM := Lib.hid (SameRs_any p5 p6 r5 r6 c5 c6 (HV5.out.trans hv6.symm) (by omega) w9 hi5 hi6)
          clear hv6 hb hi6
          go_wp2_with fail
          refine HSM.out.mono ?_
          rintro e w10 ⟨rfl, hb⟩
          have hB10 : Below w.heap.size w w10 := hB9.trans (hb.mono hB9.size)
          have hi5 := hi5.belowV hb
          clear HSM hb
          by_cases q3 : e5 = 0
          · have hun := HUN.out q3
            have f1 : (e5 != 0) = false := by rw [q3]; rfl
            have g5 := S7.out w10 hB10 p5 r5 c5 (by omega) hi5 HZ5.out
            rw [HV5.out, hun.1, hun.2] at g5
            have G5 := Lib.hid g5
            clear g5 hun q3
            go_wp2_with fail
            refine G5.out.mono ?_
            rintro e w11 ⟨p7, r7, c7, rfl, hv7, hc7, hl7', hi7, hb⟩
            have hB11 : Below w.heap.size w w11 := hB10.trans (hb.mono hB10.size)
            have HSM := Lib.hid (SameB_any p7 p r7 rs c7 c hv7 (by have : r7.length = rs.length := by rw [← vals_len, hv7, vals_len]
                                                                   omega) w11 hi7 (HX8.out _ hB11))
            clear hb hv7 hi7
            go_wp2_with fail
            refine HSM.out.mono ?_
            rintro e w12 ⟨rfl, hb⟩
            have hB12 : Below w.heap.size w w12 := hB11.trans (hb.mono hB11.size)
            clear hb HSM
            go_wp2_with fail
            refine (HW.out _).mono ?_
            rintro e w99 ⟨rfl, hb99⟩
            go_wp2_with fail
            go_ret
            exact ⟨rfl, hB12.trans (hb99.mono hB12.size)⟩
          · have f1 : (e5 != 0) = true := by rw [bne_iff_ne]; exact q3
            clear q3 hi5
            go_wp2_with fail
            refine (HW.out _).mono ?_
            rintro e w99 ⟨rfl, hb99⟩
            go_wp2_with fail
            go_ret
            exact ⟨rfl, hB10.trans (hb99.mono hB10.size)⟩
        · have h10' : (1000 : Int) < (cs.length : Int) := by omega
          clear h10
          go_wp2_with fail
          refine (HW.out _).mono ?_
          rintro e w99 ⟨rfl, hb99⟩
          go_wp2_with fail
          go_ret
          exact ⟨rfl, hB1.trans (hb99.mono hB1.size)⟩
    · have h5' : (500 : Int) < (ls.length : Int) := by omega
      clear h5
      go_wp2_with fail
      refine (HW.out _).mono ?_
      rintro e w99 ⟨rfl, hb99⟩
      go_wp2_with fail
      go_ret
      exact ⟨rfl, hB1.trans (hb99.mono hB1.size)⟩

set_option maxRecDepth 100000 in
theorem lifted (os : Os) (started : os.Started) (H : Type) (enc : TypeId × Value → H) :
    ReturnsInHanded {} Tryz.checked os 5 .any (fun w args => (Rows.bagRowsSpec.pre enc Tryz.prog Tryz.f5 [] false w args ∧ laidMetH Tryz.prog laid3 w) ∧ sizedMet enc Tryz.prog Tryz.f5 (OpenSpec.ofChange Rows.bagRowsSpec) false w args)
      (Rows.bagRowsSpec.post enc Tryz.prog Tryz.f5 false true false false) := by
  refine returnsInHanded_of_change_and (C := Tryz.checked) (X := fun w _ => laidMetH Tryz.prog laid3 w) (fun _ _ _ hh h => h.of_heap hh) own started (by kernel_rfl) Tryz.func5
    (ChangeSpec.witness_shaped (enc := enc) (C := Tryz.checked) (os := os) (X := fun w _ => laidMetH Tryz.prog laid3 w) false (World.doorLaid Tryz.prog 4000 os) #[.slice none 0 0, .slice none 0 0, .slice none 0 0] 8 rfl (World.shaped_of_RefB (by kernel_rfl) (by kernel_rfl)) (by kernel_rfl) (by kernel_rfl) (by kernel_rfl) (door_met os _)) ?_
  intro W base args ds gs before hval0 hW _ _ hL _
  have hval : ∀ (j : Nat) t v, Tryz.f5.params[j]? = some t → args[j]? = some v → Value.okWide Tryz.prog W .any base t v := hval0
  have hW' := hW
  obtain ⟨pp, qq, hA0, hV, rfl, hfz, hnd⟩ := hW
  have hA : DataW.TrodAll enc Tryz.prog W 0 (fun _ => true) true Tryz.f5.params.toList args.toList ds pp := hA0
  rw [Tryz.params5] at hA hval
  obtain ⟨rfl, rfl⟩ := trodVars_none hV
  have hA' := hA
  obtain ⟨v0, vs0, d0, ds0, p0, q0, hargs, rfl, rfl, h0, r0⟩ := trodAll_cons hA
  obtain ⟨v1, vs1, d1, ds1, p1, q1, rfl, rfl, rfl, h1, r1⟩ := trodAll_cons r0
  obtain ⟨v2, vs2, d2, ds2, p2, q2, rfl, rfl, rfl, h2, r2⟩ := trodAll_cons r1
  obtain ⟨rfl, rfl, rfl⟩ := trodAll_nil r2
  obtain rfl : args = #[v0, v1, v2] := by cases args; simp_all
  obtain ⟨x, rfl, hX, hxz⟩ := open_bag (hval 0 _ v0 rfl rfl) h0
  obtain ⟨l, rfl, hL2⟩ := open_rows (hval 1 _ v1 rfl rfl) h1
  obtain ⟨q, cs, d, rfl, hmc, hC⟩ := open_cols (hval 2 _ v2 rfl rfl) h2
  clear hA0 hval0
  refine (walk x l q cs d W hX hxz hL2 (Nat.le_trans hmc (by decide)) hC (tab_of_laid hL)).mono fun e W' ⟨he, hg⟩ => ?_
  subst he
  exact ⟨_, rfl, _, _, _, [], _, [], hW', trodAll_mk1 (shut_bool Tryz.underlying4 true), trodAll_below laidOut hg (by decide +kernel) hA' (fun x hx => by simpa using hW'.lt x (by simpa using hx)), rfl, hg.frame _, fun h => by cases h⟩

theorem over : Rows.BagRowsSaid :=
  OpenClaim.holds_of_wide 5 Tryz.f5 rfl rfl rfl rfl rfl rfl rfl ⟨rfl, rfl, rfl, rfl, rfl⟩ rfl rfl rfl rfl rfl (by kernel_rfl) Tryz.func5 (by kernel_rfl)
    (of_decide_eq_true (by kernel_rfl)) (by unfold Func.isWrapper; first | (rw [if_pos (by decide +kernel)]; kernel_rfl) | (rw [if_neg (by decide +kernel)]; exact ⟨rfl, rfl⟩))
    (fun os started H enc _ => lifted os started H enc)

theorem proved : Rows.BagRowsCardSaid :=
  Claim7.holds_tied_plain_at .later [] [.data, .data, .data] true (true, "e149b117561d86b19624fbd063e74279d5dc5e49ce8b9bb936bb7e071e67dd24") true
    over (fun _ h => by cases h) (by kernel_rfl) (fun _ h => by cases h) bagRows_row_tie rfl ⟨rfl, rfl⟩ (by kernel_rfl) rfl
    (fun f fn hf hfn => by
      obtain rfl : f = 5 := Option.some.inj ((show Tryz.prog.funcNamed "tidewright/tidewrightlaw03.BagRows" = some 5 by kernel_rfl).symm.trans hf) |>.symm
      obtain rfl : fn = Tryz.f5 := (Option.some.inj (Tryz.func5.symm.trans hfn)).symm
      exact ⟨by kernel_rfl, fun j t ht => by
        rw [Tryz.params5] at ht
        have hm : t ∈ [23, 42, 43] := by simpa using Array.mem_of_getElem? ht
        have hall : ([23, 42, 43].all fun u => !Tryz.prog.wantsStandIn u) = true := by kernel_rfl
        exact (show Tryz.prog.wantsStandIn t = false by simpa using List.all_eq_true.1 hall t hm)⟩)
    (by kernel_rfl)
#print axioms proved
end Go.Proofs.YthoimepdioeckaaGreatDoor.bagRows
