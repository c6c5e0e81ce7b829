/-
  PROVED HERE: for every bag (any items at all) and every list of changes the law BagNetted returns true: Netted of package bag answers as the document's own, and netted changes, and changes told backwards, make the same bag. Its arguments read afterwards as before. Condition: the three listed tables hold what the program's text lays in them.
-/
import Derived.Test.YthoimepdioeckaaGreatDoorCards
import Derived.Test.YthoimepdioeckaaGreatDoorDoor
import Derived.Test.YthoimepdioeckaaGreatDoorNetA
import Derived.Test.YthoimepdioeckaaGreatDoorNetB
import Derived.Test.YthoimepdioeckaaGreatDoorSameB
import Derived.Test.YthoimepdioeckaaGreatDoorWake
namespace Go.Proofs.YthoimepdioeckaaGreatDoor.bagNetted
open Go.ChangeShapes Go.WideShapes Go.ChangeAt Go.RowKit
set_option linter.unusedVariables false

theorem appVal_len (a : List It) (l : List Ch) : (appVal a l).length ≤ 400 := by
  unfold appVal
  split
  · exact toldVal_len _
  · simp
theorem rev_next {cs : List ChR} {k : Nat} (h : k < cs.length) : (cs.drop k).reverse = (cs.drop (k + 1)).reverse ++ [cs[k]?.getD cr0] := by
  rw [List.drop_eq_getElem_cons h, List.reverse_cons, List.getElem?_eq_getElem h]; rfl

set_option maxRecDepth 100000 in
set_option maxHeartbeats 8000000 in
theorem walk (x : BagV) (l : ChsV) (w : World) (hX : BagOK w x) (hxz : x.1 = none → x.2.2 = 0) (hL : ChsOK w l) (hT : Tab w.heap.size w) :
    Calls Tryz.prog 4 #[bagv x, chsv l] w fun e w' => e = .returned (.bool true) ∧ Below w.heap.size w w' := by
  have hbA : Below w.heap.size w (w.alloc (.cells #[bagv x] 23)) := (Below.refl _ _).alloc (Nat.le_refl _) _
  have hfew := Few_any w.heap.size [x] (by simp) (w.alloc (.cells #[bagv x] 23)) (by simp) (fun i hi => by
    have hb := Blk.new w 23 #[bagv x]
    have hi3 : i = 0 := by simp at hi; omega
    subst hi3
    exact hb.cell 0) (fun b hb => by
    simp only [List.mem_cons, List.not_mem_nil, or_false] at hb
    subst hb
    exact hX.belowV hbA)
  have HF := Lib.hid hfew
  have HXYZ := Lib.hid (And.intro hX hxz)
  have HLL := Lib.hid hL
  have HTT := Lib.hid hT
  clear hfew hX hxz hL hT
  obtain ⟨p, rs, c⟩ := x
  obtain ⟨o, cs, k⟩ := l
  dsimp only [bagv, chsv] at *
  have HW := Lib.hid awake_any
  obtain ⟨i0, hii, hz0, hz1, hz2⟩ := info_parts infoC
  go_enter Tryz.func4, Tryz.ntmps4
  go_wp2_with fail
  refine HF.out.mono ?_
  rintro e w1 ⟨he, hb1⟩
  have hB1 : Below w.heap.size w w1 := hbA.trans (hb1.mono hbA.size)
  clear hb1 hbA
  rcases he with rfl | ⟨rfl, h60⟩
  · go_wp2_with fail
    refine (HW.out _).mono ?_
    rintro e w99 ⟨rfl, hb99⟩
    go_wp2_with fail
    go_ret
    exact ⟨rfl, hB1.trans (hb99.mono hB1.size)⟩
  · have HFC := Lib.hid (FewCs_any o cs k HLL.out.1 w1 (HLL.out.2.2.belowV hB1))
    go_wp2_with fail
    refine HFC.out.mono ?_
    rintro e w1' ⟨bq, rfl, hb1'⟩
    have hB1' : Below w.heap.size w w1' := hB1.trans (hb1'.mono hB1.size)
    clear hb1' HFC
    cases bq with
    | false =>
      go_wp2_with fail
      refine (HW.out _).mono ?_
      rintro e w99 ⟨rfl, hb99⟩
      go_wp2_with fail
      go_ret
      exact ⟨rfl, hB1'.trans (hb99.mono hB1'.size)⟩
    | true =>
      have hx6 : rs.length ≤ 60 := h60 (p, rs, c) (by simp)
      obtain ⟨⟨_, hx7, hx8⟩, hx9⟩ := HXYZ.out
      obtain ⟨hl6, hl7, hl8⟩ := HLL.out
      dsimp only at hx7 hx8 hx9 hl6 hl7 hl8
      have s1 := fun W (h : Below w.heap.size w W) => Netted_any o cs k hl6 W (hl8.belowV h) (HTT.out.up h h.size)
      have s2 := fun W (h : Below w.heap.size w W) => refNetted_any o cs k hl6 W (hl8.belowV h)
      have s3 := fun W (h : Below w.heap.size w W) (p1 : Option Addr) (r1 : List ChR) (c1 : Nat) (hl : r1.length ≤ 9223372036854775807) (hi : ChgIn W p1 r1) => Apply_any p p1 rs r1 c c1 (by omega) hl hx7 W (hx8.belowV h) hx9 hi (HTT.out.up h h.size)
      have hn := fun (h : netErr (cvals cs) = 0) => net_app h (vals rs)
      have hv4 : netErr (cvals cs) = 0 → cs.length ≤ 400 := fun h => by
        cases hv : validCs (cvals cs) with
        | true => have := (validCs_iff.1 hv).1; rwa [cvals_len] at this
        | false => unfold netErr at h; rw [hv, if_neg (by decide)] at h; exact absurd h (by decide)
      have S1 := Lib.hid s1
      have S2 := Lib.hid s2
      have S3 := Lib.hid s3
      have HN := Lib.hid hn
      have HV4 := Lib.hid hv4
      have HP := Lib.hid fun (m : List Ch) (h : m = (cvals cs).reverse) => app_perm (vals rs) (show (cvals cs).Perm m by rw [h]; exact (List.reverse_perm _).symm)
      have HCS := Lib.hid hl8
      have HCL := Lib.hid hl6
      clear s1 s2 s3 hn hv4 hx8 hx9 hl8 HXYZ HLL HF h60
      generalize netErr (cvals cs) = e1 at S1 S2 HN HV4
      generalize netVal (cvals cs) = v1 at S1 S2 HN
      go_wp2_with fail
      refine (S1.out _ hB1').mono ?_
      rintro e w2 ⟨p1, r1, c1, rfl, hv1, hc1, hl1, hi1, hb⟩
      have hB2 : Below w.heap.size w w2 := hB1'.trans (hb.mono hB1'.size)
      have HV1 := Lib.hid hv1
      clear hv1 hb
      go_wp2_with fail
      refine (S2.out _ hB2).mono ?_
      rintro e w3 ⟨p2, r2, c2, rfl, hv2, hc2, hl2, hi2, hb⟩
      have hB3 : Below w.heap.size w w3 := hB2.trans (hb.mono hB2.size)
      have hi1 := hi1.belowV hb
      have HSM := Lib.hid (SameC_any p1 p2 r1 r2 c1 c2 (HV1.out.trans hv2.symm) (by omega) w3 hi1 hi2)
      clear hv2 hb hi2
      go_wp2_with fail
      refine HSM.out.mono ?_
      rintro e w4 ⟨rfl, hb⟩
      have hB4 : Below w.heap.size w w4 := hB3.trans (hb.mono hB3.size)
      have hi1 := hi1.belowV hb
      clear HSM hb hB1' hB2 hB3
      by_cases q3 : e1 = 0
      · have hcl : cs.length ≤ 400 := HV4.out q3
        have hnn := HN.out q3
        have f1 : (e1 != 0) = false := by rw [q3]; rfl
        have HNN := Lib.hid hnn
        have HI1 := Lib.hid hi1
        have hO4 := World.ownsRow_nil w4 w4.heap.size 40 3
        clear hnn hi1 HN HV4 q3
        go_wp2_with fail
        go_loopw [9, 10] (fun v s wr => ∃ (m : Nat), s = .int .i64 ((m : Int) - 1) ∧ m ≤ cs.length ∧ wr.ownsRow w4.heap.size 40 3 v (cs.length - m) (flatC (cs.drop m).reverse) ∧ Below w4.heap.size w4 wr) (fun _ s _ => ((intOf s) + 1).toNat)
        case atStart => exact ⟨cs.length, by go_num, Nat.le_refl _, (by rw [Nat.sub_self, List.drop_length]; exact hO4), Below.refl _ _⟩
        case round =>
          clear hO4
          obtain ⟨m, rfl, hm, how, hB⟩ := hrel
          obtain ⟨z, hz⟩ : ∃ z : Int, (m : Int) - 1 = z := ⟨_, rfl⟩
          rw [hz]
          by_cases hm0 : m = 0
          · subst hm0
            obtain rfl : z = -1 := by omega
            have hO := how
            rw [Nat.sub_zero, List.drop_zero] at hO
            have hBw : Below w.heap.size w wr := hB4.trans (hB.mono hB4.size)
            obtain ⟨pb, cb, rfl, hcb⟩ := slice_ownC hO
            have hlr : cs.reverse.length = cs.length := List.length_reverse
            have hib : ChgIn wr pb cs.reverse := chgs_of_own hlr.symm hO fun r hr => by
              have h1 := rowB_of_chgs (HCS.out.belowV hBw) r (List.mem_reverse.1 hr)
              exact ⟨h1.okW (Nat.le_refl _), h1.2.1⟩
            have g3 := S3.out wr hBw o cs k (by omega) (HCS.out.belowV hBw)
            have g4 := fun W (h : Below wr.heap.size wr W) => S3.out W (hBw.trans (h.mono hBw.size)) pb cs.reverse cb (by omega) (hib.belowV h)
            have g5 := fun W (h : Below wr.heap.size wr W) => S3.out W (hBw.trans (h.mono hBw.size)) p1 r1 c1 (by omega) (HI1.out.belowV (hB.trans (h.mono hB.size)))
            have hpm := HP.out (cvals cs.reverse) (by unfold cvals; rw [List.map_reverse])
            rw [hpm.1, hpm.2, hlr] at g4
            rw [HV1.out, HNN.out.1, HNN.out.2] at g5
            have l3 := appVal_len (vals rs) (cvals cs)
            generalize appErr (vals rs) (cvals cs) = e3 at g3 g4 g5
            generalize appVal (vals rs) (cvals cs) = v3 at g3 g4 g5 l3
            have G3 := Lib.hid g3
            have G4 := Lib.hid g4
            have G5 := Lib.hid g5
            clear how hz hm hO hib g3 g4 g5 hpm hlr
            go_wp2_with fail
            refine G3.out.mono ?_
            rintro e w5 ⟨p5, r5, c5, rfl, hv5, hc5, hl5, hi5, hb5⟩
            have HV5 := Lib.hid hv5
            clear hv5
            go_wp2_with fail
            refine (G4.out _ hb5).mono ?_
            rintro e w6 ⟨p6, r6, c6, rfl, hv6, hc6, hl6', hi6, hb6⟩
            have hB6 : Below wr.heap.size wr w6 := hb5.trans (hb6.mono hb5.size)
            have hi5 := hi5.belowV hb6
            have HSM := Lib.hid (SameB_any p5 p6 r5 r6 c5 c6 (HV5.out.trans hv6.symm) (by omega) w6 hi5 hi6)
            clear hv6 hb6 hi6
            go_wp2_with fail
            refine HSM.out.mono ?_
            rintro e w7 ⟨rfl, hb⟩
            have hB7 : Below wr.heap.size wr w7 := hB6.trans (hb.mono hB6.size)
            have hi5 := hi5.belowV hb
            clear HSM hb
            go_wp2_with fail
            refine (G5.out _ hB7).mono ?_
            rintro e w8 ⟨p8, r8, c8, rfl, hv8, hc8, hl8', hi8, hb8⟩
            have hB8 : Below wr.heap.size wr w8 := hB7.trans (hb8.mono hB7.size)
            have hi5 := hi5.belowV hb8
            have HSM := Lib.hid (SameB_any p5 p8 r5 r8 c5 c8 (HV5.out.trans hv8.symm) (by omega) w8 hi5 hi8)
            clear hv8 hb8 hi8 hi5
            go_wp2_with fail
            refine HSM.out.mono ?_
            rintro e w9 ⟨rfl, hb⟩
            have hB9 : Below w.heap.size w w9 := hBw.trans ((hB8.trans (hb.mono hB8.size)).mono hBw.size)
            clear HSM hb
            go_wp2_with fail
            refine (HW.out _).mono ?_
            rintro e w99 ⟨rfl, hb99⟩
            go_wp2_with fail
            go_ret
            exact ⟨rfl, hB9.trans (hb99.mono hB9.size)⟩
          · obtain ⟨j, rfl⟩ : ∃ j, m = j + 1 := ⟨m - 1, by omega⟩
            obtain rfl : z = (j : Int) := by omega
            have hjl : j < cs.length := by omega
            have hj0 : (0 : Int) ≤ (j : Int) := by omega
            have hj1 : (j : Int) < (cs.length : Int) := by omega
            have hBw : Below w.heap.size w wr := hB4.trans (hB.mono hB4.size)
            obtain ⟨b, off, rfl, hbl, hra⟩ := HCS.out (by omega)
            obtain ⟨c0, c1', c2', _, _⟩ := (hra.belowV hBw hbl) j hjl
            have hnx := rev_next hjl
            have hlen : (cs.drop (j + 1)).reverse.length = cs.length - (j + 1) := by rw [List.length_reverse, List.length_drop]
            clear hra
            generalize (cs[j]?.getD cr0) = y at c0 c1' c2' hnx
            obtain ⟨yt, ⟨yq, ys, yc⟩, yn⟩ := y
            dsimp only [rowv] at c0 c1' c2'
            have HNX := Lib.hid hnx
            have HROW := Lib.hid how
            have hBs := hB.size
            have HLT := Lib.hid fun k e => (how.lt k e).1
            clear hnx how hlen hm0
            go_wp2_with (at_builtin; refine wpList_append_own _ rfl _ _ 24 rfl w4.heap.size 40 i0 (.agg #[.int .i64 0, .slice none 0 0, .int .i64 0]) 3 40 Tryz.underlying24 hii hz0 hz1 hz2 rfl (by decide) _ _ _ rfl (HROW.out.alloc _) ⟨wr.heap.size, 0, none⟩ 1 1 (cellsC (yt, (yq, ys, yc), yn)) rfl rfl (cells_new _ _ _) (by simp [cellsC, rowv, Value.oneCell']) (by unfold maxLen; omega) (by omega) (by simp <;> omega) ?_; intro v' w6 hown' hgrow _; have hB6 : Below w4.heap.size w4 w6 := (hB.alloc hBs _).grown hgrow (by simp <;> omega) HLT.out)
            have hO6 : w6.ownsRow w4.heap.size 40 3 v' (cs.length - j) (flatC (cs.drop j).reverse) := by
              rw [HNX.out, flatC_app, show cs.length - j = cs.length - (j + 1) + 1 by omega]
              simpa [flatC] using hown'
            have HO6 := Lib.hid hO6
            clear hO6 hown' hgrow
            go_wp2_with fail
            go_roundw
            case rel => exact ⟨j, by go_num, by omega, HO6.out, hB6⟩
            case measure => simp [intOf]
      · have f1 : (e1 != 0) = true := by rw [bne_iff_ne]; exact q3
        clear q3 hi1
        go_wp2_with fail
        refine (HW.out _).mono ?_
        rintro e w99 ⟨rfl, hb99⟩
        go_wp2_with fail
        go_ret
        exact ⟨rfl, hB4.trans (hb99.mono hB4.size)⟩

set_option maxRecDepth 100000 in
theorem lifted (os : Os) (started : os.Started) (H : Type) (enc : TypeId × Value → H) :
    ReturnsInHanded {} Tryz.checked os 4 .any (fun w args => (Rows.bagNettedSpec.pre enc Tryz.prog Tryz.f4 [] false w args ∧ laidMetH Tryz.prog laid3 w) ∧ sizedMet enc Tryz.prog Tryz.f4 (OpenSpec.ofChange Rows.bagNettedSpec) false w args)
      (Rows.bagNettedSpec.post enc Tryz.prog Tryz.f4 false true false false) := by
  refine returnsInHanded_of_change_and (C := Tryz.checked) (X := fun w _ => laidMetH Tryz.prog laid3 w) (fun _ _ _ hh h => h.of_heap hh) own started (by kernel_rfl) Tryz.func4
    (ChangeSpec.witness_shaped (enc := enc) (C := Tryz.checked) (os := os) (X := fun w _ => laidMetH Tryz.prog laid3 w) false (World.doorLaid Tryz.prog 4000 os) #[.slice none 0 0, .slice none 0 0] 8 rfl (World.shaped_of_RefB (by kernel_rfl) (by kernel_rfl)) (by kernel_rfl) (by kernel_rfl) (by kernel_rfl) (door_met os _)) ?_
  intro W base args ds gs before hval0 hW _ _ hL _
  have hval : ∀ (j : Nat) t v, Tryz.f4.params[j]? = some t → args[j]? = some v → Value.okWide Tryz.prog W .any base t v := hval0
  have hW' := hW
  obtain ⟨p, q, hA0, hV, rfl, hfz, hnd⟩ := hW
  have hA : DataW.TrodAll enc Tryz.prog W 0 (fun _ => true) true Tryz.f4.params.toList args.toList ds p := hA0
  rw [Tryz.params4] at hA hval
  obtain ⟨rfl, rfl⟩ := trodVars_none hV
  have hA' := hA
  obtain ⟨v0, vs0, d0, ds0, p0, q0, hargs, rfl, rfl, h0, r0⟩ := trodAll_cons hA
  obtain ⟨v1, vs1, d1, ds1, p1, q1, rfl, rfl, rfl, h1, r1⟩ := trodAll_cons r0
  obtain ⟨rfl, rfl, rfl⟩ := trodAll_nil r1
  obtain rfl : args = #[v0, v1] := by cases args; simp_all
  obtain ⟨x, rfl, hX, hxz⟩ := open_bag (hval 0 _ v0 rfl rfl) h0
  obtain ⟨l, rfl, hCL, _⟩ := open_changes (hval 1 _ v1 rfl rfl) h1
  clear hA0 hval0
  refine (walk x l W hX hxz hCL (tab_of_laid hL)).mono fun e W' ⟨he, hg⟩ => ?_
  subst he
  exact ⟨_, rfl, _, _, _, [], _, [], hW', trodAll_mk1 (shut_bool Tryz.underlying4 true), trodAll_below laidOut hg (by decide +kernel) hA' (fun x hx => by simpa using hW'.lt x (by simpa using hx)), rfl, hg.frame _, fun h => by cases h⟩

theorem over : Rows.BagNettedSaid :=
  OpenClaim.holds_of_wide 4 Tryz.f4 rfl rfl rfl rfl rfl rfl rfl ⟨rfl, rfl, rfl, rfl, rfl⟩ rfl rfl rfl rfl rfl (by kernel_rfl) Tryz.func4 (by kernel_rfl)
    (of_decide_eq_true (by kernel_rfl)) (by unfold Func.isWrapper; first | (rw [if_pos (by decide +kernel)]; kernel_rfl) | (rw [if_neg (by decide +kernel)]; exact ⟨rfl, rfl⟩))
    (fun os started H enc _ => lifted os started H enc)

theorem proved : Rows.BagNettedCardSaid :=
  Claim7.holds_tied_plain_at .later [] [.data, .data, .data] true (true, "e149b117561d86b19624fbd063e74279d5dc5e49ce8b9bb936bb7e071e67dd24") true
    over (fun _ h => by cases h) (by kernel_rfl) (fun _ h => by cases h) bagNetted_row_tie rfl ⟨rfl, rfl⟩ (by kernel_rfl) rfl
    (fun f fn hf hfn => by
      obtain rfl : f = 4 := Option.some.inj ((show Tryz.prog.funcNamed "tidewright/tidewrightlaw03.BagNetted" = some 4 by kernel_rfl).symm.trans hf) |>.symm
      obtain rfl : fn = Tryz.f4 := (Option.some.inj (Tryz.func4.symm.trans hfn)).symm
      exact ⟨by kernel_rfl, fun j t ht => by
        rw [Tryz.params4] at ht
        have hm : t ∈ [23, 24] := by simpa using Array.mem_of_getElem? ht
        have hall : ([23, 24].all fun u => !Tryz.prog.wantsStandIn u) = true := by kernel_rfl
        exact (show Tryz.prog.wantsStandIn t = false by simpa using List.all_eq_true.1 hall t hm)⟩)
    (by kernel_rfl)
#print axioms proved
end Go.Proofs.YthoimepdioeckaaGreatDoor.bagNetted
