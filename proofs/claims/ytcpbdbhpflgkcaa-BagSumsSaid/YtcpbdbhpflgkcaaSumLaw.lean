/-
  PROVED HERE: for every two bags (any items at all) and every number the law BagSums returns true: Sum, Minus and Times of package bag answer as the document's own; Sum is commutative, and Minus undoes it. Its arguments read afterwards as before.
-/
import Derived.Test.YtcpbdbhpflgkcaaRows
import Derived.Test.YtcpbdbhpflgkcaaOpenB
import Derived.Test.YtcpbdbhpflgkcaaWake
import Derived.Test.YtcpbdbhpflgkcaaRefSums
namespace Go.Proofs.Ytcpbdbhpflgkcaa.bagSums
open Go.ChangeShapes Go.WideShapes Go.ChangeAt Go.RowKit
set_option linter.unusedVariables false

theorem comm (a b : List It) : combErr (fun x y => x + y) b a = combErr (fun x y => x + y) a b ∧ combVal (fun x y => x + y) b a = combVal (fun x y => x + y) a b := by
  unfold combErr combVal
  by_cases hv : validBag a = true ∧ validBag b = true
  · rw [if_pos hv, if_pos hv, if_pos hv.symm, if_pos hv.symm, comb_comm (by simp) (fun x y => Int.add_comm x y) (asc_of_valid hv.1) (asc_of_valid hv.2)]
    exact ⟨rfl, rfl⟩
  · have hv' : ¬ (validBag b = true ∧ validBag a = true) := fun h => hv h.symm
    rw [if_neg hv, if_neg hv, if_neg hv', if_neg hv']
    exact ⟨rfl, rfl⟩
theorem undo {a b : List It} (h : combErr (fun x y => x + y) a b = 0) : combErr (fun x y => x - y) (combVal (fun x y => x + y) a b) b = 0 ∧ combVal (fun x y => x - y) (combVal (fun x y => x + y) a b) b = a := by
  unfold combErr at h
  by_cases hv : validBag a = true ∧ validBag b = true
  · rw [if_pos hv] at h
    unfold toldErr at h
    by_cases hc : validBag (comb (fun x y => x + y) a b) = true
    · have ha := asc_of_valid hv.1
      have hb := asc_of_valid hv.2
      have e : comb (fun x y => x - y) (comb (fun x y => x + y) a b) b = a := bag_ext (comb_asc _ (comb_asc _ ha hb) hb) ha fun r => by
        rw [comb_cnt (by simp) (comb_asc _ ha hb) hb, comb_cnt (by simp) ha hb]; omega
      have e2 : combVal (fun x y => x + y) a b = comb (fun x y => x + y) a b := by unfold combVal toldVal; rw [if_pos hv, if_pos hc]
      rw [e2]
      unfold combErr combVal toldErr toldVal
      refine ⟨?_, ?_⟩
      · rw [if_pos ⟨hc, hv.2⟩, e, if_pos hv.1]
      · rw [if_pos ⟨hc, hv.2⟩, e, if_pos hv.1]
    · rw [if_neg hc] at h; exact absurd h (by decide)
  · rw [if_neg hv] at h; exact absurd h (by decide)
theorem tmVal_len (b : List It) (n : Int) : (tmVal b n).length ≤ 400 := by
  unfold tmVal
  split
  · split
    · exact toldVal_len _
    · simp
  · simp

set_option maxRecDepth 100000 in
set_option maxHeartbeats 8000000 in
theorem walk (x y : BagV) (n : Int) (w : World) (hX : BagOK w x) (hxz : x.1 = none → x.2.2 = 0) (hY : BagOK w y) :
    Calls Try.prog 4 #[bagv x, bagv y, .int .i64 n] w fun e w' => e = .returned (.bool true) ∧ Below w.heap.size w w' := by
  have hbA : Below w.heap.size w (w.alloc (.cells #[bagv x, bagv y] 23)) := (Below.refl _ _).alloc (Nat.le_refl _) _
  have hfew := Few_any w.heap.size [x, y] (by simp) (w.alloc (.cells #[bagv x, bagv y] 23)) (by simp) (fun i hi => by
    have hb := Blk.new w 23 #[bagv x, bagv y]
    have hi3 : i = 0 ∨ i = 1 := by simp at hi; omega
    rcases hi3 with rfl | rfl
    · exact hb.cell 0
    · exact hb.cell 1) (fun b hb => by
    simp only [List.mem_cons, List.not_mem_nil, or_false] at hb
    rcases hb with rfl | rfl
    · exact hX.belowV hbA
    · exact hY.belowV hbA)
  have HF := Lib.hid hfew
  have HXYZ := Lib.hid (And.intro hX (And.intro hxz hY))
  clear hfew hX hY hxz
  obtain ⟨p, rs, c⟩ := x
  obtain ⟨q, ss, d⟩ := y
  dsimp only [bagv] at *
  have HW := Lib.hid awake_any
  go_enter Try.func4, Try.ntmps4
  go_wp2_with fail
  refine HF.out.mono ?_
  rintro e w1 ⟨he, hb1⟩
  have hB1 : Below w.heap.size w w1 := hbA.trans (hb1.mono hbA.size)
  clear hb1 hbA
  rcases he with rfl | ⟨rfl, h60⟩
  · go_wp2_with fail
    refine (HW.out _).mono ?_
    rintro e w2 ⟨rfl, hb2⟩
    go_wp2_with fail
    go_ret
    exact ⟨rfl, hB1.trans (hb2.mono hB1.size)⟩
  · have hx6 : rs.length ≤ 60 := h60 (p, rs, c) (by simp)
    have hy6 : ss.length ≤ 60 := h60 (q, ss, d) (by simp)
    obtain ⟨⟨_, hx7, hx8⟩, hx9, ⟨_, hy7, hy8⟩⟩ := HXYZ.out
    dsimp only at hx7 hx8 hx9 hy7 hy8
    have s1 := fun W (h : Below w.heap.size w W) => Sum_any p q rs ss c d (by omega) (by omega) hx7 hy7 W (hx8.belowV h) (hy8.belowV h)
    have s2 := fun W (h : Below w.heap.size w W) => refSum_any p q rs ss c d hx6 hy6 W (hx8.belowV h) hx9 (hy8.belowV h)
    have s3 := fun W (h : Below w.heap.size w W) => Sum_any q p ss rs d c (by omega) (by omega) hy7 hx7 W (hy8.belowV h) (hx8.belowV h)
    have s4 := fun W (h : Below w.heap.size w W) (p1 : Option Addr) (r1 : List ItR) (c1 : Nat) (hl : r1.length ≤ 100000) (hc : r1.length ≤ c1) (hi : ItemsIn W p1 r1) => Minus_any p1 q r1 ss c1 d hl (by omega) hc hy7 W hi (hy8.belowV h)
    have s5 := fun W (h : Below w.heap.size w W) => Minus_any p q rs ss c d (by omega) (by omega) hx7 hy7 W (hx8.belowV h) (hy8.belowV h)
    have s6 := fun W (h : Below w.heap.size w W) => refMinus_any p q rs ss c d hx6 hy6 W (hx8.belowV h) hx9 (hy8.belowV h)
    have s7 := fun W (h : Below w.heap.size w W) => Times_any p rs c n hx6 hx7 W (hx8.belowV h)
    have s8 := fun W (h : Below w.heap.size w W) => refTimes_any p rs c n hx6 W (hx8.belowV h)
    have hun := @undo (vals rs) (vals ss)
    have l1 := combVal_len (fun x y => x + y) (vals rs) (vals ss)
    have l5 := combVal_len (fun x y => x - y) (vals rs) (vals ss)
    have l7 := tmVal_len (vals rs) n
    rw [(comm (vals rs) (vals ss)).1, (comm (vals rs) (vals ss)).2] at s3
    generalize combErr (fun x y => x + y) (vals rs) (vals ss) = e1 at s1 s2 s3 hun
    generalize combVal (fun x y => x + y) (vals rs) (vals ss) = v1 at s1 s2 s3 hun l1
    generalize combErr (fun x y => x - y) (vals rs) (vals ss) = e5 at s5 s6
    generalize combVal (fun x y => x - y) (vals rs) (vals ss) = v5 at s5 s6 l5
    generalize tmErr (vals rs) n = e7 at s7 s8
    generalize tmVal (vals rs) n = v7 at s7 s8 l7
    have S1 := Lib.hid s1
    have S2 := Lib.hid s2
    have S3 := Lib.hid s3
    have S4 := Lib.hid s4
    have S5 := Lib.hid s5
    have S6 := Lib.hid s6
    have S7 := Lib.hid s7
    have S8 := Lib.hid s8
    have HUN := Lib.hid hun
    have HX8 := Lib.hid fun W (h : Below w.heap.size w W) => hx8.belowV h
    clear s1 s2 s3 s4 s5 s6 s7 s8 hun hx8 hy8 hx9 HXYZ HF h60
    go_wp2_with fail
    refine (S1.out _ hB1).mono ?_
    rintro e w2 ⟨p1, r1, c1, rfl, hv1, hc1, _, hi1, hb⟩
    have hB2 : Below w.heap.size w w2 := hB1.trans (hb.mono hB1.size)
    have hl1 : r1.length ≤ 100000 := by rw [← vals_len, hv1]; omega
    have HV1 := Lib.hid hv1
    clear hv1
    clear hb
    go_wp2_with fail
    refine (S2.out _ hB2).mono ?_
    rintro e w3 ⟨p2, r2, c2, rfl, hv2, hc2, _, hi2, hb⟩
    have hB3 : Below w.heap.size w w3 := hB2.trans (hb.mono hB2.size)
    have hl2 : r2.length ≤ 100000 := by rw [← vals_len, hv2]; omega
    have HV2 := Lib.hid hv2
    clear hv2
    have hi1 := hi1.belowV hb
    clear hb
    have HSM := Lib.hid (SameB_any p1 p2 r1 r2 c1 c2 (HV1.out.trans HV2.out.symm) (by omega) w3 hi1 hi2)
    go_wp2_with fail
    refine HSM.out.mono ?_
    rintro e w4 ⟨rfl, hb⟩
    have hB4 : Below w.heap.size w w4 := hB3.trans (hb.mono hB3.size)
    clear HSM
    have hi1 := hi1.belowV hb
    clear hb
    go_wp2_with fail
    refine (S3.out _ hB4).mono ?_
    rintro e w5 ⟨p3, r3, c3, rfl, hv3, hc3, _, hi3, hb⟩
    have hB5 : Below w.heap.size w w5 := hB4.trans (hb.mono hB4.size)
    have hl3 : r3.length ≤ 100000 := by rw [← vals_len, hv3]; omega
    have HV3 := Lib.hid hv3
    clear hv3
    have hi1 := hi1.belowV hb
    clear hb
    have HSM := Lib.hid (SameB_any p1 p3 r1 r3 c1 c3 (HV1.out.trans HV3.out.symm) (by omega) w5 hi1 hi3)
    go_wp2_with fail
    refine HSM.out.mono ?_
    rintro e w6 ⟨rfl, hb⟩
    have hB6 : Below w.heap.size w w6 := hB5.trans (hb.mono hB5.size)
    clear HSM
    have hi1 := hi1.belowV hb
    clear hb
    clear hi2 hi3
    by_cases q1 : e1 = 0
    · have hun := HUN.out q1
      have f1 : (e1 == 0) = true := by rw [beq_iff_eq]; exact q1
      have g4 := S4.out w6 hB6 p1 r1 c1 hl1 hc1 hi1
      rw [HV1.out, hun.1, hun.2] at g4
      have G4 := Lib.hid g4
      clear g4 hun q1
      go_wp2_with fail
      refine G4.out.mono ?_
      rintro e w7 ⟨p4, r4, c4, rfl, hv4, hc4, hl4', hi4, hb⟩
      have hB7 : Below w.heap.size w w7 := hB6.trans (hb.mono hB6.size)
      have HSM := Lib.hid (SameB_any p4 p r4 rs c4 c hv4 (by omega) w7 hi4 (HX8.out _ hB7))
      clear hb hv4 hi4
      go_wp2_with fail
      refine HSM.out.mono ?_
      rintro e w8 ⟨rfl, hb⟩
      have hB8 : Below w.heap.size w w8 := hB7.trans (hb.mono hB7.size)
      clear hb HSM hi1
      go_wp2_with fail
      refine (S5.out _ hB8).mono ?_
      rintro e w9 ⟨p5, r5, c5, rfl, hv5, hc5, _, hi5, hb⟩
      have hB9 : Below w.heap.size w w9 := hB8.trans (hb.mono hB8.size)
      have hl5 : r5.length ≤ 100000 := by rw [← vals_len, hv5]; omega
      have HV5 := Lib.hid hv5
      clear hv5
      clear hb
      go_wp2_with fail
      refine (S6.out _ hB9).mono ?_
      rintro e w10 ⟨p6, r6, c6, rfl, hv6, hc6, _, hi6, hb⟩
      have hB10 : Below w.heap.size w w10 := hB9.trans (hb.mono hB9.size)
      have hl6 : r6.length ≤ 100000 := by rw [← vals_len, hv6]; omega
      have HV6 := Lib.hid hv6
      clear hv6
      have hi5 := hi5.belowV hb
      clear hb
      have HSM := Lib.hid (SameB_any p5 p6 r5 r6 c5 c6 (HV5.out.trans HV6.out.symm) (by omega) w10 hi5 hi6)
      go_wp2_with fail
      refine HSM.out.mono ?_
      rintro e w11 ⟨rfl, hb⟩
      have hB11 : Below w.heap.size w w11 := hB10.trans (hb.mono hB10.size)
      clear HSM
      clear hb
      go_wp2_with fail
      refine (S7.out _ hB11).mono ?_
      rintro e w12 ⟨p7, r7, c7, rfl, hv7, hc7, _, hi7, hb⟩
      have hB12 : Below w.heap.size w w12 := hB11.trans (hb.mono hB11.size)
      have hl7 : r7.length ≤ 100000 := by rw [← vals_len, hv7]; omega
      have HV7 := Lib.hid hv7
      clear hv7
      clear hb
      go_wp2_with fail
      refine (S8.out _ hB12).mono ?_
      rintro e w13 ⟨p8, r8, c8, rfl, hv8, hc8, _, hi8, hb⟩
      have hB13 : Below w.heap.size w w13 := hB12.trans (hb.mono hB12.size)
      have hl8 : r8.length ≤ 100000 := by rw [← vals_len, hv8]; omega
      have HV8 := Lib.hid hv8
      clear hv8
      have hi7 := hi7.belowV hb
      clear hb
      have HSM := Lib.hid (SameB_any p7 p8 r7 r8 c7 c8 (HV7.out.trans HV8.out.symm) (by omega) w13 hi7 hi8)
      go_wp2_with fail
      refine HSM.out.mono ?_
      rintro e w14 ⟨rfl, hb⟩
      have hB14 : Below w.heap.size w w14 := hB13.trans (hb.mono hB13.size)
      clear HSM
      clear hb
      go_wp2_with fail
      refine (HW.out _).mono ?_
      rintro e w15 ⟨rfl, hb⟩
      go_wp2_with fail
      go_ret
      exact ⟨rfl, hB14.trans (hb.mono hB14.size)⟩
    · have f1 : (e1 == 0) = false := by rw [beq_eq_false_iff_ne]; exact q1
      clear q1 hi1
      go_wp2_with fail
      refine (S5.out _ hB6).mono ?_
      rintro e w7 ⟨p5, r5, c5, rfl, hv5, hc5, _, hi5, hb⟩
      have hB7 : Below w.heap.size w w7 := hB6.trans (hb.mono hB6.size)
      have hl5 : r5.length ≤ 100000 := by rw [← vals_len, hv5]; omega
      have HV5 := Lib.hid hv5
      clear hv5
      clear hb
      go_wp2_with fail
      refine (S6.out _ hB7).mono ?_
      rintro e w8 ⟨p6, r6, c6, rfl, hv6, hc6, _, hi6, hb⟩
      have hB8 : Below w.heap.size w w8 := hB7.trans (hb.mono hB7.size)
      have hl6 : r6.length ≤ 100000 := by rw [← vals_len, hv6]; omega
      have HV6 := Lib.hid hv6
      clear hv6
      have hi5 := hi5.belowV hb
      clear hb
      have HSM := Lib.hid (SameB_any p5 p6 r5 r6 c5 c6 (HV5.out.trans HV6.out.symm) (by omega) w8 hi5 hi6)
      go_wp2_with fail
      refine HSM.out.mono ?_
      rintro e w9 ⟨rfl, hb⟩
      have hB9 : Below w.heap.size w w9 := hB8.trans (hb.mono hB8.size)
      clear HSM
      clear hb
      go_wp2_with fail
      refine (S7.out _ hB9).mono ?_
      rintro e w10 ⟨p7, r7, c7, rfl, hv7, hc7, _, hi7, hb⟩
      have hB10 : Below w.heap.size w w10 := hB9.trans (hb.mono hB9.size)
      have hl7 : r7.length ≤ 100000 := by rw [← vals_len, hv7]; omega
      have HV7 := Lib.hid hv7
      clear hv7
      clear hb
      go_wp2_with fail
      refine (S8.out _ hB10).mono ?_
      rintro e w11 ⟨p8, r8, c8, rfl, hv8, hc8, _, hi8, hb⟩
      have hB11 : Below w.heap.size w w11 := hB10.trans (hb.mono hB10.size)
      have hl8 : r8.length ≤ 100000 := by rw [← vals_len, hv8]; omega
      have HV8 := Lib.hid hv8
      clear hv8
      have hi7 := hi7.belowV hb
      clear hb
      have HSM := Lib.hid (SameB_any p7 p8 r7 r8 c7 c8 (HV7.out.trans HV8.out.symm) (by omega) w11 hi7 hi8)
      go_wp2_with fail
      refine HSM.out.mono ?_
      rintro e w12 ⟨rfl, hb⟩
      have hB12 : Below w.heap.size w w12 := hB11.trans (hb.mono hB11.size)
      clear HSM
      clear hb
      go_wp2_with fail
      refine (HW.out _).mono ?_
      rintro e w13 ⟨rfl, hb⟩
      go_wp2_with fail
      go_ret
      exact ⟨rfl, hB12.trans (hb.mono hB12.size)⟩

set_option maxRecDepth 100000 in
theorem lifted (os : Os) (started : os.Started) (H : Type) (enc : TypeId × Value → H) :
    ReturnsInHanded {} Try.checked os 4 .any (Rows.bagSumsSpec.pre6 enc Try.prog Try.f4 Rows.bagSumsRow.domain false) (Rows.bagSumsSpec.post enc Try.prog Try.f4 false true false false) := by
  refine returnsInHanded_of_change (C := Try.checked) own started (by kernel_rfl) Try.func4
    (ChangeSpec.witness6 (enc := enc) (C := Try.checked) false ⟨#[], #[.slice none 0 0, .slice none 0 0, .int .i64 0], []⟩ 8 (by kernel_rfl) (by kernel_rfl) (by kernel_rfl) (by kernel_rfl)) ?_
  intro W base args ds gs before hval0 hW hcnd _
  have hval : ∀ (j : Nat) t v, Try.f4.params[j]? = some t → args[j]? = some v → Value.okWide Try.prog W .any base t v := hval0
  have hW' := hW
  obtain ⟨p, q, hA0, hV, rfl, hfz, hnd⟩ := hW
  have hA : DataW.TrodAll enc Try.prog W 0 (fun _ => true) true Try.f4.params.toList args.toList ds p := hA0
  rw [Try.params4] at hA hval
  obtain ⟨rfl, rfl⟩ := trodVars_none hV
  have hA' := hA
  obtain ⟨v0, vs0, d0, ds0, p0, q0, hargs, rfl, rfl, h0, r0⟩ := trodAll_cons hA
  obtain ⟨v1, vs1, d1, ds1, p1, q1, rfl, rfl, rfl, h1, r1⟩ := trodAll_cons r0
  obtain ⟨v2, vs2, d2, ds2, p2, q2, rfl, rfl, rfl, h2, r2⟩ := trodAll_cons r1
  obtain ⟨rfl, rfl, rfl⟩ := trodAll_nil r2
  obtain rfl : args = #[v0, v1, v2] := by cases args; simp_all
  obtain ⟨x, rfl, hX, hxz⟩ := open_bag (hval 0 _ v0 rfl rfl) h0
  obtain ⟨y, rfl, hY, _⟩ := open_bag (hval 1 _ v1 rfl rfl) h1
  obtain ⟨n, rfl⟩ := okWide_int Try.underlying3 (hval 2 _ v2 rfl rfl)
  clear hA0 hval0
  refine (walk x y n W hX hxz hY).mono fun e W' ⟨he, hg⟩ => ?_
  subst he
  exact ⟨_, rfl, _, _, _, [], _, [], hW', trodAll_mk1 (shut_bool Try.underlying4 true), trodAll_below laidOut hg (by decide +kernel) hA' (fun x hx => by simpa using hW'.lt x (by simpa using hx)), rfl, hg.frame _, fun h => by cases h⟩

theorem over : Rows.bagSumsRow.holds Try.pinned (OpenSpec.ofChange Rows.bagSumsSpec) :=
  OpenClaim.holds_of_wide 4 Try.f4 rfl rfl rfl rfl rfl rfl rfl ⟨rfl, rfl, rfl, rfl, rfl⟩ rfl rfl rfl rfl rfl (by kernel_rfl) Try.func4 (by kernel_rfl)
    (of_decide_eq_true (by kernel_rfl)) (by unfold Func.isWrapper; first | (rw [if_pos (by decide +kernel)]; kernel_rfl) | (rw [if_neg (by decide +kernel)]; exact ⟨rfl, rfl⟩))
    (fun os started H enc _ => lifted os started H enc)

theorem proved : Rows.BagSumsSaid :=
  over
#print axioms proved
end Go.Proofs.Ytcpbdbhpflgkcaa.bagSums
