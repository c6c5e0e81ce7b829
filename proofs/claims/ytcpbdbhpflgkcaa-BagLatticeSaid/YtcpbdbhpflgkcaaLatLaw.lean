/-
  PROVED HERE: for every two bags (any items at all) the law BagLattice returns true: Distinct, Within, Meet and Join of package bag answer as the document's own, and are what a lattice asks. Its arguments read afterwards as before.
-/
import Derived.Test.YtcpbdbhpflgkcaaRows
import Derived.Test.YtcpbdbhpflgkcaaOpenB
import Derived.Test.YtcpbdbhpflgkcaaWake
import Derived.Test.YtcpbdbhpflgkcaaLatRef2
import Derived.Test.YtcpbdbhpflgkcaaWithin
namespace Go.Proofs.Ytcpbdbhpflgkcaa.bagLattice
open Go.ChangeShapes Go.WideShapes Go.ChangeAt Go.RowKit
set_option linter.unusedVariables false

theorem comb_no {f : Int → Int → Int} {a b : List It} (h : validBag a = false) : combErr f a b = 1 ∧ combVal f a b = [] := by
  unfold combErr combVal
  rw [if_neg (fun hh => by rw [h] at hh; exact absurd hh.1 (by decide)), if_neg (fun hh => by rw [h] at hh; exact absurd hh.1 (by decide))]
  exact ⟨rfl, rfl⟩
theorem within_off {a b : List It} (h : validBag a = false) : withinOf a b = false := by unfold withinOf; rw [h]; rfl
theorem dist_no {a : List It} (h : validBag a = false) : combErr oneF a [] = 1 ∧ combVal oneF a [] = [] := comb_no h
theorem distR_no {a : List It} (h : validBag a = false) : distErr a = 1 ∧ distVal a = [] := ⟨by rw [← dist_comb.1]; exact (dist_no h).1, by rw [← dist_comb.2]; exact (dist_no h).2⟩
theorem dist_yes {a : List It} (h : validBag a = true) : distErr a = 0 ∧ distVal a = dist a := by unfold distErr distVal; rw [if_pos h, if_pos h]; exact ⟨rfl, rfl⟩
theorem distC_yes {a : List It} (h : validBag a = true) : combErr oneF a [] = 0 ∧ combVal oneF a [] = dist a := ⟨by rw [dist_comb.1]; exact (dist_yes h).1, by rw [dist_comb.2]; exact (dist_yes h).2⟩
theorem dist_twice {a : List It} (h : validBag a = true) : combErr oneF (dist a) [] = 0 ∧ combVal oneF (dist a) [] = dist a := by
  have hd := dist_valid h
  refine ⟨(distC_yes hd).1, (distC_yes hd).2.trans ?_⟩
  refine bag_ext (asc_of_valid (dist_valid hd)) (asc_of_valid hd) fun q => ?_
  rw [dist_cnt (asc_of_valid hd).2, dist_cnt (asc_of_valid h).2]
  by_cases hp : 0 < cnt a q
  · rw [if_pos hp, if_pos (by decide)]
  · rw [if_neg hp, if_neg (by decide)]
theorem comb_ok {f : Int → Int → Int} {a b : List It} (h : combErr f a b = 0) : validBag a = true ∧ validBag b = true ∧ validBag (comb f a b) = true ∧ combVal f a b = comb f a b := by
  unfold combErr at h
  by_cases hv : validBag a = true ∧ validBag b = true
  · rw [if_pos hv] at h
    unfold toldErr at h
    by_cases hc : validBag (comb f a b) = true
    · refine ⟨hv.1, hv.2, hc, ?_⟩
      unfold combVal toldVal
      rw [if_pos hv, if_pos hc]
    · rw [if_neg hc] at h; exact absurd h (by decide)
  · rw [if_neg hv] at h; exact absurd h (by decide)
theorem lo_within {a b : List It} (h : combErr loF a b = 0) : withinOf (combVal loF a b) a = true ∧ withinOf (combVal loF a b) b = true := by
  obtain ⟨h1, h2, h3, h4⟩ := comb_ok h
  have ha := asc_of_valid h1
  have hb := asc_of_valid h2
  have hc := comb_asc loF ha hb
  rw [h4]
  unfold withinOf
  rw [h1, h2, h3, (wB_iff hc.2 ha.2).2, (wB_iff hc.2 hb.2).2]
  · exact ⟨rfl, rfl⟩
  · intro q; rw [comb_cnt (by decide) ha hb]; unfold loF; split <;> omega
  · intro q; rw [comb_cnt (by decide) ha hb]; unfold loF; split <;> omega
theorem hi_within {a b : List It} (h : combErr hiF a b = 0) : withinOf a (combVal hiF a b) = true ∧ withinOf b (combVal hiF a b) = true := by
  obtain ⟨h1, h2, h3, h4⟩ := comb_ok h
  have ha := asc_of_valid h1
  have hb := asc_of_valid h2
  have hc := comb_asc hiF ha hb
  rw [h4]
  unfold withinOf
  rw [h1, h2, h3, (wB_iff ha.2 hc.2).2, (wB_iff hb.2 hc.2).2]
  · exact ⟨rfl, rfl⟩
  · intro q; rw [comb_cnt (by decide) ha hb]; unfold hiF; split <;> omega
  · intro q; rw [comb_cnt (by decide) ha hb]; unfold hiF; split <;> omega
theorem self_yes {f : Int → Int → Int} (hf : ∀ x, f x x = x) {a : List It} (h : validBag a = true) : combErr f a a = 0 ∧ combVal f a a = a := by
  have ha := asc_of_valid h
  have e : comb f a a = a := bag_ext (comb_asc f ha ha) ha fun r => by rw [comb_cnt (hf 0) ha ha, hf]
  unfold combErr combVal toldErr toldVal
  rw [if_pos (show validBag a = true ∧ validBag a = true from ⟨h, h⟩), if_pos (show validBag a = true ∧ validBag a = true from ⟨h, h⟩), e, if_pos h, if_pos h]
  exact ⟨rfl, rfl⟩
theorem lo_self (x : Int) : loF x x = x := by unfold loF; split <;> rfl
theorem hi_self (x : Int) : hiF x x = x := by unfold hiF; split <;> rfl

set_option maxRecDepth 100000 in
set_option maxHeartbeats 8000000 in
theorem walkNo (x y : BagV) (w : World) (hX : BagOK w x) (hxz : x.1 = none → x.2.2 = 0) (hY : BagOK w y) (hyz : y.1 = none → y.2.2 = 0) (q1 : validBag (vals x.2.1) = false) :
    Calls Try.prog 6 #[bagv x, bagv y] w fun e w' => e = .returned (.bool true) ∧ Below w.heap.size w w' := by
  have hbA : Below w.heap.size w (w.alloc (.cells #[bagv x, bagv y] 23)) := (Below.refl _ _).alloc (Nat.le_refl _) _
  have hfew := Few_any w.heap.size [x, y] (by simp) (w.alloc (.cells #[bagv x, bagv y] 23)) (by simp) (fun i hi => by
    have hb := Blk.new w 23 #[bagv x, bagv y]
    have hi3 : i = 0 ∨ i = 1 := by simp at hi; omega
    rcases hi3 with rfl | rfl
    · exact hb.cell 0
    · exact hb.cell 1) (fun b hb => by
    simp only [List.mem_cons, List.not_mem_nil, or_false] at hb
    rcases hb with rfl | rfl
    · exact hX.belowV hbA
    · exact hY.belowV hbA)
  have HF := Lib.hid hfew
  have HXYZ := Lib.hid (And.intro hX (And.intro hxz (And.intro hY hyz)))
  clear hfew hX hY hxz hyz
  obtain ⟨p, rs, c⟩ := x
  obtain ⟨q, ss, d⟩ := y
  dsimp only [bagv] at *
  have HW := Lib.hid awake_any
  go_enter Try.func6, Try.ntmps6
  go_wp2_with fail
  refine HF.out.mono ?_
  rintro e w1 ⟨he, hb1⟩
  have hB1 : Below w.heap.size w w1 := hbA.trans (hb1.mono hbA.size)
  clear hb1 hbA
  rcases he with rfl | ⟨rfl, h60⟩
  · go_wp2_with fail
    refine (HW.out _).mono ?_
    rintro e w2 ⟨rfl, hb2⟩
    go_wp2_with fail
    go_ret
    exact ⟨rfl, hB1.trans (hb2.mono hB1.size)⟩
  · have hx6 : rs.length ≤ 60 := h60 (p, rs, c) (by simp)
    have hy6 : ss.length ≤ 60 := h60 (q, ss, d) (by simp)
    obtain ⟨⟨_, hx7, hx8⟩, hx9, ⟨_, hy7, hy8⟩, hy9⟩ := HXYZ.out
    dsimp only at hx7 hx8 hx9 hy7 hy8 hy9 q1
    have s1 := fun W (h : Below w.heap.size w W) => Distinct_any p rs c (by omega) hx7 W (hx8.belowV h)
    have s2 := fun W (h : Below w.heap.size w W) => refDistinct_any p rs c (by omega) W (hx8.belowV h)
    have s3 := fun W (h : Below w.heap.size w W) => Within_any p q rs ss c d (by omega) (by omega) hx7 hy7 W (hx8.belowV h) (hy8.belowV h)
    have s4 := fun W (h : Below w.heap.size w W) => refWithinB_any p q rs ss c d (by omega) (by omega) W (hx8.belowV h) (hy8.belowV h)
    have s6 := fun W (h : Below w.heap.size w W) => Meet_any p q rs ss c d (by omega) (by omega) hx7 hy7 W (hx8.belowV h) (hy8.belowV h)
    have s7 := fun W (h : Below w.heap.size w W) => refMeet_any p q rs ss c d hx6 hy6 W (hx8.belowV h) (hy8.belowV h)
    have s8 := fun W (h : Below w.heap.size w W) => Join_any p q rs ss c d (by omega) (by omega) hx7 hy7 W (hx8.belowV h) (hy8.belowV h)
    have s9 := fun W (h : Below w.heap.size w W) => refJoin_any p q rs ss c d hx6 hy6 W (hx8.belowV h) (hy8.belowV h)
    have s11 := fun W (h : Below w.heap.size w W) => Meet_any p p rs rs c c (by omega) (by omega) hx7 hx7 W (hx8.belowV h) (hx8.belowV h)
    have s12 := fun W (h : Below w.heap.size w W) => Join_any p p rs rs c c (by omega) (by omega) hx7 hx7 W (hx8.belowV h) (hx8.belowV h)
    rw [← within_same (vals rs) (vals ss)] at s4
    rw [(dist_no q1).1, (dist_no q1).2] at s1
    rw [(distR_no q1).1, (distR_no q1).2] at s2
    rw [within_off q1] at s3 s4
    rw [(comb_no q1).1, (comb_no q1).2] at s6 s7 s8 s9 s11 s12
    have S1 := Lib.hid s1
    have S2 := Lib.hid s2
    have S3 := Lib.hid s3
    have S4 := Lib.hid s4
    have S6 := Lib.hid s6
    have S7 := Lib.hid s7
    have S8 := Lib.hid s8
    have S9 := Lib.hid s9
    have S11 := Lib.hid s11
    have S12 := Lib.hid s12
    have HX8 := Lib.hid fun W (h : Below w.heap.size w W) => hx8.belowV h
    clear s1 s2 s3 s4 s6 s7 s8 s9 s11 s12 hx8 hy8 hx9 hy9 HXYZ HF h60 q1
    go_wp2_with fail
    refine (S1.out _ hB1).mono ?_
    rintro e w2 ⟨p1, r1, c1, rfl, hv1, hc1, hj1, hi1, hb⟩
    have hB2 : Below w.heap.size w w2 := hB1.trans (hb.mono hB1.size)
    have HV1 := Lib.hid hv1
    have hl1 : r1.length ≤ 100000 := by rw [← vals_len, hv1]; first | omega | (rw [vals_len]; omega) | simp
    clear hv1 hj1
    clear hb
    go_wp2_with fail
    refine (S2.out _ hB2).mono ?_
    rintro e w3 ⟨p2, r2, c2, rfl, hv2, hc2, hj2, hi2, hb⟩
    have hB3 : Below w.heap.size w w3 := hB2.trans (hb.mono hB2.size)
    have HV2 := Lib.hid hv2
    have hl2 : r2.length ≤ 100000 := by rw [← vals_len, hv2]; first | omega | (rw [vals_len]; omega) | simp
    clear hv2 hj2
    have hi1 := hi1.belowV hb
    clear hb
    have HSM := Lib.hid (SameB_any p1 p2 r1 r2 c1 c2 (HV1.out.trans HV2.out.symm) (by omega) w3 hi1 hi2)
    go_wp2_with fail
    refine (HSM.out).mono ?_
    rintro e w4 ⟨rfl, hb⟩
    have hB4 : Below w.heap.size w w4 := hB3.trans (hb.mono hB3.size)
    have hi1 := hi1.belowV hb
    have hi2 := hi2.belowV hb
    clear hb
    clear HSM
    clear hi1 HV1 hc1 hl1 hi2 HV2 hc2 hl2
    go_wp2_with fail
    refine (S3.out _ hB4).mono ?_
    rintro e w5 ⟨rfl, hb⟩
    have hB5 : Below w.heap.size w w5 := hB4.trans (hb.mono hB4.size)
    clear hb
    go_wp2_with fail
    refine (S4.out _ hB5).mono ?_
    rintro e w6 ⟨rfl, hb⟩
    have hB6 : Below w.heap.size w w6 := hB5.trans (hb.mono hB5.size)
    clear hb
    go_wp2_with fail
    refine (S6.out _ hB6).mono ?_
    rintro e w7 ⟨p6, r6, c6, rfl, hv6, hc6, hj6, hi6, hb⟩
    have hB7 : Below w.heap.size w w7 := hB6.trans (hb.mono hB6.size)
    have HV6 := Lib.hid hv6
    have hl6 : r6.length ≤ 100000 := by rw [← vals_len, hv6]; first | omega | (rw [vals_len]; omega) | simp
    clear hv6 hj6
    clear hb
    go_wp2_with fail
    refine (S7.out _ hB7).mono ?_
    rintro e w8 ⟨p7, r7, c7, rfl, hv7, hc7, hj7, hi7, hb⟩
    have hB8 : Below w.heap.size w w8 := hB7.trans (hb.mono hB7.size)
    have HV7 := Lib.hid hv7
    have hl7 : r7.length ≤ 100000 := by rw [← vals_len, hv7]; first | omega | (rw [vals_len]; omega) | simp
    clear hv7 hj7
    have hi6 := hi6.belowV hb
    clear hb
    have HSM := Lib.hid (SameB_any p6 p7 r6 r7 c6 c7 (HV6.out.trans HV7.out.symm) (by omega) w8 hi6 hi7)
    go_wp2_with fail
    refine (HSM.out).mono ?_
    rintro e w9 ⟨rfl, hb⟩
    have hB9 : Below w.heap.size w w9 := hB8.trans (hb.mono hB8.size)
    have hi6 := hi6.belowV hb
    have hi7 := hi7.belowV hb
    clear hb
    clear HSM
    clear hi7 HV7 hc7 hl7
    go_wp2_with fail
    refine (S8.out _ hB9).mono ?_
    rintro e w10 ⟨p8, r8, c8, rfl, hv8, hc8, hj8, hi8, hb⟩
    have hB10 : Below w.heap.size w w10 := hB9.trans (hb.mono hB9.size)
    have HV8 := Lib.hid hv8
    have hl8 : r8.length ≤ 100000 := by rw [← vals_len, hv8]; first | omega | (rw [vals_len]; omega) | simp
    clear hv8 hj8
    have hi6 := hi6.belowV hb
    clear hb
    go_wp2_with fail
    refine (S9.out _ hB10).mono ?_
    rintro e w11 ⟨p9, r9, c9, rfl, hv9, hc9, hj9, hi9, hb⟩
    have hB11 : Below w.heap.size w w11 := hB10.trans (hb.mono hB10.size)
    have HV9 := Lib.hid hv9
    have hl9 : r9.length ≤ 100000 := by rw [← vals_len, hv9]; first | omega | (rw [vals_len]; omega) | simp
    clear hv9 hj9
    have hi6 := hi6.belowV hb
    have hi8 := hi8.belowV hb
    clear hb
    have HSM := Lib.hid (SameB_any p8 p9 r8 r9 c8 c9 (HV8.out.trans HV9.out.symm) (by omega) w11 hi8 hi9)
    go_wp2_with fail
    refine (HSM.out).mono ?_
    rintro e w12 ⟨rfl, hb⟩
    have hB12 : Below w.heap.size w w12 := hB11.trans (hb.mono hB11.size)
    have hi6 := hi6.belowV hb
    have hi8 := hi8.belowV hb
    have hi9 := hi9.belowV hb
    clear hb
    clear HSM
    clear hi9 HV9 hc9 hl9
    clear hi6 HV6 hc6 hl6 hi8 HV8 hc8 hl8
    go_wp2_with fail
    refine (S11.out _ hB12).mono ?_
    rintro e w13 ⟨p11, r11, c11, rfl, hv11, hc11, hj11, hi11, hb⟩
    have hB13 : Below w.heap.size w w13 := hB12.trans (hb.mono hB12.size)
    have HV11 := Lib.hid hv11
    have hl11 : r11.length ≤ 100000 := by rw [← vals_len, hv11]; first | omega | (rw [vals_len]; omega) | simp
    clear hv11 hj11
    clear hb
    go_wp2_with fail
    refine (S12.out _ hB13).mono ?_
    rintro e w14 ⟨p12, r12, c12, rfl, hv12, hc12, hj12, hi12, hb⟩
    have hB14 : Below w.heap.size w w14 := hB13.trans (hb.mono hB13.size)
    have HV12 := Lib.hid hv12
    have hl12 : r12.length ≤ 100000 := by rw [← vals_len, hv12]; first | omega | (rw [vals_len]; omega) | simp
    clear hv12 hj12
    have hi11 := hi11.belowV hb
    clear hb
    go_wp2_with fail
    refine (HW.out _).mono ?_
    rintro e w15 ⟨rfl, hb⟩
    go_wp2_with fail
    go_ret
    exact ⟨rfl, hB14.trans (hb.mono hB14.size)⟩

set_option maxRecDepth 100000 in
set_option maxHeartbeats 8000000 in
theorem walkYes (x y : BagV) (w : World) (hX : BagOK w x) (hxz : x.1 = none → x.2.2 = 0) (hY : BagOK w y) (hyz : y.1 = none → y.2.2 = 0) (q1 : validBag (vals x.2.1) = true) :
    Calls Try.prog 6 #[bagv x, bagv y] w fun e w' => e = .returned (.bool true) ∧ Below w.heap.size w w' := by
  have hbA : Below w.heap.size w (w.alloc (.cells #[bagv x, bagv y] 23)) := (Below.refl _ _).alloc (Nat.le_refl _) _
  have hfew := Few_any w.heap.size [x, y] (by simp) (w.alloc (.cells #[bagv x, bagv y] 23)) (by simp) (fun i hi => by
    have hb := Blk.new w 23 #[bagv x, bagv y]
    have hi3 : i = 0 ∨ i = 1 := by simp at hi; omega
    rcases hi3 with rfl | rfl
    · exact hb.cell 0
    · exact hb.cell 1) (fun b hb => by
    simp only [List.mem_cons, List.not_mem_nil, or_false] at hb
    rcases hb with rfl | rfl
    · exact hX.belowV hbA
    · exact hY.belowV hbA)
  have HF := Lib.hid hfew
  have HXYZ := Lib.hid (And.intro hX (And.intro hxz (And.intro hY hyz)))
  clear hfew hX hY hxz hyz
  obtain ⟨p, rs, c⟩ := x
  obtain ⟨q, ss, d⟩ := y
  dsimp only [bagv] at *
  have HW := Lib.hid awake_any
  go_enter Try.func6, Try.ntmps6
  go_wp2_with fail
  refine HF.out.mono ?_
  rintro e w1 ⟨he, hb1⟩
  have hB1 : Below w.heap.size w w1 := hbA.trans (hb1.mono hbA.size)
  clear hb1 hbA
  rcases he with rfl | ⟨rfl, h60⟩
  · go_wp2_with fail
    refine (HW.out _).mono ?_
    rintro e w2 ⟨rfl, hb2⟩
    go_wp2_with fail
    go_ret
    exact ⟨rfl, hB1.trans (hb2.mono hB1.size)⟩
  · have hx6 : rs.length ≤ 60 := h60 (p, rs, c) (by simp)
    have hy6 : ss.length ≤ 60 := h60 (q, ss, d) (by simp)
    obtain ⟨⟨_, hx7, hx8⟩, hx9, ⟨_, hy7, hy8⟩, hy9⟩ := HXYZ.out
    dsimp only at hx7 hx8 hx9 hy7 hy8 hy9 q1
    have s1 := fun W (h : Below w.heap.size w W) => Distinct_any p rs c (by omega) hx7 W (hx8.belowV h)
    have s2 := fun W (h : Below w.heap.size w W) => refDistinct_any p rs c (by omega) W (hx8.belowV h)
    have s3 := fun W (h : Below w.heap.size w W) => Within_any p q rs ss c d (by omega) (by omega) hx7 hy7 W (hx8.belowV h) (hy8.belowV h)
    have s4 := fun W (h : Below w.heap.size w W) => refWithinB_any p q rs ss c d (by omega) (by omega) W (hx8.belowV h) (hy8.belowV h)
    have s6 := fun W (h : Below w.heap.size w W) => Meet_any p q rs ss c d (by omega) (by omega) hx7 hy7 W (hx8.belowV h) (hy8.belowV h)
    have s7 := fun W (h : Below w.heap.size w W) => refMeet_any p q rs ss c d hx6 hy6 W (hx8.belowV h) (hy8.belowV h)
    have s8 := fun W (h : Below w.heap.size w W) => Join_any p q rs ss c d (by omega) (by omega) hx7 hy7 W (hx8.belowV h) (hy8.belowV h)
    have s9 := fun W (h : Below w.heap.size w W) => refJoin_any p q rs ss c d hx6 hy6 W (hx8.belowV h) (hy8.belowV h)
    have s11 := fun W (h : Below w.heap.size w W) => Meet_any p p rs rs c c (by omega) (by omega) hx7 hx7 W (hx8.belowV h) (hx8.belowV h)
    have s12 := fun W (h : Below w.heap.size w W) => Join_any p p rs rs c c (by omega) (by omega) hx7 hx7 W (hx8.belowV h) (hx8.belowV h)
    rw [← within_same (vals rs) (vals ss)] at s4
    have hdt := dist_twice q1
    have s5 := fun W (h : Below w.heap.size w W) (p1 : Option Addr) (r1 : List ItR) (c1 : Nat) (hl : r1.length ≤ 100000) (hc : r1.length ≤ c1) (hi : ItemsIn W p1 r1) => Distinct_any p1 r1 c1 hl hc W hi
    have sa := fun W (h : Below w.heap.size w W) (p1 : Option Addr) (r1 : List ItR) (c1 : Nat) (hl : r1.length ≤ 100000) (hc : r1.length ≤ c1) (hi : ItemsIn W p1 r1) => Within_any p1 p r1 rs c1 c hl (by omega) hc hx7 W hi (hx8.belowV h)
    have sb := fun W (h : Below w.heap.size w W) (p1 : Option Addr) (r1 : List ItR) (c1 : Nat) (hl : r1.length ≤ 100000) (hc : r1.length ≤ c1) (hi : ItemsIn W p1 r1) => Within_any p1 q r1 ss c1 d hl (by omega) hc hy7 W hi (hy8.belowV h)
    have sc := fun W (h : Below w.heap.size w W) (p1 : Option Addr) (r1 : List ItR) (c1 : Nat) (hl : r1.length ≤ 100000) (hc : r1.length ≤ c1) (hi : ItemsIn W p1 r1) => Within_any p p1 rs r1 c c1 (by omega) hl hx7 hc W (hx8.belowV h) hi
    have sd := fun W (h : Below w.heap.size w W) (p1 : Option Addr) (r1 : List ItR) (c1 : Nat) (hl : r1.length ≤ 100000) (hc : r1.length ≤ c1) (hi : ItemsIn W p1 r1) => Within_any q p1 ss r1 d c1 (by omega) hl hy7 hc W (hy8.belowV h) hi
    have hlo := @lo_within (vals rs) (vals ss)
    have hhi := @hi_within (vals rs) (vals ss)
    have l6 := combVal_len loF (vals rs) (vals ss)
    have l8 := combVal_len hiF (vals rs) (vals ss)
    have l1 : (dist (vals rs)).length ≤ 400 := Nat.le_trans (dist_len _) (by rw [vals_len]; omega)
    rw [(distC_yes q1).1, (distC_yes q1).2] at s1
    rw [(dist_yes q1).1, (dist_yes q1).2] at s2
    rw [(self_yes lo_self q1).1, (self_yes lo_self q1).2] at s11
    rw [(self_yes hi_self q1).1, (self_yes hi_self q1).2] at s12
    generalize withinOf (vals rs) (vals ss) = wv at s3 s4
    generalize combErr loF (vals rs) (vals ss) = e6 at s6 s7 hlo
    generalize combVal loF (vals rs) (vals ss) = v6 at s6 s7 hlo l6
    generalize combErr hiF (vals rs) (vals ss) = e8 at s8 s9 hhi
    generalize combVal hiF (vals rs) (vals ss) = v8 at s8 s9 hhi l8
    generalize dist (vals rs) = v1 at s1 s2 hdt l1
    have S1 := Lib.hid s1
    have S2 := Lib.hid s2
    have S3 := Lib.hid s3
    have S4 := Lib.hid s4
    have S6 := Lib.hid s6
    have S7 := Lib.hid s7
    have S8 := Lib.hid s8
    have S9 := Lib.hid s9
    have S11 := Lib.hid s11
    have S12 := Lib.hid s12
    have S5 := Lib.hid s5
    have Sa := Lib.hid sa
    have Sb := Lib.hid sb
    have Sc := Lib.hid sc
    have Sd := Lib.hid sd
    have HDT := Lib.hid hdt
    have HLO := Lib.hid hlo
    have HHI := Lib.hid hhi
    clear hdt hlo hhi
    have HX8 := Lib.hid fun W (h : Below w.heap.size w W) => hx8.belowV h
    clear s1 s2 s3 s4 s6 s7 s8 s9 s11 s12 s5 sa sb sc sd hx8 hy8 hx9 hy9 HXYZ HF h60 q1
    go_wp2_with fail
    refine (S1.out _ hB1).mono ?_
    rintro e w2 ⟨p1, r1, c1, rfl, hv1, hc1, hj1, hi1, hb⟩
    have hB2 : Below w.heap.size w w2 := hB1.trans (hb.mono hB1.size)
    have HV1 := Lib.hid hv1
    have hl1 : r1.length ≤ 100000 := by rw [← vals_len, hv1]; first | omega | (rw [vals_len]; omega) | simp
    clear hv1 hj1
    clear hb
    go_wp2_with fail
    refine (S2.out _ hB2).mono ?_
    rintro e w3 ⟨p2, r2, c2, rfl, hv2, hc2, hj2, hi2, hb⟩
    have hB3 : Below w.heap.size w w3 := hB2.trans (hb.mono hB2.size)
    have HV2 := Lib.hid hv2
    have hl2 : r2.length ≤ 100000 := by rw [← vals_len, hv2]; first | omega | (rw [vals_len]; omega) | simp
    clear hv2 hj2
    have hi1 := hi1.belowV hb
    clear hb
    have HSM := Lib.hid (SameB_any p1 p2 r1 r2 c1 c2 (HV1.out.trans HV2.out.symm) (by omega) w3 hi1 hi2)
    go_wp2_with fail
    refine (HSM.out).mono ?_
    rintro e w4 ⟨rfl, hb⟩
    have hB4 : Below w.heap.size w w4 := hB3.trans (hb.mono hB3.size)
    have hi1 := hi1.belowV hb
    have hi2 := hi2.belowV hb
    clear hb
    clear HSM
    clear hi2 HV2 hc2 hl2
    go_wp2_with fail
    refine (S3.out _ hB4).mono ?_
    rintro e w5 ⟨rfl, hb⟩
    have hB5 : Below w.heap.size w w5 := hB4.trans (hb.mono hB4.size)
    have hi1 := hi1.belowV hb
    clear hb
    go_wp2_with fail
    refine (S4.out _ hB5).mono ?_
    rintro e w6 ⟨rfl, hb⟩
    have hB6 : Below w.heap.size w w6 := hB5.trans (hb.mono hB5.size)
    have hi1 := hi1.belowV hb
    clear hb
    have g5 := S5.out w6 hB6 p1 r1 c1 hl1 hc1 hi1
    rw [HV1.out, HDT.out.1, HDT.out.2] at g5
    have G5 := Lib.hid g5
    clear g5
    go_wp2_with fail
    refine (G5.out).mono ?_
    rintro e w7 ⟨p5, r5, c5, rfl, hv5, hc5, hj5, hi5, hb⟩
    have hB7 : Below w.heap.size w w7 := hB6.trans (hb.mono hB6.size)
    have HV5 := Lib.hid hv5
    have hl5 : r5.length ≤ 100000 := by rw [← vals_len, hv5]; first | omega | (rw [vals_len]; omega) | simp
    clear hv5 hj5
    have hi1 := hi1.belowV hb
    clear hb
    clear G5
    have HSM := Lib.hid (SameB_any p1 p5 r1 r5 c1 c5 (HV1.out.trans HV5.out.symm) (by omega) w7 hi1 hi5)
    go_wp2_with fail
    refine (HSM.out).mono ?_
    rintro e w8 ⟨rfl, hb⟩
    have hB8 : Below w.heap.size w w8 := hB7.trans (hb.mono hB7.size)
    have hi1 := hi1.belowV hb
    have hi5 := hi5.belowV hb
    clear hb
    clear HSM
    clear hi1 HV1 hc1 hl1 hi5 HV5 hc5 hl5
    go_wp2_with fail
    refine (S6.out _ hB8).mono ?_
    rintro e w9 ⟨p6, r6, c6, rfl, hv6, hc6, hj6, hi6, hb⟩
    have hB9 : Below w.heap.size w w9 := hB8.trans (hb.mono hB8.size)
    have HV6 := Lib.hid hv6
    have hl6 : r6.length ≤ 100000 := by rw [← vals_len, hv6]; first | omega | (rw [vals_len]; omega) | simp
    clear hv6 hj6
    clear hb
    go_wp2_with fail
    refine (S7.out _ hB9).mono ?_
    rintro e w10 ⟨p7, r7, c7, rfl, hv7, hc7, hj7, hi7, hb⟩
    have hB10 : Below w.heap.size w w10 := hB9.trans (hb.mono hB9.size)
    have HV7 := Lib.hid hv7
    have hl7 : r7.length ≤ 100000 := by rw [← vals_len, hv7]; first | omega | (rw [vals_len]; omega) | simp
    clear hv7 hj7
    have hi6 := hi6.belowV hb
    clear hb
    have HSM := Lib.hid (SameB_any p6 p7 r6 r7 c6 c7 (HV6.out.trans HV7.out.symm) (by omega) w10 hi6 hi7)
    go_wp2_with fail
    refine (HSM.out).mono ?_
    rintro e w11 ⟨rfl, hb⟩
    have hB11 : Below w.heap.size w w11 := hB10.trans (hb.mono hB10.size)
    have hi6 := hi6.belowV hb
    have hi7 := hi7.belowV hb
    clear hb
    clear HSM
    clear hi7 HV7 hc7 hl7
    go_wp2_with fail
    refine (S8.out _ hB11).mono ?_
    rintro e w12 ⟨p8, r8, c8, rfl, hv8, hc8, hj8, hi8, hb⟩
    have hB12 : Below w.heap.size w w12 := hB11.trans (hb.mono hB11.size)
    have HV8 := Lib.hid hv8
    have hl8 : r8.length ≤ 100000 := by rw [← vals_len, hv8]; first | omega | (rw [vals_len]; omega) | simp
    clear hv8 hj8
    have hi6 := hi6.belowV hb
    clear hb
    go_wp2_with fail
    refine (S9.out _ hB12).mono ?_
    rintro e w13 ⟨p9, r9, c9, rfl, hv9, hc9, hj9, hi9, hb⟩
    have hB13 : Below w.heap.size w w13 := hB12.trans (hb.mono hB12.size)
    have HV9 := Lib.hid hv9
    have hl9 : r9.length ≤ 100000 := by rw [← vals_len, hv9]; first | omega | (rw [vals_len]; omega) | simp
    clear hv9 hj9
    have hi6 := hi6.belowV hb
    have hi8 := hi8.belowV hb
    clear hb
    have HSM := Lib.hid (SameB_any p8 p9 r8 r9 c8 c9 (HV8.out.trans HV9.out.symm) (by omega) w13 hi8 hi9)
    go_wp2_with fail
    refine (HSM.out).mono ?_
    rintro e w14 ⟨rfl, hb⟩
    have hB14 : Below w.heap.size w w14 := hB13.trans (hb.mono hB13.size)
    have hi6 := hi6.belowV hb
    have hi8 := hi8.belowV hb
    have hi9 := hi9.belowV hb
    clear hb
    clear HSM
    clear hi9 HV9 hc9 hl9
    by_cases z6 : e6 = 0
    · have f6 : (e6 == 0) = true := by rw [beq_iff_eq]; exact z6
      have ga := Sa.out w14 hB14 p6 r6 c6 hl6 hc6 hi6
      rw [HV6.out, (HLO.out z6).1] at ga
      have GA := Lib.hid ga
      clear ga
      go_wp2_with fail
      refine (GA.out).mono ?_
      rintro e w15 ⟨rfl, hb⟩
      have hB15 : Below w.heap.size w w15 := hB14.trans (hb.mono hB14.size)
      have hi6 := hi6.belowV hb
      have hi8 := hi8.belowV hb
      clear hb
      have gb := Sb.out w15 hB15 p6 r6 c6 hl6 hc6 hi6
      rw [HV6.out, (HLO.out z6).2] at gb
      have GB := Lib.hid gb
      clear gb GA z6
      go_wp2_with fail
      refine (GB.out).mono ?_
      rintro e w16 ⟨rfl, hb⟩
      have hB16 : Below w.heap.size w w16 := hB15.trans (hb.mono hB15.size)
      have hi6 := hi6.belowV hb
      have hi8 := hi8.belowV hb
      clear hb
      clear GB
      by_cases z8 : e8 = 0
      · have f8 : (e8 == 0) = true := by rw [beq_iff_eq]; exact z8
        have gc := Sc.out w16 hB16 p8 r8 c8 hl8 hc8 hi8
        rw [HV8.out, (HHI.out z8).1] at gc
        have GC := Lib.hid gc
        clear gc
        go_wp2_with fail
        refine (GC.out).mono ?_
        rintro e w17 ⟨rfl, hb⟩
        have hB17 : Below w.heap.size w w17 := hB16.trans (hb.mono hB16.size)
        have hi6 := hi6.belowV hb
        have hi8 := hi8.belowV hb
        clear hb
        have gd := Sd.out w17 hB17 p8 r8 c8 hl8 hc8 hi8
        rw [HV8.out, (HHI.out z8).2] at gd
        have GD := Lib.hid gd
        clear gd GC z8
        go_wp2_with fail
        refine (GD.out).mono ?_
        rintro e w18 ⟨rfl, hb⟩
        have hB18 : Below w.heap.size w w18 := hB17.trans (hb.mono hB17.size)
        have hi6 := hi6.belowV hb
        have hi8 := hi8.belowV hb
        clear hb
        clear GD
        clear hi6 HV6 hc6 hl6 hi8 HV8 hc8 hl8
        go_wp2_with fail
        refine (S11.out _ hB18).mono ?_
        rintro e w19 ⟨p11, r11, c11, rfl, hv11, hc11, hj11, hi11, hb⟩
        have hB19 : Below w.heap.size w w19 := hB18.trans (hb.mono hB18.size)
        have HV11 := Lib.hid hv11
        have hl11 : r11.length ≤ 100000 := by rw [← vals_len, hv11]; first | omega | (rw [vals_len]; omega) | simp
        clear hv11 hj11
        clear hb
        go_wp2_with fail
        refine (S12.out _ hB19).mono ?_
        rintro e w20 ⟨p12, r12, c12, rfl, hv12, hc12, hj12, hi12, hb⟩
        have hB20 : Below w.heap.size w w20 := hB19.trans (hb.mono hB19.size)
        have HV12 := Lib.hid hv12
        have hl12 : r12.length ≤ 100000 := by rw [← vals_len, hv12]; first | omega | (rw [vals_len]; omega) | simp
        clear hv12 hj12
        have hi11 := hi11.belowV hb
        clear hb
        have HSM := Lib.hid (SameB_any p11 p r11 rs c11 c (HV11.out) (by omega) w20 hi11 (HX8.out _ hB20))
        go_wp2_with fail
        refine (HSM.out).mono ?_
        rintro e w21 ⟨rfl, hb⟩
        have hB21 : Below w.heap.size w w21 := hB20.trans (hb.mono hB20.size)
        have hi11 := hi11.belowV hb
        have hi12 := hi12.belowV hb
        clear hb
        clear HSM
        have HSM := Lib.hid (SameB_any p12 p r12 rs c12 c (HV12.out) (by omega) w21 hi12 (HX8.out _ hB21))
        go_wp2_with fail
        refine (HSM.out).mono ?_
        rintro e w22 ⟨rfl, hb⟩
        have hB22 : Below w.heap.size w w22 := hB21.trans (hb.mono hB21.size)
        have hi11 := hi11.belowV hb
        have hi12 := hi12.belowV hb
        clear hb
        clear HSM
        go_wp2_with fail
        refine (HW.out _).mono ?_
        rintro e w23 ⟨rfl, hb⟩
        go_wp2_with fail
        go_ret
        exact ⟨rfl, hB22.trans (hb.mono hB22.size)⟩
      · have f8 : (e8 == 0) = false := by rw [beq_eq_false_iff_ne]; exact z8
        clear z8
        clear hi6 HV6 hc6 hl6 hi8 HV8 hc8 hl8
        go_wp2_with fail
        refine (S11.out _ hB16).mono ?_
        rintro e w17 ⟨p11, r11, c11, rfl, hv11, hc11, hj11, hi11, hb⟩
        have hB17 : Below w.heap.size w w17 := hB16.trans (hb.mono hB16.size)
        have HV11 := Lib.hid hv11
        have hl11 : r11.length ≤ 100000 := by rw [← vals_len, hv11]; first | omega | (rw [vals_len]; omega) | simp
        clear hv11 hj11
        clear hb
        go_wp2_with fail
        refine (S12.out _ hB17).mono ?_
        rintro e w18 ⟨p12, r12, c12, rfl, hv12, hc12, hj12, hi12, hb⟩
        have hB18 : Below w.heap.size w w18 := hB17.trans (hb.mono hB17.size)
        have HV12 := Lib.hid hv12
        have hl12 : r12.length ≤ 100000 := by rw [← vals_len, hv12]; first | omega | (rw [vals_len]; omega) | simp
        clear hv12 hj12
        have hi11 := hi11.belowV hb
        clear hb
        have HSM := Lib.hid (SameB_any p11 p r11 rs c11 c (HV11.out) (by omega) w18 hi11 (HX8.out _ hB18))
        go_wp2_with fail
        refine (HSM.out).mono ?_
        rintro e w19 ⟨rfl, hb⟩
        have hB19 : Below w.heap.size w w19 := hB18.trans (hb.mono hB18.size)
        have hi11 := hi11.belowV hb
        have hi12 := hi12.belowV hb
        clear hb
        clear HSM
        have HSM := Lib.hid (SameB_any p12 p r12 rs c12 c (HV12.out) (by omega) w19 hi12 (HX8.out _ hB19))
        go_wp2_with fail
        refine (HSM.out).mono ?_
        rintro e w20 ⟨rfl, hb⟩
        have hB20 : Below w.heap.size w w20 := hB19.trans (hb.mono hB19.size)
        have hi11 := hi11.belowV hb
        have hi12 := hi12.belowV hb
        clear hb
        clear HSM
        go_wp2_with fail
        refine (HW.out _).mono ?_
        rintro e w21 ⟨rfl, hb⟩
        go_wp2_with fail
        go_ret
        exact ⟨rfl, hB20.trans (hb.mono hB20.size)⟩
    · have f6 : (e6 == 0) = false := by rw [beq_eq_false_iff_ne]; exact z6
      clear z6
      by_cases z8 : e8 = 0
      · have f8 : (e8 == 0) = true := by rw [beq_iff_eq]; exact z8
        have gc := Sc.out w14 hB14 p8 r8 c8 hl8 hc8 hi8
        rw [HV8.out, (HHI.out z8).1] at gc
        have GC := Lib.hid gc
        clear gc
        go_wp2_with fail
        refine (GC.out).mono ?_
        rintro e w15 ⟨rfl, hb⟩
        have hB15 : Below w.heap.size w w15 := hB14.trans (hb.mono hB14.size)
        have hi6 := hi6.belowV hb
        have hi8 := hi8.belowV hb
        clear hb
        have gd := Sd.out w15 hB15 p8 r8 c8 hl8 hc8 hi8
        rw [HV8.out, (HHI.out z8).2] at gd
        have GD := Lib.hid gd
        clear gd GC z8
        go_wp2_with fail
        refine (GD.out).mono ?_
        rintro e w16 ⟨rfl, hb⟩
        have hB16 : Below w.heap.size w w16 := hB15.trans (hb.mono hB15.size)
        have hi6 := hi6.belowV hb
        have hi8 := hi8.belowV hb
        clear hb
        clear GD
        clear hi6 HV6 hc6 hl6 hi8 HV8 hc8 hl8
        go_wp2_with fail
        refine (S11.out _ hB16).mono ?_
        rintro e w17 ⟨p11, r11, c11, rfl, hv11, hc11, hj11, hi11, hb⟩
        have hB17 : Below w.heap.size w w17 := hB16.trans (hb.mono hB16.size)
        have HV11 := Lib.hid hv11
        have hl11 : r11.length ≤ 100000 := by rw [← vals_len, hv11]; first | omega | (rw [vals_len]; omega) | simp
        clear hv11 hj11
        clear hb
        go_wp2_with fail
        refine (S12.out _ hB17).mono ?_
        rintro e w18 ⟨p12, r12, c12, rfl, hv12, hc12, hj12, hi12, hb⟩
        have hB18 : Below w.heap.size w w18 := hB17.trans (hb.mono hB17.size)
        have HV12 := Lib.hid hv12
        have hl12 : r12.length ≤ 100000 := by rw [← vals_len, hv12]; first | omega | (rw [vals_len]; omega) | simp
        clear hv12 hj12
        have hi11 := hi11.belowV hb
        clear hb
        have HSM := Lib.hid (SameB_any p11 p r11 rs c11 c (HV11.out) (by omega) w18 hi11 (HX8.out _ hB18))
        go_wp2_with fail
        refine (HSM.out).mono ?_
        rintro e w19 ⟨rfl, hb⟩
        have hB19 : Below w.heap.size w w19 := hB18.trans (hb.mono hB18.size)
        have hi11 := hi11.belowV hb
        have hi12 := hi12.belowV hb
        clear hb
        clear HSM
        have HSM := Lib.hid (SameB_any p12 p r12 rs c12 c (HV12.out) (by omega) w19 hi12 (HX8.out _ hB19))
        go_wp2_with fail
        refine (HSM.out).mono ?_
        rintro e w20 ⟨rfl, hb⟩
        have hB20 : Below w.heap.size w w20 := hB19.trans (hb.mono hB19.size)
        have hi11 := hi11.belowV hb
        have hi12 := hi12.belowV hb
        clear hb
        clear HSM
        go_wp2_with fail
        refine (HW.out _).mono ?_
        rintro e w21 ⟨rfl, hb⟩
        go_wp2_with fail
        go_ret
        exact ⟨rfl, hB20.trans (hb.mono hB20.size)⟩
      · have f8 : (e8 == 0) = false := by rw [beq_eq_false_iff_ne]; exact z8
        clear z8
        clear hi6 HV6 hc6 hl6 hi8 HV8 hc8 hl8
        go_wp2_with fail
        refine (S11.out _ hB14).mono ?_
        rintro e w15 ⟨p11, r11, c11, rfl, hv11, hc11, hj11, hi11, hb⟩
        have hB15 : Below w.heap.size w w15 := hB14.trans (hb.mono hB14.size)
        have HV11 := Lib.hid hv11
        have hl11 : r11.length ≤ 100000 := by rw [← vals_len, hv11]; first | omega | (rw [vals_len]; omega) | simp
        clear hv11 hj11
        clear hb
        go_wp2_with fail
        refine (S12.out _ hB15).mono ?_
        rintro e w16 ⟨p12, r12, c12, rfl, hv12, hc12, hj12, hi12, hb⟩
        have hB16 : Below w.heap.size w w16 := hB15.trans (hb.mono hB15.size)
        have HV12 := Lib.hid hv12
        have hl12 : r12.length ≤ 100000 := by rw [← vals_len, hv12]; first | omega | (rw [vals_len]; omega) | simp
        clear hv12 hj12
        have hi11 := hi11.belowV hb
        clear hb
        have HSM := Lib.hid (SameB_any p11 p r11 rs c11 c (HV11.out) (by omega) w16 hi11 (HX8.out _ hB16))
        go_wp2_with fail
        refine (HSM.out).mono ?_
        rintro e w17 ⟨rfl, hb⟩
        have hB17 : Below w.heap.size w w17 := hB16.trans (hb.mono hB16.size)
        have hi11 := hi11.belowV hb
        have hi12 := hi12.belowV hb
        clear hb
        clear HSM
        have HSM := Lib.hid (SameB_any p12 p r12 rs c12 c (HV12.out) (by omega) w17 hi12 (HX8.out _ hB17))
        go_wp2_with fail
        refine (HSM.out).mono ?_
        rintro e w18 ⟨rfl, hb⟩
        have hB18 : Below w.heap.size w w18 := hB17.trans (hb.mono hB17.size)
        have hi11 := hi11.belowV hb
        have hi12 := hi12.belowV hb
        clear hb
        clear HSM
        go_wp2_with fail
        refine (HW.out _).mono ?_
        rintro e w19 ⟨rfl, hb⟩
        go_wp2_with fail
        go_ret
        exact ⟨rfl, hB18.trans (hb.mono hB18.size)⟩

theorem walk (x y : BagV) (w : World) (hX : BagOK w x) (hxz : x.1 = none → x.2.2 = 0) (hY : BagOK w y) (hyz : y.1 = none → y.2.2 = 0) :
    Calls Try.prog 6 #[bagv x, bagv y] w fun e w' => e = .returned (.bool true) ∧ Below w.heap.size w w' := by
  cases q1 : validBag (vals x.2.1) with
  | false => exact walkNo x y w hX hxz hY hyz q1
  | true => exact walkYes x y w hX hxz hY hyz q1

set_option maxRecDepth 100000 in
theorem lifted (os : Os) (started : os.Started) (H : Type) (enc : TypeId × Value → H) :
    ReturnsInHanded {} Try.checked os 6 .any (Rows.bagLatticeSpec.pre6 enc Try.prog Try.f6 Rows.bagLatticeRow.domain false) (Rows.bagLatticeSpec.post enc Try.prog Try.f6 false true false false) := by
  refine returnsInHanded_of_change (C := Try.checked) own started (by kernel_rfl) Try.func6
    (ChangeSpec.witness6 (enc := enc) (C := Try.checked) false ⟨#[], #[.slice none 0 0, .slice none 0 0], []⟩ 8 (by kernel_rfl) (by kernel_rfl) (by kernel_rfl) (by kernel_rfl)) ?_
  intro W base args ds gs before hval0 hW hcnd _
  have hval : ∀ (j : Nat) t v, Try.f6.params[j]? = some t → args[j]? = some v → Value.okWide Try.prog W .any base t v := hval0
  have hW' := hW
  obtain ⟨p, q, hA0, hV, rfl, hfz, hnd⟩ := hW
  have hA : DataW.TrodAll enc Try.prog W 0 (fun _ => true) true Try.f6.params.toList args.toList ds p := hA0
  rw [Try.params6] at hA hval
  obtain ⟨rfl, rfl⟩ := trodVars_none hV
  have hA' := hA
  obtain ⟨v0, vs0, d0, ds0, p0, q0, hargs, rfl, rfl, h0, r0⟩ := trodAll_cons hA
  obtain ⟨v1, vs1, d1, ds1, p1, q1, rfl, rfl, rfl, h1, r1⟩ := trodAll_cons r0
  obtain ⟨rfl, rfl, rfl⟩ := trodAll_nil r1
  obtain rfl : args = #[v0, v1] := by cases args; simp_all
  obtain ⟨x, rfl, hX, hxz⟩ := open_bag (hval 0 _ v0 rfl rfl) h0
  obtain ⟨y, rfl, hY, hyz⟩ := open_bag (hval 1 _ v1 rfl rfl) h1
  clear hA0 hval0
  refine (walk x y W hX hxz hY hyz).mono fun e W' ⟨he, hg⟩ => ?_
  subst he
  exact ⟨_, rfl, _, _, _, [], _, [], hW', trodAll_mk1 (shut_bool Try.underlying4 true), trodAll_below laidOut hg (by decide +kernel) hA' (fun x hx => by simpa using hW'.lt x (by simpa using hx)), rfl, hg.frame _, fun h => by cases h⟩

theorem over : Rows.bagLatticeRow.holds Try.pinned (OpenSpec.ofChange Rows.bagLatticeSpec) :=
  OpenClaim.holds_of_wide 6 Try.f6 rfl rfl rfl rfl rfl rfl rfl ⟨rfl, rfl, rfl, rfl, rfl⟩ rfl rfl rfl rfl rfl (by kernel_rfl) Try.func6 (by kernel_rfl)
    (of_decide_eq_true (by kernel_rfl)) (by unfold Func.isWrapper; first | (rw [if_pos (by decide +kernel)]; kernel_rfl) | (rw [if_neg (by decide +kernel)]; exact ⟨rfl, rfl⟩))
    (fun os started H enc _ => lifted os started H enc)

theorem proved : Rows.BagLatticeSaid :=
  over
#print axioms proved
end Go.Proofs.Ytcpbdbhpflgkcaa.bagLattice
