/-
  RowTexts: what its own walk leaves.
-/
import Derived.Test.YtmjobnakaamlpaaDoorRk
import Derived.Test.YtmjobnakaamlpaaDoorRl
import Derived.Test.YtmjobnakaamlpaaDoorAw
namespace Go.Proofs.YtmjobnakaamlpaaDoor.rowTexts
open Go.ChangeShapes Go.WideShapes Go.ChangeAt Go.RowKit
set_option linter.unusedSimpArgs false
set_option linter.unusedVariables false

/-- What the law calls, wherever it does. -/
structure Env2 (p q : Option Addr) (xs ys : List Val) (c d : Nat) (w : World) : Prop where
  lng : Calls Tryd.prog 5 #[.slice (some ⟨w.heap.size, 0, none⟩) 2 2] (w.alloc (.cells #[.slice p xs.length c, .slice q ys.length d] 23)) (SomeBool (w.alloc (.cells #[.slice p xs.length c, .slice q ys.length d] 23)))
  t1 : ∀ W, Below w.heap.size w W → Calls Tryd.prog 7 #[.slice p xs.length c] W (TextPost W (textOf xs))
  t2 : ∀ W, Below w.heap.size w W → Calls Tryd.prog 7 #[.slice q ys.length d] W (TextPost W (textOf ys))
  u1 : ∀ W, Below w.heap.size w W → Calls Tryd.prog 8 #[.slice p xs.length c] W (TextPost W (textOf xs))
  u2 : ∀ W, Below w.heap.size w W → Calls Tryd.prog 8 #[.slice q ys.length d] W (TextPost W (textOf ys))
  v1 : ∀ W, Below w.heap.size w W → Calls Tryd.prog 9 #[.slice p xs.length c] W fun e w' => e = .returned (.bool (validRow xs)) ∧ Below W.heap.size W w'
  v2 : ∀ W, Below w.heap.size w W → Calls Tryd.prog 9 #[.slice q ys.length d] W fun e w' => e = .returned (.bool (validRow ys)) ∧ Below W.heap.size W w'
  aw : ∀ W, Below w.heap.size w W → Calls Tryd.prog 6 #[] W fun e w' => e = .returned (.bool true) ∧ Below W.heap.size W w'

set_option maxRecDepth 100000 in
set_option maxHeartbeats 4000000 in
theorem walk_inv1 (p q : Option Addr) (xs ys : List Val) (c d : Nat) (w : World) (hen : Env2 p q xs ys c d w) (h1 : validRow xs = false) :
    Calls Tryd.prog 3 #[.slice p xs.length c, .slice q ys.length d] w fun e w' => e = .returned (.bool true) ∧ Below w.heap.size w w' := by
  have HEN := Lib.hid hen
  have HB0 := Lib.hid (show Below w.heap.size w (w.alloc (.cells #[.slice p xs.length c, .slice q ys.length d] 23)) from (Below.refl _ _).alloc (Nat.le_refl _) _)
  have HL := Lib.hid hen.lng
  have HT1 := Lib.hid hen.t1
  have HT2 := Lib.hid hen.t2
  have HU1 := Lib.hid hen.u1
  have HU2 := Lib.hid hen.u2
  have HV1 := Lib.hid hen.v1
  have HV2 := Lib.hid hen.v2
  clear hen
  rw [h1] at HV1
  clear h1
  unfold TextPost at HT1 HT2 HU1 HU2
  go_enter Tryd.func3, Tryd.ntmps3
  go_wp2_with fail
  refine HL.out.mono ?_
  rintro e w1 ⟨b, rfl, hw⟩
  have HB1 := Lib.hid (show Below w.heap.size w w1 from hw ▸ HB0.out)
  clear hw HL
  cases b with
  | true =>
    go_wp2_with fail
    refine (HEN.out.aw _ HB1.out).mono ?_
    rintro e w2 ⟨rfl, k2⟩
    have HF := Lib.hid (HB1.out.trans (k2.mono HB1.out.size))
    clear k2
    go_wp2_with fail
    go_ret
    exact ⟨rfl, HF.out⟩
  | false =>
    go_wp2_with fail
    refine (HT1.out _ HB1.out).mono ?_
    rintro e w2 ⟨rfl, k2⟩
    have HB2 := Lib.hid (HB1.out.trans (k2.mono HB1.out.size))
    clear k2
    go_wp2_with fail
    refine (HT2.out _ HB2.out).mono ?_
    rintro e w3 ⟨rfl, k3⟩
    have HB3 := Lib.hid (HB2.out.trans (k3.mono HB2.out.size))
    clear k3
    go_wp2_with fail
    refine (HU1.out _ HB3.out).mono ?_
    rintro e w4 ⟨rfl, k4⟩
    have HB4 := Lib.hid (HB3.out.trans (k4.mono HB3.out.size))
    clear k4
    go_wp2_with fail
    refine (HU2.out _ HB4.out).mono ?_
    rintro e w5 ⟨rfl, k5⟩
    have HB5 := Lib.hid (HB4.out.trans (k5.mono HB4.out.size))
    clear k5
    go_wp2_with fail
    refine (HV1.out _ HB5.out).mono ?_
    rintro e w6 ⟨rfl, k6⟩
    have HB6 := Lib.hid (HB5.out.trans (k6.mono HB5.out.size))
    clear k6
    go_wp2_with fail
    refine (HEN.out.aw _ HB6.out).mono ?_
    rintro e w7 ⟨rfl, k7⟩
    have HF := Lib.hid (HB6.out.trans (k7.mono HB6.out.size))
    clear k7
    go_wp2_with fail
    go_ret
    exact ⟨rfl, HF.out⟩

set_option maxRecDepth 100000 in
set_option maxHeartbeats 4000000 in
theorem walk_inv2 (p q : Option Addr) (xs ys : List Val) (c d : Nat) (w : World) (hen : Env2 p q xs ys c d w) (h1 : validRow xs = true) (h2 : validRow ys = false) :
    Calls Tryd.prog 3 #[.slice p xs.length c, .slice q ys.length d] w fun e w' => e = .returned (.bool true) ∧ Below w.heap.size w w' := by
  have HEN := Lib.hid hen
  have HB0 := Lib.hid (show Below w.heap.size w (w.alloc (.cells #[.slice p xs.length c, .slice q ys.length d] 23)) from (Below.refl _ _).alloc (Nat.le_refl _) _)
  have HL := Lib.hid hen.lng
  have HT1 := Lib.hid hen.t1
  have HT2 := Lib.hid hen.t2
  have HU1 := Lib.hid hen.u1
  have HU2 := Lib.hid hen.u2
  have HV1 := Lib.hid hen.v1
  have HV2 := Lib.hid hen.v2
  clear hen
  rw [h1] at HV1
  rw [h2] at HV2
  clear h1 h2
  unfold TextPost at HT1 HT2 HU1 HU2
  go_enter Tryd.func3, Tryd.ntmps3
  go_wp2_with fail
  refine HL.out.mono ?_
  rintro e w1 ⟨b, rfl, hw⟩
  have HB1 := Lib.hid (show Below w.heap.size w w1 from hw ▸ HB0.out)
  clear hw HL
  cases b with
  | true =>
    go_wp2_with fail
    refine (HEN.out.aw _ HB1.out).mono ?_
    rintro e w2 ⟨rfl, k2⟩
    have HF := Lib.hid (HB1.out.trans (k2.mono HB1.out.size))
    clear k2
    go_wp2_with fail
    go_ret
    exact ⟨rfl, HF.out⟩
  | false =>
    go_wp2_with fail
    refine (HT1.out _ HB1.out).mono ?_
    rintro e w2 ⟨rfl, k2⟩
    have HB2 := Lib.hid (HB1.out.trans (k2.mono HB1.out.size))
    clear k2
    go_wp2_with fail
    refine (HT2.out _ HB2.out).mono ?_
    rintro e w3 ⟨rfl, k3⟩
    have HB3 := Lib.hid (HB2.out.trans (k3.mono HB2.out.size))
    clear k3
    go_wp2_with fail
    refine (HU1.out _ HB3.out).mono ?_
    rintro e w4 ⟨rfl, k4⟩
    have HB4 := Lib.hid (HB3.out.trans (k4.mono HB3.out.size))
    clear k4
    go_wp2_with fail
    refine (HU2.out _ HB4.out).mono ?_
    rintro e w5 ⟨rfl, k5⟩
    have HB5 := Lib.hid (HB4.out.trans (k5.mono HB4.out.size))
    clear k5
    go_wp2_with fail
    refine (HV1.out _ HB5.out).mono ?_
    rintro e w6 ⟨rfl, k6⟩
    have HB6 := Lib.hid (HB5.out.trans (k6.mono HB5.out.size))
    clear k6
    go_wp2_with fail
    refine (HV2.out _ HB6.out).mono ?_
    rintro e w7 ⟨rfl, k7⟩
    have HB7 := Lib.hid (HB6.out.trans (k7.mono HB6.out.size))
    clear k7
    go_wp2_with fail
    refine (HEN.out.aw _ HB7.out).mono ?_
    rintro e w8 ⟨rfl, k8⟩
    have HF := Lib.hid (HB7.out.trans (k8.mono HB7.out.size))
    clear k8
    go_wp2_with fail
    go_ret
    exact ⟨rfl, HF.out⟩

set_option maxRecDepth 100000 in
set_option maxHeartbeats 4000000 in
theorem walk_same (p q : Option Addr) (xs ys : List Val) (c d : Nat) (w : World) (hen : Env2 p q xs ys c d w) (h1 : validRow xs = true) (h2 : validRow ys = true) (hP : ∀ W, Below w.heap.size w W → Calls Tryd.prog 10 #[.string ⟨(textOf xs).toArray⟩] W (PostR W xs)) (hX : ∀ W, Below w.heap.size w W → ValsIn W p xs) (hY : ∀ W, Below w.heap.size w W → ValsIn W q ys) (hm : xs.length ≤ 9223372036854775807 ∧ ys.length ≤ 9223372036854775807) (he : xs = ys) :
    Calls Tryd.prog 3 #[.slice p xs.length c, .slice q ys.length d] w fun e w' => e = .returned (.bool true) ∧ Below w.heap.size w w' := by
  have HEN := Lib.hid hen
  have HB0 := Lib.hid (show Below w.heap.size w (w.alloc (.cells #[.slice p xs.length c, .slice q ys.length d] 23)) from (Below.refl _ _).alloc (Nat.le_refl _) _)
  have HL := Lib.hid hen.lng
  have HT1 := Lib.hid hen.t1
  have HT2 := Lib.hid hen.t2
  have HU1 := Lib.hid hen.u1
  have HU2 := Lib.hid hen.u2
  have HV1 := Lib.hid hen.v1
  have HV2 := Lib.hid hen.v2
  clear hen
  rw [h1] at HV1
  rw [h2] at HV2
  have HP := Lib.hid hP
  have HX := Lib.hid hX
  have HY := Lib.hid hY
  have HM := Lib.hid hm
  have HSM := Lib.hid he
  have hst : ((⟨(textOf xs).toArray⟩ : ByteArray).toList == (⟨(textOf ys).toArray⟩ : ByteArray).toList) = true := by rw [he]; simp
  have hst2 : (⟨(textOf xs).toArray⟩ : ByteArray).toList = (⟨(textOf ys).toArray⟩ : ByteArray).toList := by rw [he]
  unfold TextPost at HT1 HT2 HU1 HU2
  generalize (⟨(textOf xs).toArray⟩ : ByteArray) = ta at HT1 HU1 HP hst hst2
  generalize (⟨(textOf ys).toArray⟩ : ByteArray) = tb at HT2 HU2 hst hst2
  clear h1 h2 hP hX hY hm he
  go_enter Tryd.func3, Tryd.ntmps3
  go_wp2_with fail
  refine HL.out.mono ?_
  rintro e w1 ⟨b, rfl, hw⟩
  have HB1 := Lib.hid (show Below w.heap.size w w1 from hw ▸ HB0.out)
  clear hw HL
  cases b with
  | true =>
    go_wp2_with fail
    refine (HEN.out.aw _ HB1.out).mono ?_
    rintro e w2 ⟨rfl, k2⟩
    have HF := Lib.hid (HB1.out.trans (k2.mono HB1.out.size))
    clear k2
    go_wp2_with fail
    go_ret
    exact ⟨rfl, HF.out⟩
  | false =>
    go_wp2_with fail
    refine (HT1.out _ HB1.out).mono ?_
    rintro e w2 ⟨rfl, k2⟩
    have HB2 := Lib.hid (HB1.out.trans (k2.mono HB1.out.size))
    clear k2
    go_wp2_with fail
    refine (HT2.out _ HB2.out).mono ?_
    rintro e w3 ⟨rfl, k3⟩
    have HB3 := Lib.hid (HB2.out.trans (k3.mono HB2.out.size))
    clear k3
    go_wp2_with fail
    refine (HU1.out _ HB3.out).mono ?_
    rintro e w4 ⟨rfl, k4⟩
    have HB4 := Lib.hid (HB3.out.trans (k4.mono HB3.out.size))
    clear k4
    go_wp2_with fail
    refine (HU2.out _ HB4.out).mono ?_
    rintro e w5 ⟨rfl, k5⟩
    have HB5 := Lib.hid (HB4.out.trans (k5.mono HB4.out.size))
    clear k5
    go_wp2_with fail
    refine (HV1.out _ HB5.out).mono ?_
    rintro e w6 ⟨rfl, k6⟩
    have HB6 := Lib.hid (HB5.out.trans (k6.mono HB5.out.size))
    clear k6
    go_wp2_with fail
    refine (HV2.out _ HB6.out).mono ?_
    rintro e w7 ⟨rfl, k7⟩
    have HB7 := Lib.hid (HB6.out.trans (k7.mono HB6.out.size))
    clear k7
    go_wp2_with fail
    refine (HP.out _ HB7.out).mono ?_
    rintro e w8 ⟨v, rfl, o8, k8⟩
    have HB8 := Lib.hid (HB7.out.trans (k8.mono HB7.out.size))
    obtain ⟨q8, c8, rfl⟩ := slice_of_owns o8
    have HS1 := Lib.hid (Same_any q8 p xs c8 c xs.length rfl HM.out.1 w8 (valsIn_of_owns o8) (HX.out _ HB8.out))
    clear k8 o8 HP
    go_wp2_with fail
    refine HS1.out.mono ?_
    rintro e w9 ⟨rfl, k9⟩
    have HB9 := Lib.hid (HB8.out.trans (k9.mono HB8.out.size))
    clear k9 HS1
    have HS2 := Lib.hid (Same_any p q xs c d ys.length (congrArg List.length HSM.out).symm HM.out.1 w9 (HX.out _ HB9.out) (by have hy := HY.out _ HB9.out; rw [HSM.out]; exact hy))
    go_wp2_with fail
    refine HS2.out.mono ?_
    rintro e w10 ⟨rfl, k10⟩
    have HB10 := Lib.hid (HB9.out.trans (k10.mono HB9.out.size))
    clear k10 HS2
    go_wp2_with fail
    refine (HEN.out.aw _ HB10.out).mono ?_
    rintro e w11 ⟨rfl, k11⟩
    have HF := Lib.hid (HB10.out.trans (k11.mono HB10.out.size))
    clear k11
    go_wp2_with fail
    go_ret
    exact ⟨rfl, HF.out⟩

set_option maxRecDepth 100000 in
set_option maxHeartbeats 4000000 in
theorem walk_diff (p q : Option Addr) (xs ys : List Val) (c d : Nat) (w : World) (hen : Env2 p q xs ys c d w) (h1 : validRow xs = true) (h2 : validRow ys = true) (hP : ∀ W, Below w.heap.size w W → Calls Tryd.prog 10 #[.string ⟨(textOf xs).toArray⟩] W (PostR W xs)) (hX : ∀ W, Below w.heap.size w W → ValsIn W p xs) (hY : ∀ W, Below w.heap.size w W → ValsIn W q ys) (hm : xs.length ≤ 9223372036854775807 ∧ ys.length ≤ 9223372036854775807) (he : xs ≠ ys) (ht : textOf xs ≠ textOf ys) :
    Calls Tryd.prog 3 #[.slice p xs.length c, .slice q ys.length d] w fun e w' => e = .returned (.bool true) ∧ Below w.heap.size w w' := by
  have HEN := Lib.hid hen
  have HB0 := Lib.hid (show Below w.heap.size w (w.alloc (.cells #[.slice p xs.length c, .slice q ys.length d] 23)) from (Below.refl _ _).alloc (Nat.le_refl _) _)
  have HL := Lib.hid hen.lng
  have HT1 := Lib.hid hen.t1
  have HT2 := Lib.hid hen.t2
  have HU1 := Lib.hid hen.u1
  have HU2 := Lib.hid hen.u2
  have HV1 := Lib.hid hen.v1
  have HV2 := Lib.hid hen.v2
  clear hen
  rw [h1] at HV1
  rw [h2] at HV2
  have HP := Lib.hid hP
  have HX := Lib.hid hX
  have HY := Lib.hid hY
  have HM := Lib.hid hm
  have HSM := Lib.hid he
  have hst2 : ¬ (⟨(textOf xs).toArray⟩ : ByteArray).toList = (⟨(textOf ys).toArray⟩ : ByteArray).toList := by rw [ByteArray.toList_eq, ByteArray.toList_eq]; exact ht
  have hst : ((⟨(textOf xs).toArray⟩ : ByteArray).toList == (⟨(textOf ys).toArray⟩ : ByteArray).toList) = false := by rw [beq_eq_false_iff_ne]; exact hst2
  unfold TextPost at HT1 HT2 HU1 HU2
  generalize (⟨(textOf xs).toArray⟩ : ByteArray) = ta at HT1 HU1 HP hst hst2
  generalize (⟨(textOf ys).toArray⟩ : ByteArray) = tb at HT2 HU2 hst hst2
  clear h1 h2 hP hX hY hm he ht
  go_enter Tryd.func3, Tryd.ntmps3
  go_wp2_with fail
  refine HL.out.mono ?_
  rintro e w1 ⟨b, rfl, hw⟩
  have HB1 := Lib.hid (show Below w.heap.size w w1 from hw ▸ HB0.out)
  clear hw HL
  cases b with
  | true =>
    go_wp2_with fail
    refine (HEN.out.aw _ HB1.out).mono ?_
    rintro e w2 ⟨rfl, k2⟩
    have HF := Lib.hid (HB1.out.trans (k2.mono HB1.out.size))
    clear k2
    go_wp2_with fail
    go_ret
    exact ⟨rfl, HF.out⟩
  | false =>
    go_wp2_with fail
    refine (HT1.out _ HB1.out).mono ?_
    rintro e w2 ⟨rfl, k2⟩
    have HB2 := Lib.hid (HB1.out.trans (k2.mono HB1.out.size))
    clear k2
    go_wp2_with fail
    refine (HT2.out _ HB2.out).mono ?_
    rintro e w3 ⟨rfl, k3⟩
    have HB3 := Lib.hid (HB2.out.trans (k3.mono HB2.out.size))
    clear k3
    go_wp2_with fail
    refine (HU1.out _ HB3.out).mono ?_
    rintro e w4 ⟨rfl, k4⟩
    have HB4 := Lib.hid (HB3.out.trans (k4.mono HB3.out.size))
    clear k4
    go_wp2_with fail
    refine (HU2.out _ HB4.out).mono ?_
    rintro e w5 ⟨rfl, k5⟩
    have HB5 := Lib.hid (HB4.out.trans (k5.mono HB4.out.size))
    clear k5
    go_wp2_with fail
    refine (HV1.out _ HB5.out).mono ?_
    rintro e w6 ⟨rfl, k6⟩
    have HB6 := Lib.hid (HB5.out.trans (k6.mono HB5.out.size))
    clear k6
    go_wp2_with fail
    refine (HV2.out _ HB6.out).mono ?_
    rintro e w7 ⟨rfl, k7⟩
    have HB7 := Lib.hid (HB6.out.trans (k7.mono HB6.out.size))
    clear k7
    go_wp2_with fail
    refine (HP.out _ HB7.out).mono ?_
    rintro e w8 ⟨v, rfl, o8, k8⟩
    have HB8 := Lib.hid (HB7.out.trans (k8.mono HB7.out.size))
    obtain ⟨q8, c8, rfl⟩ := slice_of_owns o8
    have HS1 := Lib.hid (Same_any q8 p xs c8 c xs.length rfl HM.out.1 w8 (valsIn_of_owns o8) (HX.out _ HB8.out))
    clear k8 o8 HP
    go_wp2_with fail
    refine HS1.out.mono ?_
    rintro e w9 ⟨rfl, k9⟩
    have HB9 := Lib.hid (HB8.out.trans (k9.mono HB8.out.size))
    clear k9 HS1
    have HS2 := Lib.hid (SameN_any p q xs ys c d HSM.out HM.out.1 w9 (HX.out _ HB9.out) (HY.out _ HB9.out))
    go_wp2_with fail
    refine HS2.out.mono ?_
    rintro e w10 ⟨rfl, k10⟩
    have HB10 := Lib.hid (HB9.out.trans (k10.mono HB9.out.size))
    clear k10 HS2
    go_wp2_with fail
    refine (HEN.out.aw _ HB10.out).mono ?_
    rintro e w11 ⟨rfl, k11⟩
    have HF := Lib.hid (HB10.out.trans (k11.mono HB10.out.size))
    clear k11
    go_wp2_with fail
    go_ret
    exact ⟨rfl, HF.out⟩

theorem env2 (p q : Option Addr) (xs ys : List Val) (c d : Nat) (hmx : xs.length ≤ 9223372036854775807) (hmy : ys.length ≤ 9223372036854775807) (w : World) (hX : ValsIn w p xs) (hY : ValsIn w q ys) (hT : Tab w.heap.size w) : Env2 p q xs ys c d w := by
  have hbA : Below w.heap.size w (w.alloc (.cells #[.slice p xs.length c, .slice q ys.length d] 23)) := (Below.refl _ _).alloc (Nat.le_refl _) _
  have hlong := Long_any (some ⟨w.heap.size, 0, none⟩) [(p, xs, c), (q, ys, d)] 2 (by simp) _ (fun _ => ⟨w.heap.size, 0, rfl, by simp, fun i hi => by
    have hb := Blk.new w 23 #[.slice p xs.length c, .slice q ys.length d]
    have hi3 : i = 0 ∨ i = 1 := by simp at hi; omega
    rcases hi3 with rfl | rfl
    · exact ⟨hb.cell 0, hmx, hX.belowV hbA⟩
    · exact ⟨hb.cell 1, hmy, hY.belowV hbA⟩⟩ : RowsIn (w.alloc (.cells #[.slice p xs.length c, .slice q ys.length d] 23)) (some ⟨w.heap.size, 0, none⟩) [(p, xs, c), (q, ys, d)])
  have hTB : ∀ W, Below w.heap.size w W → Tab W.heap.size W := fun W h => (hT.onT h).up (Below.refl _ _) h.size
  exact ⟨hlong, fun W h => rowText_any p xs c W (hX.belowV h) (hTB W h), fun W h => rowText_any q ys d W (hY.belowV h) (hTB W h), fun W h => refText_any p xs c hmx W (hX.belowV h) (hTB W h), fun W h => refText_any q ys d hmy W (hY.belowV h) (hTB W h), fun W h => refValid_any p xs c hmx W (hX.belowV h), fun W h => refValid_any q ys d hmy W (hY.belowV h), fun W h => awake_any W (hTB W h)⟩
theorem walk (p q : Option Addr) (xs ys : List Val) (c d : Nat) (hmx : xs.length ≤ 9223372036854775807) (hmy : ys.length ≤ 9223372036854775807) (w : World) (hX : ValsIn w p xs) (hY : ValsIn w q ys) (hE : Env w.heap.size w) :
    Calls Tryd.prog 3 #[.slice p xs.length c, .slice q ys.length d] w fun e w' => e = .returned (.bool true) ∧ Below w.heap.size w w' := by
  have hen := env2 p q xs ys c d hmx hmy w hX hY hE.tab
  cases h1 : validRow xs with
  | false => exact walk_inv1 p q xs ys c d w hen h1
  | true =>
    cases h2 : validRow ys with
    | false => exact walk_inv2 p q xs ys c d w hen h1 h2
    | true =>
      have e1 : textOf xs = textR xs := by unfold textOf; rw [h1]; rfl
      have e2 : textOf ys = textR ys := by unfold textOf; rw [h2]; rfl
      have hP : ∀ W, Below w.heap.size w W → Calls Tryd.prog 10 #[.string ⟨(textOf xs).toArray⟩] W (PostR W xs) := fun W h => by
        rw [e1]
        exact rowParse_good xs h1 W ((hE.on h).up h.size)
      by_cases he : xs = ys
      · exact walk_same p q xs ys c d w hen h1 h2 hP (fun W h => hX.belowV h) (fun W h => hY.belowV h) ⟨hmx, hmy⟩ he
      · exact walk_diff p q xs ys c d w hen h1 h2 hP (fun W h => hX.belowV h) (fun W h => hY.belowV h) ⟨hmx, hmy⟩ he (fun e => he (textR_inj h1 h2 (by rw [← e1, ← e2]; exact e)))
end Go.Proofs.YtmjobnakaamlpaaDoor.rowTexts
