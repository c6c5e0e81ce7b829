/-
  Text of the document's own rows, as a contract.
-/
import Derived.Test.YtledgnolmiecfaaGreatDoorRefQuote
import Derived.Test.YtledgnolmiecfaaGreatDoorText
import Derived.Lib.ItoaMem
import Derived.Lib.ItoaLen
import Derived.LoopTactic
namespace Go.Proofs.YtledgnolmiecfaaGreatDoor
open Go.RowKit
set_option linter.unusedSimpArgs false
set_option linter.unusedVariables false

theorem below_growT {B : Nat} {a w : World} (h : Below B a w) (hB : B ≤ w.heap.size) (os : Array Obj) : Below B a (Go.Sort.grow w os) :=
  ⟨h.os, h.tape, h.output, by have := h.size; simp [Go.Sort.grow]; omega, fun i hi => by
    have := h.block i hi
    rw [← this]
    simp only [Go.Sort.grow]
    rw [Array.getElem?_append_left (by omega)]⟩
theorem itoa_any (n : Int) (h0 : -9223372036854775808 ≤ n) (h1 : n ≤ 9223372036854775807) (B : Nat) (w : World) (hT : Tab B w) :
    Calls Tryz.prog 19 #[.int .i64 n] w fun e w' => e = .returned (.string ⟨(Lib.itoa n).toArray⟩) ∧ Below w.heap.size w w' :=
  (Tryz.strconv_Itoa n h0 h1 w hT.here).mono fun e w' ⟨he, k, os, hw⟩ => ⟨he, by
    subst hw
    exact below_growT (show Below w.heap.size w (w.drewN k) from ⟨rfl, rfl, rfl, Nat.le_refl _, fun _ _ => rfl⟩) (Nat.le_refl _) os⟩
theorem Tab.onT {B : Nat} {w w1 : World} (h : Tab B w) (k : Below B w w1) : Tab B w1 := fun w' hb => h w' (k.trans hb)

set_option maxRecDepth 100000 in
set_option maxHeartbeats 1000000 in
theorem textOfV_any (x0 x1 : Int) (x2 : ByteArray) (hv : validV x0 x1 x2 = true) (w : World) (hT : Tab w.heap.size w) :
    Calls Tryz.prog 35 #[.agg #[.int .i64 x0, .int .i64 x1, .string x2]] w (TextPost w (textV (x0, x1, x2))) := by
  have hv' : validP x0 x1 x2 := of_decide_eq_true hv
  have hN : Below w.heap.size w (w.alloc (.cells #[.int .i64 x0, .int .i64 x1, .string x2] 40)) := (Below.refl _ _).alloc (Nat.le_refl _) _
  have HB := Lib.hid hN
  have HTN := Lib.hid (hT.onT hN)
  have hk := Blk.new w 40 #[.int .i64 x0, .int .i64 x1, .string x2]
  have c0 := hk.cell 0
  have c1 := hk.cell 1
  have c2 := hk.cell 2
  simp only [List.getElem?_toArray, List.getElem?_cons_zero, List.getElem?_cons_succ] at c0 c1 c2
  generalize hw1 : w.alloc (.cells #[.int .i64 x0, .int .i64 x1, .string x2] 40) = w1 at HB HTN c0 c1 c2
  have hsz : w.heap.size ≤ w1.heap.size := HB.out.size
  clear hk hN hT hv
  rcases hv' with ⟨rfl, rfl, _⟩ | ⟨rfl, _, h1, h2⟩ | ⟨rfl, rfl, h2⟩
  · go_enter Tryz.func35, Tryz.ntmps35
    go_wp2_with fail
    go_ret
    exact ⟨rfl, HB.out⟩
  · have HI := Lib.hid (itoa_any x1 (by omega) (by omega) w.heap.size w1 HTN.out)
    rw [show textV (1, x1, x2) = Lib.itoa x1 from rfl]
    clear h1 h2
    go_enter Tryz.func35, Tryz.ntmps35
    go_wp2_with fail
    refine HI.out.mono ?_
    rintro e w2 ⟨rfl, k2⟩
    have HF := Lib.hid (HB.out.trans (k2.mono HB.out.size))
    clear k2
    go_wp2_with fail
    go_ret
    exact ⟨rfl, HF.out⟩
  · have HI := Lib.hid (refQuoted_any x2 (by omega) w1)
    rw [show textV (2, 0, x2) = quoted x2.data.toList from rfl]
    unfold bs at HI
    clear h2
    go_enter Tryz.func35, Tryz.ntmps35
    go_wp2_with fail
    refine HI.out.mono ?_
    rintro e w2 ⟨rfl, k2⟩
    have HF := Lib.hid (HB.out.trans (k2.mono HB.out.size))
    clear k2
    go_wp2_with fail
    go_ret
    exact ⟨rfl, HF.out⟩
theorem textV_lenR {x0 x1 : Int} {x2 : ByteArray} (hv : validV x0 x1 x2 = true) : (textV (x0, x1, x2)).length ≤ 802 := by
  have hv' : validP x0 x1 x2 := of_decide_eq_true hv
  rcases hv' with ⟨rfl, rfl, _⟩ | ⟨rfl, _, h1, h2⟩ | ⟨rfl, rfl, h2⟩
  · exact (by decide : ([126] : List UInt8).length ≤ 802)
  · have := Lib.itoa_length_le x1 (by omega) (by omega)
    show (Lib.itoa x1).length ≤ 802
    omega
  · show (quoted x2.data.toList).length ≤ 802
    unfold quoted
    have h1 := flat_len x2.data.toList
    have h3 : x2.data.toList.length = x2.size := by simp
    simp only [List.length_cons, List.length_append, List.length_nil]
    omega

set_option maxRecDepth 100000 in
set_option maxHeartbeats 2000000 in
theorem refText_any (p : Option Addr) (xs : List Val) (cap : Nat) (hm : xs.length ≤ 9223372036854775807) (w : World) (hX : ValsIn w p xs) (hT : Tab w.heap.size w) :
    Calls Tryz.prog 20 #[.slice p xs.length cap] w (TextPost w (textOf xs)) := by
  have HV := Lib.hid (refValid_any p xs cap hm w hX)
  cases hq : validRow xs with
  | false =>
    rw [hq] at HV
    rw [show textOf xs = [] by unfold textOf; rw [hq]; rfl]
    clear hX hT hq
    go_enter Tryz.func20, Tryz.ntmps20
    go_wp2_with fail
    refine HV.out.mono ?_
    rintro e w1 ⟨rfl, k1⟩
    have HF := Lib.hid k1
    clear k1
    go_wp2_with fail
    go_ret
    exact ⟨rfl, HF.out⟩
  | true =>
    rw [hq] at HV
    rw [show textOf xs = textR xs by unfold textOf; rw [hq]; rfl]
    have h8 : xs.length ≤ 8 ∧ validVs xs = true := by
      unfold validRow at hq
      rw [Bool.and_eq_true, decide_eq_true_iff] at hq
      exact hq
    obtain ⟨h8, hvs⟩ := h8
    have HX := Lib.hid hX
    have HT := Lib.hid hT
    have HVS := Lib.hid hvs
    clear hX hT hq hvs
    go_enter Tryz.func20, Tryz.ntmps20
    go_wp2_with fail
    refine HV.out.mono ?_
    rintro e w1 ⟨rfl, k1⟩
    have HB1 := Lib.hid k1
    clear k1 HV
    go_wp2_with fail
    go_loopw [3, 4] (fun o s wr => ∃ (i : Nat) (t : ByteArray), o = .string t ∧ s = .int .i64 i ∧ i ≤ xs.length ∧ t.size ≤ 803 * i ∧ Hid (t = ⟨(textN xs i).toArray⟩) ∧ Hid (Below w.heap.size w wr)) (fun _ s _ => xs.length - (intOf s).toNat)
    case atStart => exact ⟨0, ⟨#[]⟩, rfl, rfl, Nat.zero_le _, Nat.le_refl _, rfl, HB1.out⟩
    case round =>
      clear HB1
      obtain ⟨i, t, rfl, rfl, hin, ht, HTX, HB⟩ := hrel
      by_cases hlt : i < xs.length
      · obtain ⟨b, off, rfl, hbl, hra⟩ := HX.out (by omega)
        obtain ⟨c0, c1, c2⟩ := (hra.belowV HB.out hbl) i hlt
        have hi0 : (0 : Int) ≤ (i : Int) := by omega
        have hi1 : (i : Int) < (xs.length : Int) := by omega
        have hvi : validV (xs[i]?.getD v0).1 (xs[i]?.getD v0).2.1 (xs[i]?.getD v0).2.2 = true := by
          have := HVS.out
          unfold validVs at this
          rw [List.getElem?_eq_getElem hlt]
          exact List.all_eq_true.1 this _ (List.getElem_mem hlt)
        have hnx : textN xs (i + 1) = textN xs i ++ sepT i ++ textV (xs[i]?.getD v0) := rfl
        clear hra
        generalize xs[i]?.getD v0 = x at c0 c1 c2 hvi hnx
        obtain ⟨x0, x1, x2⟩ := x
        dsimp only at c0 c1 c2 hvi
        have hvl := textV_lenR hvi
        have HI := Lib.hid (textOfV_any x0 x1 x2 hvi wr ((HT.out.onT HB.out).up (Below.refl _ _) HB.out.size))
        unfold TextPost at HI
        by_cases h0 : i = 0
        · have HW := Lib.hid (show t ++ ⟨(textV (x0, x1, x2)).toArray⟩ = ⟨(textN xs (i + 1)).toArray⟩ by
            rw [hnx, HTX.out, h0]; exact (bs_app (textN xs 0) _).trans (by simp [sepT, bs]))
          have HZ := Lib.hid (show (t ++ ⟨(textV (x0, x1, x2)).toArray⟩).size ≤ 803 * (i + 1) by
            rw [ByteArray.size_append]
            have : (⟨(textV (x0, x1, x2)).toArray⟩ : ByteArray).size = (textV (x0, x1, x2)).length := bs_size _
            omega)
          have hz0 : (⟨(textV (x0, x1, x2)).toArray⟩ : ByteArray).size = (textV (x0, x1, x2)).length := bs_size _
          have hA1 : ¬ (9223372036854775807 < t.size + (⟨(textV (x0, x1, x2)).toArray⟩ : ByteArray).size) := by omega
          have hA2 : ¬ (9223372036854775807 < t.size + (textV (x0, x1, x2)).length) := by omega
          have hg : ¬ ((0 : Int) < (i : Int)) := by omega
          clear hnx hvi hvl h0
          generalize textV (x0, x1, x2) = tv at *
          go_wp2_with fail
          refine HI.out.mono ?_
          rintro e w2 ⟨rfl, k2⟩
          have HF := Lib.hid (HB.out.trans (k2.mono HB.out.size))
          clear k2
          go_wp2_with fail
          go_roundw
          case rel => exact ⟨i + 1, _, rfl, by go_num, by omega, HZ.out, HW.out, HF.out⟩
          case measure => simp [intOf]; omega
        · have HW := Lib.hid (show t ++ ⟨#[44]⟩ ++ ⟨(textV (x0, x1, x2)).toArray⟩ = ⟨(textN xs (i + 1)).toArray⟩ by
            rw [hnx, HTX.out]
            have e : (⟨#[44]⟩ : ByteArray) = bs [44] := rfl
            rw [e]
            exact (congrArg (· ++ bs (textV (x0, x1, x2))) (bs_app (textN xs i) [44])).trans ((bs_app _ _).trans (by simp [sepT, h0, bs])))
          have HZ := Lib.hid (show (t ++ ⟨#[44]⟩ ++ ⟨(textV (x0, x1, x2)).toArray⟩).size ≤ 803 * (i + 1) by
            rw [ByteArray.size_append, ByteArray.size_append]
            have : (⟨(textV (x0, x1, x2)).toArray⟩ : ByteArray).size = (textV (x0, x1, x2)).length := bs_size _
            have : (⟨#[44]⟩ : ByteArray).size = 1 := rfl
            omega)
          have hz0 : (⟨(textV (x0, x1, x2)).toArray⟩ : ByteArray).size = (textV (x0, x1, x2)).length := bs_size _
          have hA0 : ¬ (9223372036854775807 < t.size + 1) := by omega
          have hA1 : ¬ (9223372036854775807 < t.size + 1 + (⟨(textV (x0, x1, x2)).toArray⟩ : ByteArray).size) := by omega
          have hA2 : ¬ (9223372036854775807 < t.size + 1 + (textV (x0, x1, x2)).length) := by omega
          have hg : (0 : Int) < (i : Int) := by omega
          clear hnx hvi hvl h0
          generalize textV (x0, x1, x2) = tv at *
          go_wp2_with fail
          refine HI.out.mono ?_
          rintro e w2 ⟨rfl, k2⟩
          have HF := Lib.hid (HB.out.trans (k2.mono HB.out.size))
          clear k2
          go_wp2_with fail
          go_roundw
          case rel => exact ⟨i + 1, _, rfl, by go_num, by omega, HZ.out, HW.out, HF.out⟩
          case measure => simp [intOf]; omega
      · have hie : i = xs.length := by omega
        have HF := Lib.hid (show (⟨(textR xs).toArray⟩ : ByteArray) = t by rw [HTX.out, hie]; rfl)
        clear hie
        go_wp2_with fail
        go_ret
        exact ⟨by rw [HF.out]; rfl, HB.out⟩
end Go.Proofs.YtledgnolmiecfaaGreatDoor
