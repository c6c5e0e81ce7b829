/-
  Marks of the document's own, as a contract; the chapter's first example.
-/
import Derived.Test.YtmnbcofonhlplaaGm
namespace Go.Proofs.Ytmnbcofonhlplaa
open Go.RowKit Go.Lib
set_option linter.unusedSimpArgs false

set_option maxRecDepth 100000 in
set_option maxHeartbeats 2000000 in
theorem rkMarks_any (b : Int) (p : Option Addr) (ts : List Int) (c : Nat) (w : World) (hX : IntsIn w p ts) :
    Calls Try.prog 22 #[.int .i64 b, .slice p ts.length c] w (ListPost2 w (marksVal b ts) (marksErr b ts)) := by
  obtain ⟨i0, hii, hz0, hz1, hz2⟩ := info_parts infoN
  by_cases hl : 400 < ts.length
  · have hE : marksErr b ts = 1 := by simp [marksErr, hl]
    rw [marksVal, if_neg (by omega), hE]
    have hl' : (400 : Int) < (ts.length : Int) := by omega
    clear hE hX hl
    go_enter Try.func22, Try.ntmps22
    go_wp2_with fail
    go_ret2
    exact nilPost _ _ _ (Below.refl _ _)
  have hl' : (ts.length : Int) ≤ (400 : Int) := by omega
  cases hb : inR b 0 1000000000 with
  | false =>
    have hE : marksErr b ts = 7 := by simp [marksErr, hl, hb]
    rw [marksVal, if_neg (by omega), hE]
    have HG := Lib.hid fun W => rkGa_bad b hb W
    clear hE hX hl hb
    go_enter Try.func22, Try.ntmps22
    go_wp2_with fail
    refine (HG.out _).mono ?_
    rintro e w1 ⟨rfl, rfl⟩
    go_wp2_with fail
    go_ret2
    exact nilPost _ _ _ (Below.refl _ _)
  | true =>
    have hbr : boundR b := inR_iff.1 hb
    have hEv : marksErr b ts = if okTimes ts = true then 0 else 7 := by simp [marksErr, hl, hb]
    have HBR := Lib.hid hbr
    have HG := Lib.hid fun W => rkGa_ok b hb W
    have HX := Lib.hid hX
    have HE := Lib.hid hEv
    obtain ⟨ms, hms⟩ : ∃ ms, ms = marksL b ts := ⟨_, rfl⟩
    have hml : ms.length = ts.length := by rw [hms, marksL_len]
    have HMS := Lib.hid hms
    have HML := Lib.hid hml
    clear hX hb hbr hEv hl hms hml
    go_enter Try.func22, Try.ntmps22
    go_wp2_with fail
    refine (HG.out _).mono ?_
    rintro e w1 ⟨B, rfl, hBe, hG1, hb1⟩
    have HG2 := Lib.hid hG1
    have HB2 := Lib.hid hb1
    have HBL := Lib.hid (show w.heap.size ≤ B ∧ B < w1.heap.size from ⟨by omega, hG1.lt⟩)
    clear hb1 hG1 hBe HG
    go_wp2_with fail
    go_loopw [8, 9] (fun o s wr => ∃ i : Nat, s = .int .i64 i ∧ i ≤ ts.length ∧ Hid (∀ j, j < i → timeR (ts[j]?.getD 0) = true) ∧ Hid (markR (atTo b ts i)) ∧ GaR wr B b (atTo b ts i) false ∧ wr.ownsRow w1.heap.size 3 1 o i (flatN (ms.take i)) ∧ Below w.heap.size w wr ∧ w1.heap.size ≤ wr.heap.size) (fun _ s _ => ts.length - (RowKit.intOf s).toNat)
    case atStart => exact ⟨0, rfl, Nat.zero_le _, (fun j hj => by omega), (by show markR (-1000000000000); unfold markR; decide), HG2.out, World.ownsRow_nil _ _ _ _, HB2.out, Nat.le_refl _⟩
    case round =>
      clear HG2 HB2
      obtain ⟨i, rfl, hin, HT, HR, hK, hO, hB, hS1⟩ := hrel
      by_cases hlt : i < ts.length
      · obtain ⟨bk, off, rfl, hbk, hra⟩ := HX.out (by omega)
        have ct := hra.belowV hB hbk i hlt
        have hi0 : (0 : Int) ≤ (i : Int) := by omega
        have hi1 : (i : Int) < (ts.length : Int) := by omega
        have HS := Lib.hid (grSee_any B b (atTo b ts i) (ts[i]?.getD 0) false HBR.out wr hK)
        have HSR := Lib.hid (see_range (t := ts[i]?.getD 0) (q := false) HBR.out HR.out)
        have HN := Lib.hid (atTo_next (b := b) hlt)
        have HNO := Lib.hid (fun h => okTimes_not hlt h)
        have HMG := Lib.hid (show ms.take (i + 1) = ms.take i ++ [atTo b ts (i + 1)] from by
          have hl0 := HML.out
          have := marksL_get (b := b) hlt
          rw [← HMS.out] at this
          rw [List.take_succ_eq_append_getElem (by omega), ← this, List.getElem?_eq_getElem (by omega)]
          rfl)
        have HTN := Lib.hid (show timeR (ts[i]?.getD 0) = true → ∀ j, j < i + 1 → timeR (ts[j]?.getD 0) = true from fun h j hj => by
          by_cases e : j = i
          · rw [e]; exact h
          · exact HT.out j (by omega))
        clear hra HT
        generalize ts[i]?.getD 0 = t at ct HS HSR HN HNO HTN
        generalize hm : atTo b ts i = m at HS HSR HN hK HR
        clear hm
        unfold SeeR at HS
        have HB := Lib.hid hB
        have HO := Lib.hid hO
        clear hK hB hO
        cases q : timeR t with
        | false =>
          rw [show seeErr t false = 7 by simp [seeErr, q], show seeLate t m false = false by simp [seeLate, seeErr, q]] at HS
          have hE7 : marksErr b ts = 7 := by rw [HE.out, HNO.out q]; rfl
          have HEE := Lib.hid hE7
          clear hE7 q
          go_wp2_with fail
          refine HS.out.mono ?_
          rintro e w2 ⟨rfl, hK2, hg2⟩
          have HB2 := Lib.hid (show Below w.heap.size w w2 from HB.out.grown hg2 HB.out.size (fun k e => by cases e; exact HBL.out.1))
          clear hK2 hg2
          go_wp2_with fail
          go_ret2
          rw [marksVal, if_neg (by rw [HEE.out]; decide), HEE.out]
          exact nilPost _ _ _ HB2.out
        | true =>
          rw [show seeErr t false = 0 by simp [seeErr, q], show seeLate t m false = decide (t < m) by simp [seeLate, seeErr, q], show seeMark b m t false = markStep b m t by simp [seeMark, seeErr, q]] at HS
          rw [show seeMark b m t false = markStep b m t by simp [seeMark, seeErr, q]] at HSR
          rw [← HN.out] at HS HSR
          have HTN2 := Lib.hid (HTN.out q)
          generalize hm' : atTo b ts (i + 1) = m' at HS HSR HMG
          have hm'' := Lib.hid hm'
          clear q HTN hm'
          go_wp2_with fail
          refine HS.out.mono ?_
          rintro e w2 ⟨rfl, hK2, hg2⟩
          have hO2 : w2.ownsRow w1.heap.size 3 1 _ i (flatN (ms.take i)) := own_keep2 HO.out (keep2_of_grown (B := B) hg2) (fun x hx => by
            have h1 := (HO.out.lt x hx).1
            have := HBL.out.2
            exact ⟨by omega, fun e => by simp only [Option.some.injEq] at e; omega⟩)
          have hB2 : Below w.heap.size w w2 := HB.out.grown hg2 HB.out.size (fun k e => by cases e; exact HBL.out.1)
          have hs2 : w1.heap.size ≤ w2.heap.size := Nat.le_trans hS1 hg2.size
          have c1 := hK2.cell 1
          simp only [List.getElem?_toArray, List.getElem?_cons_zero, List.getElem?_cons_succ] at c1
          have HK2 := Lib.hid hK2
          clear hK2 hg2 HO
          go_wp2_with (at_builtin; refine wpList_append_own _ rfl _ _ 36 rfl w1.heap.size 3 i0 (.int .i64 0) 1 8 Try.underlying36 hii hz0 hz1 hz2 rfl (by decide) _ _ _ rfl (hO2.alloc _) ⟨w2.heap.size, 0, none⟩ 1 1 [.int .i64 m'] rfl rfl (cells_new _ _ _) (by simp [Value.oneCell']) (by unfold maxLen; omega) (by omega) (by simp <;> omega) ?_; intro v' w5 hown' hgrow _; have HF := Lib.hid (show GaR w5 B b m' false ∧ w5.ownsRow w1.heap.size 3 1 v' (i + 1) (flatN (ms.take (i + 1))) ∧ Below w.heap.size w w5 ∧ w1.heap.size ≤ w5.heap.size from ⟨(HK2.out.allocG _).keepG hgrow (fun e => by have := (hO2.lt B e.symm).1; have := HBL.out.2; omega), by rw [HMG.out]; simpa [flatN] using hown', (hB2.alloc hB2.size (.cells #[.int .i64 m'] 3)).grown hgrow (by have := hB2.size; simp; omega) (fun k e => by have := (hO2.lt k e).1; have := HBL.out; omega), Nat.le_trans (by simp; omega) hgrow.size⟩); clear hown' hgrow)
          go_roundw
          case rel => exact ⟨i + 1, by go_num, by omega, HTN2.out, by rw [hm''.out]; exact HSR.out, by rw [hm''.out]; exact HF.out.1, HF.out.2.1, HF.out.2.2.1, HF.out.2.2.2⟩
          case measure => simp [RowKit.intOf]; omega
      · have hge : ts.length ≤ i := by omega
        have hie : i = ts.length := by omega
        have hok : okTimes ts = true := okTimes_all fun j hj => HT.out j (by omega)
        have hE0 : marksErr b ts = 0 := by rw [HE.out, if_pos hok]
        have hO' := hO
        rw [hie, ← HML.out, List.take_length] at hO'
        obtain ⟨p', c', hv, hP⟩ := intsIn_of_owns hO'
        have HP := Lib.hid hP
        have HV := Lib.hid hv
        have HE0 := Lib.hid hE0
        have HB := Lib.hid hB
        clear hie hok hE0 hO' hO hP hv hB hK
        go_wp2_with fail
        go_ret2
        rw [marksVal, if_pos HE0.out, HE0.out, ← HMS.out]
        exact ⟨p', c', by rw [← HV.out]; rfl, HP.out, HB.out⟩

set_option maxRecDepth 100000 in
set_option maxHeartbeats 1000000 in
theorem awake6_any (w : World) :
    Calls Try.prog 7 #[] w fun e w' => e = .returned (.bool true) ∧ Below w.heap.size w w' := by
  have hb0 := below_new w (.cells #[.int .i64 10, .int .i64 7, .int .i64 12, .int .i64 7] 3)
  have hI : IntsIn (w.alloc (.cells #[.int .i64 10, .int .i64 7, .int .i64 12, .int .i64 7] 3)) (some ⟨w.heap.size, 0, none⟩) [10, 7, 12, 7] := fun _ => ⟨_, 0, rfl, by simp, fun i hi => by
    match i, hi with
    | 0, _ | 1, _ | 2, _ | 3, _ => simp [World.cell?_alloc_new]
    | i + 4, h => exact absurd h (by simp)⟩
  have hm := mkMarks_any 5 _ [10, 7, 12, 7] 4 _ hI
  rw [show marksErr 5 [10, 7, 12, 7] = 0 by decide, show marksVal 5 [10, 7, 12, 7] = [6, 6, 8, 8] by decide] at hm
  have HM := Lib.hid hm
  have HB := Lib.hid hb0
  clear hm hI hb0
  go_enter Try.func7, Try.ntmps7
  go_wp2_with fail
  refine HM.out.mono ?_
  rintro e w1 ⟨p, c, rfl, hi1, hb1⟩
  have HB1 := Lib.hid (HB.out.trans (hb1.mono HB.out.size))
  have hb2 := below_new w1 (.cells #[.int .i64 6, .int .i64 6, .int .i64 8, .int .i64 8] 3)
  have hI2 : IntsIn (w1.alloc (.cells #[.int .i64 6, .int .i64 6, .int .i64 8, .int .i64 8] 3)) (some ⟨w1.heap.size, 0, none⟩) [6, 6, 8, 8] := fun _ => ⟨_, 0, rfl, by simp, fun i hi => by
    match i, hi with
    | 0, _ | 1, _ | 2, _ | 3, _ => simp [World.cell?_alloc_new]
    | i + 4, h => exact absurd h (by simp)⟩
  have HS := Lib.hid (sameInts_any p _ [6, 6, 8, 8] c 4 (by simp) _ (hi1.belowV hb2) hI2)
  have HB2 := Lib.hid (HB1.out.trans (hb2.mono HB1.out.size))
  clear hi1 hb1 hb2 hI2
  go_wp2_with fail
  refine HS.out.mono ?_
  rintro e w2 ⟨rfl, hb3⟩
  have HB3 := Lib.hid (HB2.out.trans (hb3.mono HB2.out.size))
  clear hb3
  go_wp2_with fail
  go_ret
  exact ⟨rfl, HB3.out⟩
end Go.Proofs.Ytmnbcofonhlplaa
