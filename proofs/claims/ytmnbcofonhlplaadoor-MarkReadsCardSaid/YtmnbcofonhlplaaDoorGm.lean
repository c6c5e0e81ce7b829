/-
  Marks of package mark and of the document's own, as contracts; the chapter's first example.
-/
import Derived.Test.YtmnbcofonhlplaaDoorGa
import Derived.Test.YtmnbcofonhlplaaDoorMi
namespace Go.Proofs.YtmnbcofonhlplaaDoor
open Go.RowKit Go.Lib
set_option linter.unusedSimpArgs false

/-- The mark behind the first i times. -/
def atTo (b : Int) (ts : List Int) (i : Nat) : Int := (ts.take i).foldl (markStep b) (-1000000000000)
theorem atTo_next {b : Int} {ts : List Int} {i : Nat} (h : i < ts.length) : atTo b ts (i + 1) = markStep b (atTo b ts i) (ts[i]?.getD 0) := by
  unfold atTo
  rw [List.take_succ_eq_append_getElem h, List.foldl_append, List.getElem?_eq_getElem h]
  rfl
def marksL (b : Int) (ts : List Int) : List Int := (List.range ts.length).map fun i => atTo b ts (i + 1)
theorem marksL_len (b : Int) (ts : List Int) : (marksL b ts).length = ts.length := by simp [marksL]
theorem marksL_get {b : Int} {ts : List Int} {i : Nat} (h : i < ts.length) : (marksL b ts)[i]?.getD 0 = atTo b ts (i + 1) := by
  simp [marksL, h]
def okTimes (ts : List Int) : Bool := ts.all timeR
theorem okTimes_at {ts : List Int} (h : okTimes ts = true) {i : Nat} (hi : i < ts.length) : timeR (ts[i]?.getD 0) = true := by
  rw [List.getElem?_eq_getElem hi]; exact List.all_eq_true.1 h _ (List.getElem_mem hi)
theorem okTimes_not {ts : List Int} {i : Nat} (hi : i < ts.length) (h : timeR (ts[i]?.getD 0) = false) : okTimes ts = false := by
  cases q : okTimes ts with
  | false => rfl
  | true => rw [okTimes_at q hi] at h; cases h
theorem okTimes_all {ts : List Int} (h : ∀ j, j < ts.length → timeR (ts[j]?.getD 0) = true) : okTimes ts = true := by
  unfold okTimes
  rw [List.all_eq_true]
  intro x hx
  obtain ⟨j, hj, rfl⟩ := List.mem_iff_getElem.1 hx
  have := h j hj
  rwa [List.getElem?_eq_getElem hj] at this
def marksErr (b : Int) (ts : List Int) : Int := if 400 < ts.length then 1 else if inR b 0 1000000000 = false then 7 else if okTimes ts = true then 0 else 7
def marksVal (b : Int) (ts : List Int) : List Int := if marksErr b ts = 0 then marksL b ts else []
theorem nilPost (w w' : World) (er : Int) (hb : Below w.heap.size w w') : ListPost2 w [] er (.returned (.tuple #[.slice none 0 0, .int .i64 er])) w' := ⟨none, 0, rfl, (fun h => absurd h (by simp)), hb⟩

set_option maxRecDepth 100000 in
set_option maxHeartbeats 2000000 in
theorem mkMarks_any (b : Int) (p : Option Addr) (ts : List Int) (c : Nat) (w : World) (hX : IntsIn w p ts) :
    Calls Tryd.prog 21 #[.int .i64 b, .slice p ts.length c] w (ListPost2 w (marksVal b ts) (marksErr b ts)) := by
  by_cases hl : 400 < ts.length
  · have hE : marksErr b ts = 1 := by simp [marksErr, hl]
    rw [marksVal, if_neg (by omega), hE]
    have hl' : (400 : Int) < (ts.length : Int) := by omega
    clear hE hX hl
    go_enter Tryd.func21, Tryd.ntmps21
    go_wp2_with fail
    go_ret2
    exact nilPost _ _ _ (Below.refl _ _)
  have hl' : (ts.length : Int) ≤ (400 : Int) := by omega
  cases hb : inR b 0 1000000000 with
  | false =>
    have hE : marksErr b ts = 7 := by simp [marksErr, hl, hb]
    rw [marksVal, if_neg (by omega), hE]
    have HG := Lib.hid fun W => mkGa_bad b hb W
    clear hE hX hl hb
    go_enter Tryd.func21, Tryd.ntmps21
    go_wp2_with fail
    refine (HG.out _).mono ?_
    rintro e w1 ⟨rfl, rfl⟩
    go_wp2_with fail
    go_ret2
    exact nilPost _ _ _ (Below.refl _ _)
  | true =>
    have hbr : boundR b := inR_iff.1 hb
    have hEv : marksErr b ts = if okTimes ts = true then 0 else 7 := by simp [marksErr, hl, hb]
    have HBR := Lib.hid hbr
    have HG := Lib.hid fun W => mkGa_ok b hb W
    have HX := Lib.hid hX
    have HE := Lib.hid hEv
    have hmk := make_ints ts.length (by omega)
    rw [made_zero] at hmk
    obtain ⟨ms, hms⟩ : ∃ ms, ms = marksL b ts := ⟨_, rfl⟩
    have hml : ms.length = ts.length := by rw [hms, marksL_len]
    have HMS := Lib.hid hms
    have HML := Lib.hid hml
    have HOW := Lib.hid fun W : World => (show (W.alloc (.cells (flatN (List.replicate ts.length 0)).toArray 3)).ownsRow W.heap.size 3 1 (.slice (some ⟨W.heap.size, 0, none⟩) ts.length ts.length) ts.length (flatN (fillN ms 0)) from by
      have := World.ownsRow_lit W (flatN (List.replicate ts.length 0)).toArray ts.length (e := 3) (size := 1) (Nat.le_refl W.heap.size) (by unfold maxLen; omega) (by simp [flatN])
      simpa [fillN, hml] using this)
    clear hX hb hbr hEv hl hms hml
    go_enter Tryd.func21, Tryd.ntmps21
    go_wp2_with fail
    refine (HG.out _).mono ?_
    rintro e w1 ⟨B, rfl, hBe, hG1, hb1⟩
    have hbA := below_new w1 (.cells (flatN (List.replicate ts.length 0)).toArray 3)
    have HG2 := Lib.hid (show GaP _ B b (-1000000000000) false from hG1.belowV hbA hG1.lt)
    have HB2 := Lib.hid (hb1.trans (hbA.mono hb1.size))
    have HO2 := Lib.hid (HOW.out w1)
    have HBL := Lib.hid (show w.heap.size ≤ B ∧ B < w1.heap.size from ⟨by omega, hG1.lt⟩)
    clear hb1 hG1 hBe hbA HG HOW
    go_wp2_with fail
    go_loopw [29] (fun s wr => ∃ i : Nat, s = .int .i64 i ∧ i ≤ ts.length ∧ Hid (∀ j, j < i → timeR (ts[j]?.getD 0) = true) ∧ Hid (markR (atTo b ts i)) ∧ Hid (GaP wr B b (atTo b ts i) false) ∧ Hid (wr.ownsRow w1.heap.size 3 1 (.slice (some ⟨w1.heap.size, 0, none⟩) ts.length ts.length) ts.length (flatN (fillN ms i))) ∧ Hid (Below w.heap.size w wr)) (fun s _ => ts.length - (RowKit.intOf s).toNat)
    case atStart => exact ⟨0, rfl, Nat.zero_le _, (fun j hj => by omega), (by show markR (-1000000000000); unfold markR; decide), HG2.out, HO2.out, HB2.out⟩
    case round =>
      clear HG2 HO2 HB2
      obtain ⟨i, rfl, hin, HT, HR, HK, HO, HB⟩ := hrel
      by_cases hlt : i < ts.length
      · obtain ⟨bk, off, rfl, hbk, hra⟩ := HX.out (by omega)
        have ct := hra.belowV HB.out hbk i hlt
        have hi0 : (0 : Int) ≤ (i : Int) := by omega
        have hi1 : (i : Int) < (ts.length : Int) := by omega
        have HS := Lib.hid (gaSee_any B b (atTo b ts i) (ts[i]?.getD 0) false HBR.out HR.out wr HK.out)
        have HSR := Lib.hid (see_range (t := ts[i]?.getD 0) (q := false) HBR.out HR.out)
        have HN := Lib.hid (atTo_next (b := b) hlt)
        have HNO := Lib.hid (fun h => okTimes_not hlt h)
        have HMG := Lib.hid (show ms[i]?.getD 0 = atTo b ts (i + 1) from by rw [HMS.out]; exact marksL_get hlt)
        have HTN := Lib.hid (show timeR (ts[i]?.getD 0) = true → ∀ j, j < i + 1 → timeR (ts[j]?.getD 0) = true from fun h j hj => by
          by_cases e : j = i
          · rw [e]; exact h
          · exact HT.out j (by omega))
        clear hra HT
        generalize ts[i]?.getD 0 = t at ct HS HSR HN HNO HTN
        generalize hm : atTo b ts i = m at HS HSR HN HK HR
        clear hm
        unfold SeeP at HS
        cases q : timeR t with
        | false =>
          rw [show seeErr t false = 7 by simp [seeErr, q], show seeLate t m false = false by simp [seeLate, seeErr, q]] at HS
          have hE7 : marksErr b ts = 7 := by rw [HE.out, HNO.out q]; rfl
          have HEE := Lib.hid hE7
          clear hE7 q
          go_wp2_with fail
          refine HS.out.mono ?_
          rintro e w2 ⟨rfl, hK2, hg2⟩
          have HB2 := Lib.hid (show Below w.heap.size w w2 from HB.out.grown hg2 HB.out.size (fun k e => by cases e; exact HBL.out.1))
          clear hK2 hg2
          go_wp2_with fail
          go_ret2
          rw [marksVal, if_neg (by rw [HEE.out]; decide), HEE.out]
          exact nilPost _ _ _ HB2.out
        | true =>
          rw [show seeErr t false = 0 by simp [seeErr, q], show seeLate t m false = decide (t < m) by simp [seeLate, seeErr, q], show seeMark b m t false = markStep b m t by simp [seeMark, seeErr, q]] at HS
          rw [show seeMark b m t false = markStep b m t by simp [seeMark, seeErr, q]] at HSR
          rw [← HN.out] at HS HSR
          have HTN2 := Lib.hid (HTN.out q)
          generalize hm' : atTo b ts (i + 1) = m' at HS HSR HMG
          clear q HTN
          go_wp2_with fail
          refine HS.out.mono ?_
          rintro e w2 ⟨rfl, hK2, hg2⟩
          have hO2 : w2.ownsRow w1.heap.size 3 1 (.slice (some ⟨w1.heap.size, 0, none⟩) ts.length ts.length) ts.length (flatN (fillN ms i)) := own_keep2 HO.out (keep2_of_grown (B := B) hg2) (fun x hx => by
            simp only [Value.ownBlock, Option.some.injEq] at hx
            have := HBL.out.2
            exact ⟨by omega, fun e => by simp only [Option.some.injEq] at e; omega⟩)
          have HB2 := Lib.hid (show Below w.heap.size w w2 from HB.out.grown hg2 HB.out.size (fun k e => by cases e; exact HBL.out.1))
          have HGM := Lib.hid (gaMark_any B b m' false HSR.out w2 hK2)
          have hl0 := HML.out
          have e0 : w2.cell? ⟨w1.heap.size, i, none⟩ = some (.int .i64 ((fillN ms i)[i]?.getD 0)) := by rw [hO2.cellAt i (by omega), flatN_get (by rw [fillN_len (by omega)]; omega)]
          have e1 := hO2.frozenAt i
          have h1 := (hO2.stored i (.int .i64 m')).1
          rw [← flatN_set, ← HMG.out, fillN_set (by omega), HMG.out] at h1
          have HF := Lib.hid (show GaP (w2.setCell ⟨w1.heap.size, i, none⟩ (.int .i64 m')) B b m' false ∧ (w2.setCell ⟨w1.heap.size, i, none⟩ (.int .i64 m')).ownsRow w1.heap.size 3 1 (.slice (some ⟨w1.heap.size, 0, none⟩) ts.length ts.length) ts.length (flatN (fillN ms (i + 1))) ∧ Below w.heap.size w (w2.setCell ⟨w1.heap.size, i, none⟩ (.int .i64 m')) from ⟨hK2.setOther (by have := HBL.out.2; omega) _, h1, HB2.out.setCell (p := ⟨w1.heap.size, i, none⟩) (by have := HBL.out; show w.heap.size ≤ w1.heap.size; omega) _⟩)
          generalize (fillN ms i)[i]?.getD 0 = old at e0
          clear hO2 h1 hl0 hK2 hg2 HO HK
          go_wp2_with fail
          refine HGM.out.mono ?_
          rintro e w3 ⟨rfl, rfl⟩
          go_wp2_with fail
          go_roundw
          case rel => exact ⟨i + 1, by go_num, by omega, HTN2.out, by rw [hm']; exact HSR.out, by rw [hm']; exact HF.out.1, HF.out.2.1, HF.out.2.2⟩
          case measure => simp [RowKit.intOf]; omega
      · have hge : ts.length ≤ i := by omega
        have hie : i = ts.length := by omega
        have hok : okTimes ts = true := okTimes_all fun j hj => HT.out j (by omega)
        have hE0 : marksErr b ts = 0 := by rw [HE.out, if_pos hok]
        have hO := HO.out
        rw [hie, ← HML.out, fillN_all] at hO
        have HP := Lib.hid (owned_ints hO)
        have HE0 := Lib.hid hE0
        clear hie hok hE0 hO
        go_wp2_with fail
        go_ret2
        rw [marksVal, if_pos HE0.out, HE0.out, ← HMS.out]
        exact ⟨some ⟨w1.heap.size, 0, none⟩, ts.length, by rw [HML.out]; rfl, HP.out, HB.out⟩
end Go.Proofs.YtmnbcofonhlplaaDoor
