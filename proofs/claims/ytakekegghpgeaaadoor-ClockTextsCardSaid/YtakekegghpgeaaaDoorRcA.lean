/-
  Parse of the document's own clock, by the number of words.
-/
import Derived.Test.YtakekegghpgeaaaDoorRb
namespace Go.Proofs.YtakekegghpgeaaaDoor
open Go.RowKit Go.Lib
set_option linter.unusedSimpArgs false
set_option linter.unusedVariables false

set_option maxRecDepth 100000 in
set_option maxHeartbeats 2000000 in
theorem refParse_ok1 (s : ByteArray) (hs : s.size ≤ 100) (w : World) (hE : Env w.heap.size w) (ca cb cc cd ce : Int) (hcs : refSpecL (wordsL s.data.toList) = [ca, cb, cc, cd, ce]) (hok : specOK ca cb cc cd ce = true) (ht : specT ca cb cc cd ce = s.data.toList) (hwn : (wordsL s.data.toList).length = 1) :
    Calls Tryd.prog 9 #[.string s] w (ParsePost w [ca, cb, cc, cd, ce] 0) := by
  have hfe : fmtT ca cb cc cd ce = s.data.toList := by unfold fmtT; rw [if_pos hok, ht]
  have HSE := Lib.hid (show (⟨(fmtT ca cb cc cd ce).toArray⟩ : ByteArray) = s by rw [hfe])
  have hn0 : ¬ (s.toList = []) := by
    rw [ByteArray.toList_eq, ← ht]
    exact specT_ne hok
  have hn00 : s.toList.isEmpty = false := by simpa using hn0
  clear hok ht hfe
  have hsz : (s.size : Int) ≤ 100 := by omega
  have hsz2 : (s.size : Int) ≤ 65536 := by omega
  have hA1 := SpL.ofNew w 0
  have hB1 := below_new w (.cells #[.int .i64 0, .int .i64 0, .int .i64 0, .int .i64 0, .int .i64 0] 23)
  generalize hw1 : w.alloc (.cells #[.int .i64 0, .int .i64 0, .int .i64 0, .int .i64 0, .int .i64 0] 23) = w1 at hA1 hB1
  have HW := Lib.hid (words_any s hs w1)
  unfold WordsPost at HW
  have HE := Lib.hid hE
  clear hE
  go_enter Tryd.func9, Tryd.ntmps9
  go_wp2_with fail
  refine HW.out.mono ?_
  rintro e w2 ⟨g, cap, ws, rfl, hws, hz, hO, k2⟩
  have hA2 := hA1.belowV k2 hA1.lt
  have hB2 := hB1.trans (k2.mono hB1.size)
  have hN := below_new w2 (.cells #[.int .i64 0, .int .i64 0, .int .i64 0, .int .i64 0, .int .i64 0] 23)
  have HA3 := Lib.hid (hA2.belowV hN hA2.lt)
  have HB3 := Lib.hid (hB2.trans (hN.mono hB2.size))
  have hS3 := SpL.ofNew w2 0
  have hgl := own_lt hO
  rw [← hws] at hcs
  have hsz0 : w.heap.size ≤ w2.heap.size := hB2.size
  have hlt0 : w.heap.size < w2.heap.size := hA2.lt
  clear hA1 hB1 hA2 hB2 HW k2
  have HSZ0 := Lib.hid hsz0
  have HLT2 := Lib.hid (show w.heap.size ≠ w2.heap.size from by omega)
  have hn1 : ws.length = 1 := by rw [← hwn, ← hws, bytesOf, List.length_map]
  clear hsz0 hlt0 hwn
  match ws, hn1 with
  | [x], _ =>
    simp only [bytesOf, List.map_cons, List.map_nil, refSpecL, List.cons.injEq, and_true] at hcs
    obtain ⟨rfl, rfl, rfl, rfl, rfl⟩ := hcs
    have a0 := hS3.cell (j := 0) (by simp)
    have a1 := hS3.cell (j := 1) (by simp)
    have a2 := hS3.cell (j := 2) (by simp)
    have a3 := hS3.cell (j := 3) (by simp)
    have a4 := hS3.cell (j := 4) (by simp)
    simp only [List.getElem?_cons_zero, List.getElem?_cons_succ, Option.getD_some] at a0 a1 a2 a3 a4
    have b0 := hS3.froz 0
    have b1 := hS3.froz 1
    have b2 := hS3.froz 2
    have b3 := hS3.froz 3
    have b4 := hS3.froz 4
    have HLT := Lib.hid (show g ≠ w2.heap.size from by omega)
    have hlt3 := hS3.lt
    generalize hw3 : w2.alloc (.cells #[.int .i64 0, .int .i64 0, .int .i64 0, .int .i64 0, .int .i64 0] 23) = w3 at  a0 a1 a2 a3 a4 b0 b1 b2 b3 b4 HA3 HB3 hS3 hlt3
    have HSZ := Lib.hid (show w.heap.size ≤ w2.heap.size from HSZ0.out)
    have HFN := Lib.hid (show SpL (((((w3.setCell ⟨w2.heap.size, 0, none⟩ (.int .i64 4)).setCell ⟨w2.heap.size, 1, none⟩ (.int .i64 0)).setCell ⟨w2.heap.size, 2, none⟩ (.int .i64 0)).setCell ⟨w2.heap.size, 3, none⟩ (.int .i64 0)).setCell ⟨w2.heap.size, 4, none⟩ (.int .i64 0)) w2.heap.size [4, 0, 0, 0, 0] ∧ Below w.heap.size w (((((w3.setCell ⟨w2.heap.size, 0, none⟩ (.int .i64 4)).setCell ⟨w2.heap.size, 1, none⟩ (.int .i64 0)).setCell ⟨w2.heap.size, 2, none⟩ (.int .i64 0)).setCell ⟨w2.heap.size, 3, none⟩ (.int .i64 0)).setCell ⟨w2.heap.size, 4, none⟩ (.int .i64 0)) ∧ SpL (((((w3.setCell ⟨w2.heap.size, 0, none⟩ (.int .i64 4)).setCell ⟨w2.heap.size, 1, none⟩ (.int .i64 0)).setCell ⟨w2.heap.size, 2, none⟩ (.int .i64 0)).setCell ⟨w2.heap.size, 3, none⟩ (.int .i64 0)).setCell ⟨w2.heap.size, 4, none⟩ (.int .i64 0)) w.heap.size [0, 0, 0, 0, 0] from ⟨(((((hS3.setG 0 4).setG 1 0).setG 2 0).setG 3 0).setG 4 0), (((((HB3.out.setCell (p := ⟨w2.heap.size, 0, none⟩) HSZ.out (.int .i64 4)).setCell (p := ⟨w2.heap.size, 1, none⟩) HSZ.out (.int .i64 0)).setCell (p := ⟨w2.heap.size, 2, none⟩) HSZ.out (.int .i64 0)).setCell (p := ⟨w2.heap.size, 3, none⟩) HSZ.out (.int .i64 0)).setCell (p := ⟨w2.heap.size, 4, none⟩) HSZ.out (.int .i64 0)), spl_far5 HLT2.out HA3.out⟩)
    clear  HA3 HB3 hS3 hz hO hN
    skip
    skip
    have s0 := HFN.out.1.cell (j := 0) (by simp)
    have s1 := HFN.out.1.cell (j := 1) (by simp)
    have s2 := HFN.out.1.cell (j := 2) (by simp)
    have s3 := HFN.out.1.cell (j := 3) (by simp)
    have s4 := HFN.out.1.cell (j := 4) (by simp)
    simp only [List.getElem?_cons_zero, List.getElem?_cons_succ, Option.getD_some] at s0 s1 s2 s3 s4
    have HT := Lib.hid (refFormat_any 4 0 0 0 0 (((((w3.setCell ⟨w2.heap.size, 0, none⟩ (.int .i64 4)).setCell ⟨w2.heap.size, 1, none⟩ (.int .i64 0)).setCell ⟨w2.heap.size, 2, none⟩ (.int .i64 0)).setCell ⟨w2.heap.size, 3, none⟩ (.int .i64 0)).setCell ⟨w2.heap.size, 4, none⟩ (.int .i64 0)) ((HE.out.on HFN.out.2.1).up HFN.out.2.1.size).tab)
    unfold FmtPost at HT
    rw [HSE.out] at HT
    go_wp2_with fail
    refine HT.out.mono ?_
    rintro e w6 ⟨rfl, k6⟩
    have HA6 := Lib.hid (HFN.out.2.2.belowV k6 HFN.out.2.2.lt)
    have HB6 := Lib.hid (HFN.out.2.1.trans (k6.mono HFN.out.2.1.size))
    have HS6 := Lib.hid (HFN.out.1.belowV k6 HFN.out.1.lt)
    clear k6 HT s0 s1 s2 s3 s4 HFN
    have a0 := HA6.out.cell (j := 0) (by simp)
    have a1 := HA6.out.cell (j := 1) (by simp)
    have a2 := HA6.out.cell (j := 2) (by simp)
    have a3 := HA6.out.cell (j := 3) (by simp)
    have a4 := HA6.out.cell (j := 4) (by simp)
    simp only [List.getElem?_cons_zero, List.getElem?_cons_succ, Option.getD_some] at a0 a1 a2 a3 a4
    have b0 := HA6.out.froz 0
    have b1 := HA6.out.froz 1
    have b2 := HA6.out.froz 2
    have b3 := HA6.out.froz 3
    have b4 := HA6.out.froz 4
    have s0 := HS6.out.cell (j := 0) (by simp)
    have s1 := HS6.out.cell (j := 1) (by simp)
    have s2 := HS6.out.cell (j := 2) (by simp)
    have s3 := HS6.out.cell (j := 3) (by simp)
    have s4 := HS6.out.cell (j := 4) (by simp)
    simp only [List.getElem?_cons_zero, List.getElem?_cons_succ, Option.getD_some] at s0 s1 s2 s3 s4
    have HF2 := Lib.hid (show SpL (((((w6.setCell ⟨w.heap.size, 0, none⟩ (.int .i64 4)).setCell ⟨w.heap.size, 1, none⟩ (.int .i64 0)).setCell ⟨w.heap.size, 2, none⟩ (.int .i64 0)).setCell ⟨w.heap.size, 3, none⟩ (.int .i64 0)).setCell ⟨w.heap.size, 4, none⟩ (.int .i64 0)) w.heap.size [4, 0, 0, 0, 0] ∧ Below w.heap.size w (((((w6.setCell ⟨w.heap.size, 0, none⟩ (.int .i64 4)).setCell ⟨w.heap.size, 1, none⟩ (.int .i64 0)).setCell ⟨w.heap.size, 2, none⟩ (.int .i64 0)).setCell ⟨w.heap.size, 3, none⟩ (.int .i64 0)).setCell ⟨w.heap.size, 4, none⟩ (.int .i64 0)) from ⟨(((((HA6.out.setG 0 4).setG 1 0).setG 2 0).setG 3 0).setG 4 0), (((((HB6.out.setCell (p := ⟨w.heap.size, 0, none⟩) (Nat.le_refl _) (.int .i64 4)).setCell (p := ⟨w.heap.size, 1, none⟩) (Nat.le_refl _) (.int .i64 0)).setCell (p := ⟨w.heap.size, 2, none⟩) (Nat.le_refl _) (.int .i64 0)).setCell (p := ⟨w.heap.size, 3, none⟩) (Nat.le_refl _) (.int .i64 0)).setCell (p := ⟨w.heap.size, 4, none⟩) (Nat.le_refl _) (.int .i64 0))⟩)
    go_wp2_with fail
    have r0 := HF2.out.1.cell (j := 0) (by simp)
    have r1 := HF2.out.1.cell (j := 1) (by simp)
    have r2 := HF2.out.1.cell (j := 2) (by simp)
    have r3 := HF2.out.1.cell (j := 3) (by simp)
    have r4 := HF2.out.1.cell (j := 4) (by simp)
    simp only [List.getElem?_cons_zero, List.getElem?_cons_succ, Option.getD_some] at r0 r1 r2 r3 r4
    refine bodyPost_ret (v := .tuple #[aggL [4, 0, 0, 0, 0], .int .i64 0]) (by simp [results, Tryd.f9, go_sem, r0, r1, r2, r3, r4, aggL]) rfl ?_
    exact ⟨rfl, HF2.out.2⟩
set_option maxRecDepth 100000 in
set_option maxHeartbeats 2000000 in
theorem refParse_ok2 (s : ByteArray) (hs : s.size ≤ 100) (w : World) (hE : Env w.heap.size w) (ca cb cc cd ce : Int) (hcs : refSpecL (wordsL s.data.toList) = [ca, cb, cc, cd, ce]) (hok : specOK ca cb cc cd ce = true) (ht : specT ca cb cc cd ce = s.data.toList) (hwn : (wordsL s.data.toList).length = 2) :
    Calls Tryd.prog 9 #[.string s] w (ParsePost w [ca, cb, cc, cd, ce] 0) := by
  have hfe : fmtT ca cb cc cd ce = s.data.toList := by unfold fmtT; rw [if_pos hok, ht]
  have HSE := Lib.hid (show (⟨(fmtT ca cb cc cd ce).toArray⟩ : ByteArray) = s by rw [hfe])
  have hn0 : ¬ (s.toList = []) := by
    rw [ByteArray.toList_eq, ← ht]
    exact specT_ne hok
  have hn00 : s.toList.isEmpty = false := by simpa using hn0
  clear hok ht hfe
  have hsz : (s.size : Int) ≤ 100 := by omega
  have hsz2 : (s.size : Int) ≤ 65536 := by omega
  have hA1 := SpL.ofNew w 0
  have hB1 := below_new w (.cells #[.int .i64 0, .int .i64 0, .int .i64 0, .int .i64 0, .int .i64 0] 23)
  generalize hw1 : w.alloc (.cells #[.int .i64 0, .int .i64 0, .int .i64 0, .int .i64 0, .int .i64 0] 23) = w1 at hA1 hB1
  have HW := Lib.hid (words_any s hs w1)
  unfold WordsPost at HW
  have HE := Lib.hid hE
  clear hE
  go_enter Tryd.func9, Tryd.ntmps9
  go_wp2_with fail
  refine HW.out.mono ?_
  rintro e w2 ⟨g, cap, ws, rfl, hws, hz, hO, k2⟩
  have hA2 := hA1.belowV k2 hA1.lt
  have hB2 := hB1.trans (k2.mono hB1.size)
  have hN := below_new w2 (.cells #[.int .i64 0, .int .i64 0, .int .i64 0, .int .i64 0, .int .i64 0] 23)
  have HA3 := Lib.hid (hA2.belowV hN hA2.lt)
  have HB3 := Lib.hid (hB2.trans (hN.mono hB2.size))
  have hS3 := SpL.ofNew w2 0
  have hgl := own_lt hO
  rw [← hws] at hcs
  have hsz0 : w.heap.size ≤ w2.heap.size := hB2.size
  have hlt0 : w.heap.size < w2.heap.size := hA2.lt
  clear hA1 hB1 hA2 hB2 HW k2
  have HSZ0 := Lib.hid hsz0
  have HLT2 := Lib.hid (show w.heap.size ≠ w2.heap.size from by omega)
  have hn2 : ws.length = 2 := by rw [← hwn, ← hws, bytesOf, List.length_map]
  clear hsz0 hlt0 hwn
  match ws, hn2 with
  | [x, a], _ =>
    have c1 : w2.cell? ⟨g, 1, none⟩ = some (.string a) := (hO.cellAt 1 (by simp)).trans rfl
    have d1 := (hN.cell (p := ⟨g, 1, none⟩) hgl).trans c1
    have Ha := Lib.hid fun W => refNumber_any a (hz a (by simp)) W
    simp only [bytesOf, List.map_cons, List.map_nil, refSpecL, List.cons.injEq, and_true] at hcs
    obtain ⟨rfl, rfl, rfl, q3, rfl⟩ := hcs
    rw [q3] at Ha
    have a0 := hS3.cell (j := 0) (by simp)
    have a1 := hS3.cell (j := 1) (by simp)
    have a2 := hS3.cell (j := 2) (by simp)
    have a3 := hS3.cell (j := 3) (by simp)
    have a4 := hS3.cell (j := 4) (by simp)
    simp only [List.getElem?_cons_zero, List.getElem?_cons_succ, Option.getD_some] at a0 a1 a2 a3 a4
    have b0 := hS3.froz 0
    have b1 := hS3.froz 1
    have b2 := hS3.froz 2
    have b3 := hS3.froz 3
    have b4 := hS3.froz 4
    have HLT := Lib.hid (show g ≠ w2.heap.size from by omega)
    have hlt3 := hS3.lt
    generalize hw3 : w2.alloc (.cells #[.int .i64 0, .int .i64 0, .int .i64 0, .int .i64 0, .int .i64 0] 23) = w3 at d1 a0 a1 a2 a3 a4 b0 b1 b2 b3 b4 HA3 HB3 hS3 hlt3
    have HSZ := Lib.hid (show w.heap.size ≤ w2.heap.size from HSZ0.out)
    have HFN := Lib.hid (show SpL (((((w3.setCell ⟨w2.heap.size, 0, none⟩ (.int .i64 3)).setCell ⟨w2.heap.size, 1, none⟩ (.int .i64 0)).setCell ⟨w2.heap.size, 2, none⟩ (.int .i64 0)).setCell ⟨w2.heap.size, 3, none⟩ (.int .i64 cd)).setCell ⟨w2.heap.size, 4, none⟩ (.int .i64 0)) w2.heap.size [3, 0, 0, cd, 0] ∧ Below w.heap.size w (((((w3.setCell ⟨w2.heap.size, 0, none⟩ (.int .i64 3)).setCell ⟨w2.heap.size, 1, none⟩ (.int .i64 0)).setCell ⟨w2.heap.size, 2, none⟩ (.int .i64 0)).setCell ⟨w2.heap.size, 3, none⟩ (.int .i64 cd)).setCell ⟨w2.heap.size, 4, none⟩ (.int .i64 0)) ∧ SpL (((((w3.setCell ⟨w2.heap.size, 0, none⟩ (.int .i64 3)).setCell ⟨w2.heap.size, 1, none⟩ (.int .i64 0)).setCell ⟨w2.heap.size, 2, none⟩ (.int .i64 0)).setCell ⟨w2.heap.size, 3, none⟩ (.int .i64 cd)).setCell ⟨w2.heap.size, 4, none⟩ (.int .i64 0)) w.heap.size [0, 0, 0, 0, 0] from ⟨(((((hS3.setG 0 3).setG 1 0).setG 2 0).setG 3 cd).setG 4 0), (((((HB3.out.setCell (p := ⟨w2.heap.size, 0, none⟩) HSZ.out (.int .i64 3)).setCell (p := ⟨w2.heap.size, 1, none⟩) HSZ.out (.int .i64 0)).setCell (p := ⟨w2.heap.size, 2, none⟩) HSZ.out (.int .i64 0)).setCell (p := ⟨w2.heap.size, 3, none⟩) HSZ.out (.int .i64 cd)).setCell (p := ⟨w2.heap.size, 4, none⟩) HSZ.out (.int .i64 0)), spl_far5 HLT2.out HA3.out⟩)
    clear q3 HA3 HB3 hS3 hz hO hN c1
    go_wp2_with fail
    skip
    skip
    have s0 := HFN.out.1.cell (j := 0) (by simp)
    have s1 := HFN.out.1.cell (j := 1) (by simp)
    have s2 := HFN.out.1.cell (j := 2) (by simp)
    have s3 := HFN.out.1.cell (j := 3) (by simp)
    have s4 := HFN.out.1.cell (j := 4) (by simp)
    simp only [List.getElem?_cons_zero, List.getElem?_cons_succ, Option.getD_some] at s0 s1 s2 s3 s4
    have HT := Lib.hid (refFormat_any 3 0 0 cd 0 (((((w3.setCell ⟨w2.heap.size, 0, none⟩ (.int .i64 3)).setCell ⟨w2.heap.size, 1, none⟩ (.int .i64 0)).setCell ⟨w2.heap.size, 2, none⟩ (.int .i64 0)).setCell ⟨w2.heap.size, 3, none⟩ (.int .i64 cd)).setCell ⟨w2.heap.size, 4, none⟩ (.int .i64 0)) ((HE.out.on HFN.out.2.1).up HFN.out.2.1.size).tab)
    unfold FmtPost at HT
    rw [HSE.out] at HT
    go_wp2_with fail
    refine (Ha.out _).mono ?_
    rintro e w' ⟨rfl, rfl⟩
    go_wp2_with fail
    refine HT.out.mono ?_
    rintro e w6 ⟨rfl, k6⟩
    have HA6 := Lib.hid (HFN.out.2.2.belowV k6 HFN.out.2.2.lt)
    have HB6 := Lib.hid (HFN.out.2.1.trans (k6.mono HFN.out.2.1.size))
    have HS6 := Lib.hid (HFN.out.1.belowV k6 HFN.out.1.lt)
    clear k6 HT s0 s1 s2 s3 s4 HFN
    have a0 := HA6.out.cell (j := 0) (by simp)
    have a1 := HA6.out.cell (j := 1) (by simp)
    have a2 := HA6.out.cell (j := 2) (by simp)
    have a3 := HA6.out.cell (j := 3) (by simp)
    have a4 := HA6.out.cell (j := 4) (by simp)
    simp only [List.getElem?_cons_zero, List.getElem?_cons_succ, Option.getD_some] at a0 a1 a2 a3 a4
    have b0 := HA6.out.froz 0
    have b1 := HA6.out.froz 1
    have b2 := HA6.out.froz 2
    have b3 := HA6.out.froz 3
    have b4 := HA6.out.froz 4
    have s0 := HS6.out.cell (j := 0) (by simp)
    have s1 := HS6.out.cell (j := 1) (by simp)
    have s2 := HS6.out.cell (j := 2) (by simp)
    have s3 := HS6.out.cell (j := 3) (by simp)
    have s4 := HS6.out.cell (j := 4) (by simp)
    simp only [List.getElem?_cons_zero, List.getElem?_cons_succ, Option.getD_some] at s0 s1 s2 s3 s4
    have HF2 := Lib.hid (show SpL (((((w6.setCell ⟨w.heap.size, 0, none⟩ (.int .i64 3)).setCell ⟨w.heap.size, 1, none⟩ (.int .i64 0)).setCell ⟨w.heap.size, 2, none⟩ (.int .i64 0)).setCell ⟨w.heap.size, 3, none⟩ (.int .i64 cd)).setCell ⟨w.heap.size, 4, none⟩ (.int .i64 0)) w.heap.size [3, 0, 0, cd, 0] ∧ Below w.heap.size w (((((w6.setCell ⟨w.heap.size, 0, none⟩ (.int .i64 3)).setCell ⟨w.heap.size, 1, none⟩ (.int .i64 0)).setCell ⟨w.heap.size, 2, none⟩ (.int .i64 0)).setCell ⟨w.heap.size, 3, none⟩ (.int .i64 cd)).setCell ⟨w.heap.size, 4, none⟩ (.int .i64 0)) from ⟨(((((HA6.out.setG 0 3).setG 1 0).setG 2 0).setG 3 cd).setG 4 0), (((((HB6.out.setCell (p := ⟨w.heap.size, 0, none⟩) (Nat.le_refl _) (.int .i64 3)).setCell (p := ⟨w.heap.size, 1, none⟩) (Nat.le_refl _) (.int .i64 0)).setCell (p := ⟨w.heap.size, 2, none⟩) (Nat.le_refl _) (.int .i64 0)).setCell (p := ⟨w.heap.size, 3, none⟩) (Nat.le_refl _) (.int .i64 cd)).setCell (p := ⟨w.heap.size, 4, none⟩) (Nat.le_refl _) (.int .i64 0))⟩)
    go_wp2_with fail
    have r0 := HF2.out.1.cell (j := 0) (by simp)
    have r1 := HF2.out.1.cell (j := 1) (by simp)
    have r2 := HF2.out.1.cell (j := 2) (by simp)
    have r3 := HF2.out.1.cell (j := 3) (by simp)
    have r4 := HF2.out.1.cell (j := 4) (by simp)
    simp only [List.getElem?_cons_zero, List.getElem?_cons_succ, Option.getD_some] at r0 r1 r2 r3 r4
    refine bodyPost_ret (v := .tuple #[aggL [3, 0, 0, cd, 0], .int .i64 0]) (by simp [results, Tryd.f9, go_sem, r0, r1, r2, r3, r4, aggL]) rfl ?_
    exact ⟨rfl, HF2.out.2⟩
set_option maxRecDepth 100000 in
set_option maxHeartbeats 2000000 in
theorem refParse_empty1 (s : ByteArray) (hs : s.size ≤ 100) (w : World) (hE : Env w.heap.size w) (ca cb cc cd ce : Int) (hcs : refSpecL (wordsL s.data.toList) = [ca, cb, cc, cd, ce]) (hn0 : s.toList = []) (hwn : (wordsL s.data.toList).length = 1) :
    Calls Tryd.prog 9 #[.string s] w (ParsePost w [0, 0, 0, 0, 0] 2) := by
  have hsz : (s.size : Int) ≤ 100 := by omega
  have hsz2 : (s.size : Int) ≤ 65536 := by omega
  have hA1 := SpL.ofNew w 0
  have hB1 := below_new w (.cells #[.int .i64 0, .int .i64 0, .int .i64 0, .int .i64 0, .int .i64 0] 23)
  generalize hw1 : w.alloc (.cells #[.int .i64 0, .int .i64 0, .int .i64 0, .int .i64 0, .int .i64 0] 23) = w1 at hA1 hB1
  have HW := Lib.hid (words_any s hs w1)
  unfold WordsPost at HW
  have HE := Lib.hid hE
  clear hE
  go_enter Tryd.func9, Tryd.ntmps9
  go_wp2_with fail
  refine HW.out.mono ?_
  rintro e w2 ⟨g, cap, ws, rfl, hws, hz, hO, k2⟩
  have hA2 := hA1.belowV k2 hA1.lt
  have hB2 := hB1.trans (k2.mono hB1.size)
  have hN := below_new w2 (.cells #[.int .i64 0, .int .i64 0, .int .i64 0, .int .i64 0, .int .i64 0] 23)
  have HA3 := Lib.hid (hA2.belowV hN hA2.lt)
  have HB3 := Lib.hid (hB2.trans (hN.mono hB2.size))
  have hS3 := SpL.ofNew w2 0
  have hgl := own_lt hO
  rw [← hws] at hcs
  have hsz0 : w.heap.size ≤ w2.heap.size := hB2.size
  have hlt0 : w.heap.size < w2.heap.size := hA2.lt
  clear hA1 hB1 hA2 hB2 HW k2
  have HSZ0 := Lib.hid hsz0
  have HLT2 := Lib.hid (show w.heap.size ≠ w2.heap.size from by omega)
  have hn1 : ws.length = 1 := by rw [← hwn, ← hws, bytesOf, List.length_map]
  clear hsz0 hlt0 hwn
  match ws, hn1 with
  | [x], _ =>
    simp only [bytesOf, List.map_cons, List.map_nil, refSpecL, List.cons.injEq, and_true] at hcs
    obtain ⟨rfl, rfl, rfl, rfl, rfl⟩ := hcs
    have a0 := hS3.cell (j := 0) (by simp)
    have a1 := hS3.cell (j := 1) (by simp)
    have a2 := hS3.cell (j := 2) (by simp)
    have a3 := hS3.cell (j := 3) (by simp)
    have a4 := hS3.cell (j := 4) (by simp)
    simp only [List.getElem?_cons_zero, List.getElem?_cons_succ, Option.getD_some] at a0 a1 a2 a3 a4
    have b0 := hS3.froz 0
    have b1 := hS3.froz 1
    have b2 := hS3.froz 2
    have b3 := hS3.froz 3
    have b4 := hS3.froz 4
    have HLT := Lib.hid (show g ≠ w2.heap.size from by omega)
    have hlt3 := hS3.lt
    generalize hw3 : w2.alloc (.cells #[.int .i64 0, .int .i64 0, .int .i64 0, .int .i64 0, .int .i64 0] 23) = w3 at  a0 a1 a2 a3 a4 b0 b1 b2 b3 b4 HA3 HB3 hS3 hlt3
    have HSZ := Lib.hid (show w.heap.size ≤ w2.heap.size from HSZ0.out)
    have HFN := Lib.hid (show SpL (((((w3.setCell ⟨w2.heap.size, 0, none⟩ (.int .i64 4)).setCell ⟨w2.heap.size, 1, none⟩ (.int .i64 0)).setCell ⟨w2.heap.size, 2, none⟩ (.int .i64 0)).setCell ⟨w2.heap.size, 3, none⟩ (.int .i64 0)).setCell ⟨w2.heap.size, 4, none⟩ (.int .i64 0)) w2.heap.size [4, 0, 0, 0, 0] ∧ Below w.heap.size w (((((w3.setCell ⟨w2.heap.size, 0, none⟩ (.int .i64 4)).setCell ⟨w2.heap.size, 1, none⟩ (.int .i64 0)).setCell ⟨w2.heap.size, 2, none⟩ (.int .i64 0)).setCell ⟨w2.heap.size, 3, none⟩ (.int .i64 0)).setCell ⟨w2.heap.size, 4, none⟩ (.int .i64 0)) ∧ SpL (((((w3.setCell ⟨w2.heap.size, 0, none⟩ (.int .i64 4)).setCell ⟨w2.heap.size, 1, none⟩ (.int .i64 0)).setCell ⟨w2.heap.size, 2, none⟩ (.int .i64 0)).setCell ⟨w2.heap.size, 3, none⟩ (.int .i64 0)).setCell ⟨w2.heap.size, 4, none⟩ (.int .i64 0)) w.heap.size [0, 0, 0, 0, 0] from ⟨(((((hS3.setG 0 4).setG 1 0).setG 2 0).setG 3 0).setG 4 0), (((((HB3.out.setCell (p := ⟨w2.heap.size, 0, none⟩) HSZ.out (.int .i64 4)).setCell (p := ⟨w2.heap.size, 1, none⟩) HSZ.out (.int .i64 0)).setCell (p := ⟨w2.heap.size, 2, none⟩) HSZ.out (.int .i64 0)).setCell (p := ⟨w2.heap.size, 3, none⟩) HSZ.out (.int .i64 0)).setCell (p := ⟨w2.heap.size, 4, none⟩) HSZ.out (.int .i64 0)), spl_far5 HLT2.out HA3.out⟩)
    clear  HA3 HB3 hS3 hz hO hN
    skip
    skip
    have s0 := HFN.out.1.cell (j := 0) (by simp)
    have s1 := HFN.out.1.cell (j := 1) (by simp)
    have s2 := HFN.out.1.cell (j := 2) (by simp)
    have s3 := HFN.out.1.cell (j := 3) (by simp)
    have s4 := HFN.out.1.cell (j := 4) (by simp)
    simp only [List.getElem?_cons_zero, List.getElem?_cons_succ, Option.getD_some] at s0 s1 s2 s3 s4
    have HA6 := Lib.hid HFN.out.2.2
    have HB6 := Lib.hid HFN.out.2.1
    have a0 := HA6.out.cell (j := 0) (by simp)
    have a1 := HA6.out.cell (j := 1) (by simp)
    have a2 := HA6.out.cell (j := 2) (by simp)
    have a3 := HA6.out.cell (j := 3) (by simp)
    have a4 := HA6.out.cell (j := 4) (by simp)
    simp only [List.getElem?_cons_zero, List.getElem?_cons_succ, Option.getD_some] at a0 a1 a2 a3 a4
    have b0 := HA6.out.froz 0
    have b1 := HA6.out.froz 1
    have b2 := HA6.out.froz 2
    have b3 := HA6.out.froz 3
    have b4 := HA6.out.froz 4
    have HF2 := Lib.hid (show SpL ((((((((((w3.setCell ⟨w2.heap.size, 0, none⟩ (.int .i64 4)).setCell ⟨w2.heap.size, 1, none⟩ (.int .i64 0)).setCell ⟨w2.heap.size, 2, none⟩ (.int .i64 0)).setCell ⟨w2.heap.size, 3, none⟩ (.int .i64 0)).setCell ⟨w2.heap.size, 4, none⟩ (.int .i64 0)).setCell ⟨w.heap.size, 0, none⟩ (.int .i64 0)).setCell ⟨w.heap.size, 1, none⟩ (.int .i64 0)).setCell ⟨w.heap.size, 2, none⟩ (.int .i64 0)).setCell ⟨w.heap.size, 3, none⟩ (.int .i64 0)).setCell ⟨w.heap.size, 4, none⟩ (.int .i64 0)) w.heap.size [0, 0, 0, 0, 0] ∧ Below w.heap.size w ((((((((((w3.setCell ⟨w2.heap.size, 0, none⟩ (.int .i64 4)).setCell ⟨w2.heap.size, 1, none⟩ (.int .i64 0)).setCell ⟨w2.heap.size, 2, none⟩ (.int .i64 0)).setCell ⟨w2.heap.size, 3, none⟩ (.int .i64 0)).setCell ⟨w2.heap.size, 4, none⟩ (.int .i64 0)).setCell ⟨w.heap.size, 0, none⟩ (.int .i64 0)).setCell ⟨w.heap.size, 1, none⟩ (.int .i64 0)).setCell ⟨w.heap.size, 2, none⟩ (.int .i64 0)).setCell ⟨w.heap.size, 3, none⟩ (.int .i64 0)).setCell ⟨w.heap.size, 4, none⟩ (.int .i64 0)) from ⟨(((((HA6.out.setG 0 0).setG 1 0).setG 2 0).setG 3 0).setG 4 0), (((((HB6.out.setCell (p := ⟨w.heap.size, 0, none⟩) (Nat.le_refl _) (.int .i64 0)).setCell (p := ⟨w.heap.size, 1, none⟩) (Nat.le_refl _) (.int .i64 0)).setCell (p := ⟨w.heap.size, 2, none⟩) (Nat.le_refl _) (.int .i64 0)).setCell (p := ⟨w.heap.size, 3, none⟩) (Nat.le_refl _) (.int .i64 0)).setCell (p := ⟨w.heap.size, 4, none⟩) (Nat.le_refl _) (.int .i64 0))⟩)
    go_wp2_with fail
    have r0 := HF2.out.1.cell (j := 0) (by simp)
    have r1 := HF2.out.1.cell (j := 1) (by simp)
    have r2 := HF2.out.1.cell (j := 2) (by simp)
    have r3 := HF2.out.1.cell (j := 3) (by simp)
    have r4 := HF2.out.1.cell (j := 4) (by simp)
    simp only [List.getElem?_cons_zero, List.getElem?_cons_succ, Option.getD_some] at r0 r1 r2 r3 r4
    refine bodyPost_ret (v := .tuple #[aggL [0, 0, 0, 0, 0], .int .i64 2]) (by simp [results, Tryd.f9, go_sem, r0, r1, r2, r3, r4, aggL]) rfl ?_
    exact ⟨rfl, HF2.out.2⟩
end Go.Proofs.YtakekegghpgeaaaDoor
