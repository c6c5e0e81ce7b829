/-
  Parse of the document's own clock, at any other number of words.
-/
import Derived.Test.YtakekegghpgeaaaDoorRb
namespace Go.Proofs.YtakekegghpgeaaaDoor
open Go.RowKit Go.Lib
set_option linter.unusedSimpArgs false
set_option linter.unusedVariables false

set_option maxRecDepth 100000 in
set_option maxHeartbeats 2000000 in
theorem refParse_badO (s : ByteArray) (hs : s.size ≤ 100) (w : World) (hE : Env w.heap.size w) (ca cb cc cd ce : Int) (hcs : refSpecL (wordsL s.data.toList) = [ca, cb, cc, cd, ce]) (hn0 : ¬ (s.toList = [])) (h1 : (wordsL s.data.toList).length ≠ 1) (h2 : (wordsL s.data.toList).length ≠ 2) (h3 : (wordsL s.data.toList).length ≠ 3) (h4 : (wordsL s.data.toList).length ≠ 4) :
    Calls Tryd.prog 9 #[.string s] w (ParsePost w [0, 0, 0, 0, 0] 2) := by
  have HNE := Lib.hid (show ((⟨(fmtT 0 0 0 0 0).toArray⟩ : ByteArray).toList == s.toList) = false from by
    rw [ByteArray.toList_eq, ByteArray.toList_eq, beq_eq_false_iff_ne]
    intro h
    exact hn0 (by rw [ByteArray.toList_eq, ← h]; rfl))
  have hsz : (s.size : Int) ≤ 100 := by omega
  have hsz2 : (s.size : Int) ≤ 65536 := by omega
  have hA1 := SpL.ofNew w 0
  have hB1 := below_new w (.cells #[.int .i64 0, .int .i64 0, .int .i64 0, .int .i64 0, .int .i64 0] 23)
  generalize hw1 : w.alloc (.cells #[.int .i64 0, .int .i64 0, .int .i64 0, .int .i64 0, .int .i64 0] 23) = w1 at hA1 hB1
  have HW := Lib.hid (words_any s hs w1)
  unfold WordsPost at HW
  have HE := Lib.hid hE
  clear hE
  go_enter Tryd.func9, Tryd.ntmps9
  go_wp2_with fail
  refine HW.out.mono ?_
  rintro e w2 ⟨g, cap, ws, rfl, hws, hz, hO, k2⟩
  have hA2 := hA1.belowV k2 hA1.lt
  have hB2 := hB1.trans (k2.mono hB1.size)
  have hN := below_new w2 (.cells #[.int .i64 0, .int .i64 0, .int .i64 0, .int .i64 0, .int .i64 0] 23)
  have HA3 := Lib.hid (hA2.belowV hN hA2.lt)
  have HB3 := Lib.hid (hB2.trans (hN.mono hB2.size))
  have hS3 := SpL.ofNew w2 0
  have hgl := own_lt hO
  rw [← hws] at hcs
  have hsz0 : w.heap.size ≤ w2.heap.size := hB2.size
  have hlt0 : w.heap.size < w2.heap.size := hA2.lt
  clear hA1 hB1 hA2 hB2 HW k2
  have hl : ws.length = (wordsL s.data.toList).length := by rw [← hws, bytesOf, List.length_map]
  rw [← hl] at h1 h2 h3 h4
  have e1 : ((ws.length : Int) == 1) = false := by rw [beq_eq_false_iff_ne]; omega
  have e2 : ((ws.length : Int) == 2) = false := by rw [beq_eq_false_iff_ne]; omega
  have e3 : ((ws.length : Int) == 3) = false := by rw [beq_eq_false_iff_ne]; omega
  have e4 : ((ws.length : Int) == 4) = false := by rw [beq_eq_false_iff_ne]; omega
  have f1 : ¬ ((ws.length : Int) = 1) := by omega
  have f2 : ¬ ((ws.length : Int) = 2) := by omega
  have f3 : ¬ ((ws.length : Int) = 3) := by omega
  have f4 : ¬ ((ws.length : Int) = 4) := by omega
  clear hsz0 hlt0 h1 h2 h3 h4 hl hz hO hws hcs
  generalize hw3 : w2.alloc (.cells #[.int .i64 0, .int .i64 0, .int .i64 0, .int .i64 0, .int .i64 0] 23) = w3 at HA3 HB3 hS3 hN
  have HFN := Lib.hid (show SpL w3 w2.heap.size [0, 0, 0, 0, 0] ∧ Below w.heap.size w w3 ∧ SpL w3 w.heap.size [0, 0, 0, 0, 0] from ⟨hS3, HB3.out, HA3.out⟩)
  clear HA3 HB3 hS3 hN
  have s0 := HFN.out.1.cell (j := 0) (by simp)
  have s1 := HFN.out.1.cell (j := 1) (by simp)
  have s2 := HFN.out.1.cell (j := 2) (by simp)
  have s3 := HFN.out.1.cell (j := 3) (by simp)
  have s4 := HFN.out.1.cell (j := 4) (by simp)
  simp only [List.getElem?_cons_zero, List.getElem?_cons_succ, Option.getD_some] at s0 s1 s2 s3 s4
  have HT := Lib.hid (refFormat_any 0 0 0 0 0 w3 ((HE.out.on HFN.out.2.1).up HFN.out.2.1.size).tab)
  unfold FmtPost at HT
  have hne := HNE.out
  generalize (⟨(fmtT 0 0 0 0 0).toArray⟩ : ByteArray) = t at hne HT
  go_wp2_with fail
  refine HT.out.mono ?_
  rintro e w6 ⟨rfl, k6⟩
  have HA6 := Lib.hid (HFN.out.2.2.belowV k6 HFN.out.2.2.lt)
  have HB6 := Lib.hid (HFN.out.2.1.trans (k6.mono HFN.out.2.1.size))
  have HS6 := Lib.hid (HFN.out.1.belowV k6 HFN.out.1.lt)
  clear k6 HT s0 s1 s2 s3 s4 HFN
  have a0 := HA6.out.cell (j := 0) (by simp)
  have a1 := HA6.out.cell (j := 1) (by simp)
  have a2 := HA6.out.cell (j := 2) (by simp)
  have a3 := HA6.out.cell (j := 3) (by simp)
  have a4 := HA6.out.cell (j := 4) (by simp)
  simp only [List.getElem?_cons_zero, List.getElem?_cons_succ, Option.getD_some] at a0 a1 a2 a3 a4
  have b0 := HA6.out.froz 0
  have b1 := HA6.out.froz 1
  have b2 := HA6.out.froz 2
  have b3 := HA6.out.froz 3
  have b4 := HA6.out.froz 4
  have s0 := HS6.out.cell (j := 0) (by simp)
  have s1 := HS6.out.cell (j := 1) (by simp)
  have s2 := HS6.out.cell (j := 2) (by simp)
  have s3 := HS6.out.cell (j := 3) (by simp)
  have s4 := HS6.out.cell (j := 4) (by simp)
  simp only [List.getElem?_cons_zero, List.getElem?_cons_succ, Option.getD_some] at s0 s1 s2 s3 s4
  have HF2 := Lib.hid (show SpL (((((w6.setCell ⟨w.heap.size, 0, none⟩ (.int .i64 0)).setCell ⟨w.heap.size, 1, none⟩ (.int .i64 0)).setCell ⟨w.heap.size, 2, none⟩ (.int .i64 0)).setCell ⟨w.heap.size, 3, none⟩ (.int .i64 0)).setCell ⟨w.heap.size, 4, none⟩ (.int .i64 0)) w.heap.size [0, 0, 0, 0, 0] ∧ Below w.heap.size w (((((w6.setCell ⟨w.heap.size, 0, none⟩ (.int .i64 0)).setCell ⟨w.heap.size, 1, none⟩ (.int .i64 0)).setCell ⟨w.heap.size, 2, none⟩ (.int .i64 0)).setCell ⟨w.heap.size, 3, none⟩ (.int .i64 0)).setCell ⟨w.heap.size, 4, none⟩ (.int .i64 0)) from ⟨(((((HA6.out.setG 0 0).setG 1 0).setG 2 0).setG 3 0).setG 4 0), (((((HB6.out.setCell (p := ⟨w.heap.size, 0, none⟩) (Nat.le_refl _) (.int .i64 0)).setCell (p := ⟨w.heap.size, 1, none⟩) (Nat.le_refl _) (.int .i64 0)).setCell (p := ⟨w.heap.size, 2, none⟩) (Nat.le_refl _) (.int .i64 0)).setCell (p := ⟨w.heap.size, 3, none⟩) (Nat.le_refl _) (.int .i64 0)).setCell (p := ⟨w.heap.size, 4, none⟩) (Nat.le_refl _) (.int .i64 0))⟩)
  go_wp2_with fail
  have r0 := HF2.out.1.cell (j := 0) (by simp)
  have r1 := HF2.out.1.cell (j := 1) (by simp)
  have r2 := HF2.out.1.cell (j := 2) (by simp)
  have r3 := HF2.out.1.cell (j := 3) (by simp)
  have r4 := HF2.out.1.cell (j := 4) (by simp)
  simp only [List.getElem?_cons_zero, List.getElem?_cons_succ, Option.getD_some] at r0 r1 r2 r3 r4
  refine bodyPost_ret (v := .tuple #[aggL [0, 0, 0, 0, 0], .int .i64 2]) (by simp [results, Tryd.f9, go_sem, r0, r1, r2, r3, r4, aggL]) rfl ?_
  exact ⟨rfl, HF2.out.2⟩
end Go.Proofs.YtakekegghpgeaaaDoor
