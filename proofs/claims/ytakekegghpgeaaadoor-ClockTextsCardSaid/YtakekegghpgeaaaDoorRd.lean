/-
  Parse of the document's own clock, as a contract.
-/
import Derived.Test.YtakekegghpgeaaaDoorRcA
import Derived.Test.YtakekegghpgeaaaDoorRcB
import Derived.Test.YtakekegghpgeaaaDoorRcC
import Derived.Test.YtakekegghpgeaaaDoorRcD
import Derived.Test.YtakekegghpgeaaaDoorRcE
namespace Go.Proofs.YtakekegghpgeaaaDoor
open Go.RowKit Go.Lib

theorem refParse_good (s : ByteArray) (hs : s.size ≤ 100) (w : World) (hE : Env w.heap.size w) (cs : List Int) (h : parseOK s.data.toList cs) :
    Calls Tryd.prog 9 #[.string s] w (ParsePost w cs 0) := by
  obtain ⟨k, sz, st, g, sh, rfl, hok, ht⟩ := h
  have hw : wordsL s.data.toList = nameT k :: (numsT k sz st g sh).map itoa := by rw [← ht]; exact specT_words k sz st g sh
  have hcs : refSpecL (wordsL s.data.toList) = [k, sz, st, g, sh] := by rw [hw]; exact refSpecL_spec hok
  have hp := (specOK_iff k sz st g sh).1 hok
  unfold specP at hp
  rcases hp with ⟨rfl, _⟩ | ⟨rfl, _⟩ | ⟨rfl, _⟩ | ⟨rfl, _⟩
  · exact refParse_ok3 s hs w hE _ _ _ _ _ hcs hok ht (by rw [hw]; rfl)
  · exact refParse_ok4 s hs w hE _ _ _ _ _ hcs hok ht (by rw [hw]; rfl)
  · exact refParse_ok2 s hs w hE _ _ _ _ _ hcs hok ht (by rw [hw]; rfl)
  · exact refParse_ok1 s hs w hE _ _ _ _ _ hcs hok ht (by rw [hw]; rfl)
theorem refParse_not (s : ByteArray) (hs : s.size ≤ 100) (w : World) (hE : Env w.heap.size w) (h : ∀ cs, ¬ parseOK s.data.toList cs) :
    Calls Tryd.prog 9 #[.string s] w (ParsePost w [0, 0, 0, 0, 0] 2) := by
  obtain ⟨ca, cb, cc, cd, ce, hcs⟩ := five (refSpecL_len (wordsL s.data.toList))
  by_cases hn0 : s.toList = []
  · refine refParse_empty1 s hs w hE ca cb cc cd ce hcs hn0 ?_
    rw [ByteArray.toList_eq] at hn0
    rw [hn0]; rfl
  by_cases h1 : (wordsL s.data.toList).length = 1
  · exact refParse_bad1 s hs w hE ca cb cc cd ce hcs hn0 (h _) h1
  by_cases h2 : (wordsL s.data.toList).length = 2
  · exact refParse_bad2 s hs w hE ca cb cc cd ce hcs hn0 (h _) h2
  by_cases h3 : (wordsL s.data.toList).length = 3
  · exact refParse_bad3 s hs w hE ca cb cc cd ce hcs hn0 (h _) h3
  by_cases h4 : (wordsL s.data.toList).length = 4
  · exact refParse_bad4 s hs w hE ca cb cc cd ce hcs hn0 (h _) h4
  exact refParse_badO s hs w hE ca cb cc cd ce hcs hn0 h1 h2 h3 h4
set_option maxRecDepth 100000 in
theorem refParse_long (s : ByteArray) (h1 : 100 < s.size) (hs : s.size ≤ 65536) (w : World) :
    Calls Tryd.prog 9 #[.string s] w (ParsePost w [0, 0, 0, 0, 0] 2) := by
  have hsz : (s.size : Int) ≤ 65536 := by omega
  have hsz2 : (100 : Int) < (s.size : Int) := by omega
  have HA6 := Lib.hid (SpL.ofNew w 0)
  have HB6 := Lib.hid (below_new w (.cells #[.int .i64 0, .int .i64 0, .int .i64 0, .int .i64 0, .int .i64 0] 23))
  generalize hw1 : w.alloc (.cells #[.int .i64 0, .int .i64 0, .int .i64 0, .int .i64 0, .int .i64 0] 23) = w1 at HA6 HB6
  have a0 := HA6.out.cell (j := 0) (by simp)
  have a1 := HA6.out.cell (j := 1) (by simp)
  have a2 := HA6.out.cell (j := 2) (by simp)
  have a3 := HA6.out.cell (j := 3) (by simp)
  have a4 := HA6.out.cell (j := 4) (by simp)
  simp only [List.getElem?_cons_zero, List.getElem?_cons_succ, Option.getD_some] at a0 a1 a2 a3 a4
  have b0 := HA6.out.froz 0
  have b1 := HA6.out.froz 1
  have b2 := HA6.out.froz 2
  have b3 := HA6.out.froz 3
  have b4 := HA6.out.froz 4
  go_enter Tryd.func9, Tryd.ntmps9
  have HF2 := Lib.hid (show SpL (((((w1.setCell ⟨w.heap.size, 0, none⟩ (.int .i64 0)).setCell ⟨w.heap.size, 1, none⟩ (.int .i64 0)).setCell ⟨w.heap.size, 2, none⟩ (.int .i64 0)).setCell ⟨w.heap.size, 3, none⟩ (.int .i64 0)).setCell ⟨w.heap.size, 4, none⟩ (.int .i64 0)) w.heap.size [0, 0, 0, 0, 0] ∧ Below w.heap.size w (((((w1.setCell ⟨w.heap.size, 0, none⟩ (.int .i64 0)).setCell ⟨w.heap.size, 1, none⟩ (.int .i64 0)).setCell ⟨w.heap.size, 2, none⟩ (.int .i64 0)).setCell ⟨w.heap.size, 3, none⟩ (.int .i64 0)).setCell ⟨w.heap.size, 4, none⟩ (.int .i64 0)) from ⟨(((((HA6.out.setG 0 0).setG 1 0).setG 2 0).setG 3 0).setG 4 0), (((((HB6.out.setCell (p := ⟨w.heap.size, 0, none⟩) (Nat.le_refl _) (.int .i64 0)).setCell (p := ⟨w.heap.size, 1, none⟩) (Nat.le_refl _) (.int .i64 0)).setCell (p := ⟨w.heap.size, 2, none⟩) (Nat.le_refl _) (.int .i64 0)).setCell (p := ⟨w.heap.size, 3, none⟩) (Nat.le_refl _) (.int .i64 0)).setCell (p := ⟨w.heap.size, 4, none⟩) (Nat.le_refl _) (.int .i64 0))⟩)
  go_wp2_with fail
  have r0 := HF2.out.1.cell (j := 0) (by simp)
  have r1 := HF2.out.1.cell (j := 1) (by simp)
  have r2 := HF2.out.1.cell (j := 2) (by simp)
  have r3 := HF2.out.1.cell (j := 3) (by simp)
  have r4 := HF2.out.1.cell (j := 4) (by simp)
  simp only [List.getElem?_cons_zero, List.getElem?_cons_succ, Option.getD_some] at r0 r1 r2 r3 r4
  refine bodyPost_ret (v := .tuple #[aggL [0, 0, 0, 0, 0], .int .i64 2]) (by simp [results, Tryd.f9, go_sem, r0, r1, r2, r3, r4, aggL]) rfl ?_
  exact ⟨rfl, HF2.out.2⟩
set_option maxRecDepth 100000 in
theorem refParse_vlong (s : ByteArray) (hs : 65536 < s.size) (w : World) :
    Calls Tryd.prog 9 #[.string s] w (ParsePost w [0, 0, 0, 0, 0] 3) := by
  have hsz : (65536 : Int) < (s.size : Int) := by omega
  have HA6 := Lib.hid (SpL.ofNew w 0)
  have HB6 := Lib.hid (below_new w (.cells #[.int .i64 0, .int .i64 0, .int .i64 0, .int .i64 0, .int .i64 0] 23))
  generalize hw1 : w.alloc (.cells #[.int .i64 0, .int .i64 0, .int .i64 0, .int .i64 0, .int .i64 0] 23) = w1 at HA6 HB6
  have a0 := HA6.out.cell (j := 0) (by simp)
  have a1 := HA6.out.cell (j := 1) (by simp)
  have a2 := HA6.out.cell (j := 2) (by simp)
  have a3 := HA6.out.cell (j := 3) (by simp)
  have a4 := HA6.out.cell (j := 4) (by simp)
  simp only [List.getElem?_cons_zero, List.getElem?_cons_succ, Option.getD_some] at a0 a1 a2 a3 a4
  have b0 := HA6.out.froz 0
  have b1 := HA6.out.froz 1
  have b2 := HA6.out.froz 2
  have b3 := HA6.out.froz 3
  have b4 := HA6.out.froz 4
  go_enter Tryd.func9, Tryd.ntmps9
  have HF2 := Lib.hid (show SpL (((((w1.setCell ⟨w.heap.size, 0, none⟩ (.int .i64 0)).setCell ⟨w.heap.size, 1, none⟩ (.int .i64 0)).setCell ⟨w.heap.size, 2, none⟩ (.int .i64 0)).setCell ⟨w.heap.size, 3, none⟩ (.int .i64 0)).setCell ⟨w.heap.size, 4, none⟩ (.int .i64 0)) w.heap.size [0, 0, 0, 0, 0] ∧ Below w.heap.size w (((((w1.setCell ⟨w.heap.size, 0, none⟩ (.int .i64 0)).setCell ⟨w.heap.size, 1, none⟩ (.int .i64 0)).setCell ⟨w.heap.size, 2, none⟩ (.int .i64 0)).setCell ⟨w.heap.size, 3, none⟩ (.int .i64 0)).setCell ⟨w.heap.size, 4, none⟩ (.int .i64 0)) from ⟨(((((HA6.out.setG 0 0).setG 1 0).setG 2 0).setG 3 0).setG 4 0), (((((HB6.out.setCell (p := ⟨w.heap.size, 0, none⟩) (Nat.le_refl _) (.int .i64 0)).setCell (p := ⟨w.heap.size, 1, none⟩) (Nat.le_refl _) (.int .i64 0)).setCell (p := ⟨w.heap.size, 2, none⟩) (Nat.le_refl _) (.int .i64 0)).setCell (p := ⟨w.heap.size, 3, none⟩) (Nat.le_refl _) (.int .i64 0)).setCell (p := ⟨w.heap.size, 4, none⟩) (Nat.le_refl _) (.int .i64 0))⟩)
  go_wp2_with fail
  have r0 := HF2.out.1.cell (j := 0) (by simp)
  have r1 := HF2.out.1.cell (j := 1) (by simp)
  have r2 := HF2.out.1.cell (j := 2) (by simp)
  have r3 := HF2.out.1.cell (j := 3) (by simp)
  have r4 := HF2.out.1.cell (j := 4) (by simp)
  simp only [List.getElem?_cons_zero, List.getElem?_cons_succ, Option.getD_some] at r0 r1 r2 r3 r4
  refine bodyPost_ret (v := .tuple #[aggL [0, 0, 0, 0, 0], .int .i64 3]) (by simp [results, Tryd.f9, go_sem, r0, r1, r2, r3, r4, aggL]) rfl ?_
  exact ⟨rfl, HF2.out.2⟩
set_option maxRecDepth 100000 in
theorem clkParse_vlong (s : ByteArray) (hs : 65536 < s.size) (w : World) :
    Calls Tryd.prog 7 #[.string s] w (ParsePost w [0, 0, 0, 0, 0] 3) := by
  have hsz : (65536 : Int) < (s.size : Int) := by omega
  have HA6 := Lib.hid (SpL.ofNew w 0)
  have HB6 := Lib.hid (below_new w (.cells #[.int .i64 0, .int .i64 0, .int .i64 0, .int .i64 0, .int .i64 0] 23))
  generalize hw1 : w.alloc (.cells #[.int .i64 0, .int .i64 0, .int .i64 0, .int .i64 0, .int .i64 0] 23) = w1 at HA6 HB6
  have a0 := HA6.out.cell (j := 0) (by simp)
  have a1 := HA6.out.cell (j := 1) (by simp)
  have a2 := HA6.out.cell (j := 2) (by simp)
  have a3 := HA6.out.cell (j := 3) (by simp)
  have a4 := HA6.out.cell (j := 4) (by simp)
  simp only [List.getElem?_cons_zero, List.getElem?_cons_succ, Option.getD_some] at a0 a1 a2 a3 a4
  have b0 := HA6.out.froz 0
  have b1 := HA6.out.froz 1
  have b2 := HA6.out.froz 2
  have b3 := HA6.out.froz 3
  have b4 := HA6.out.froz 4
  go_enter Tryd.func7, Tryd.ntmps7
  have HF2 := Lib.hid (show SpL (((((w1.setCell ⟨w.heap.size, 0, none⟩ (.int .i64 0)).setCell ⟨w.heap.size, 1, none⟩ (.int .i64 0)).setCell ⟨w.heap.size, 2, none⟩ (.int .i64 0)).setCell ⟨w.heap.size, 3, none⟩ (.int .i64 0)).setCell ⟨w.heap.size, 4, none⟩ (.int .i64 0)) w.heap.size [0, 0, 0, 0, 0] ∧ Below w.heap.size w (((((w1.setCell ⟨w.heap.size, 0, none⟩ (.int .i64 0)).setCell ⟨w.heap.size, 1, none⟩ (.int .i64 0)).setCell ⟨w.heap.size, 2, none⟩ (.int .i64 0)).setCell ⟨w.heap.size, 3, none⟩ (.int .i64 0)).setCell ⟨w.heap.size, 4, none⟩ (.int .i64 0)) from ⟨(((((HA6.out.setG 0 0).setG 1 0).setG 2 0).setG 3 0).setG 4 0), (((((HB6.out.setCell (p := ⟨w.heap.size, 0, none⟩) (Nat.le_refl _) (.int .i64 0)).setCell (p := ⟨w.heap.size, 1, none⟩) (Nat.le_refl _) (.int .i64 0)).setCell (p := ⟨w.heap.size, 2, none⟩) (Nat.le_refl _) (.int .i64 0)).setCell (p := ⟨w.heap.size, 3, none⟩) (Nat.le_refl _) (.int .i64 0)).setCell (p := ⟨w.heap.size, 4, none⟩) (Nat.le_refl _) (.int .i64 0))⟩)
  go_wp2_with fail
  have r0 := HF2.out.1.cell (j := 0) (by simp)
  have r1 := HF2.out.1.cell (j := 1) (by simp)
  have r2 := HF2.out.1.cell (j := 2) (by simp)
  have r3 := HF2.out.1.cell (j := 3) (by simp)
  have r4 := HF2.out.1.cell (j := 4) (by simp)
  simp only [List.getElem?_cons_zero, List.getElem?_cons_succ, Option.getD_some] at r0 r1 r2 r3 r4
  refine bodyPost_ret (v := .tuple #[aggL [0, 0, 0, 0, 0], .int .i64 3]) (by simp [results, Tryd.f9, go_sem, r0, r1, r2, r3, r4, aggL]) rfl ?_
  exact ⟨rfl, HF2.out.2⟩

theorem clkParse_good (s : ByteArray) (hs : s.size ≤ 65536) (w : World) (hE : Env w.heap.size w) (cs : List Int) (h : parseOK s.data.toList cs) :
    Calls Tryd.prog 7 #[.string s] w (ParsePost w cs 0) := by
  obtain ⟨k, sz, st, g, sh, rfl, hok, ht⟩ := h
  exact (clkParse_any s hs w hE k sz st g sh (read_spec hok _ (splitW_bytes ht.symm))).1 ⟨k, sz, st, g, sh, rfl, hok, ht⟩
theorem clkParse_not (s : ByteArray) (hs : s.size ≤ 65536) (w : World) (hE : Env w.heap.size w) (h : ∀ cs, ¬ parseOK s.data.toList cs) :
    Calls Tryd.prog 7 #[.string s] w (ParsePost w [0, 0, 0, 0, 0] 2) := by
  obtain ⟨ca, cb, cc, cd, ce, hcs⟩ := five (readFrom_len (splitW s) 4 1)
  exact (clkParse_any s hs w hE ca cb cc cd ce hcs).2 (h _)

end Go.Proofs.YtakekegghpgeaaaDoor
