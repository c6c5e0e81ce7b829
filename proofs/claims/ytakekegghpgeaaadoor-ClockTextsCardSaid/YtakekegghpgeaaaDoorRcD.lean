/-
  Parse of the document's own clock, by the number of words.
-/
import Derived.Test.YtakekegghpgeaaaDoorRb
namespace Go.Proofs.YtakekegghpgeaaaDoor
open Go.RowKit Go.Lib
set_option linter.unusedSimpArgs false
set_option linter.unusedVariables false

set_option maxRecDepth 100000 in
set_option maxHeartbeats 2000000 in
theorem refParse_bad3 (s : ByteArray) (hs : s.size ≤ 100) (w : World) (hE : Env w.heap.size w) (ca cb cc cd ce : Int) (hcs : refSpecL (wordsL s.data.toList) = [ca, cb, cc, cd, ce]) (hn0 : ¬ (s.toList = [])) (hbad : ¬ parseOK s.data.toList [ca, cb, cc, cd, ce]) (hwn : (wordsL s.data.toList).length = 3) :
    Calls Tryd.prog 9 #[.string s] w (ParsePost w [0, 0, 0, 0, 0] 2) := by
  have HNE := Lib.hid (show ((⟨(fmtT ca cb cc cd ce).toArray⟩ : ByteArray).toList == s.toList) = false from by
    rw [ByteArray.toList_eq, ByteArray.toList_eq, beq_eq_false_iff_ne]
    intro h
    unfold fmtT at h
    split at h
    · rename_i hok
      exact hbad ⟨ca, cb, cc, cd, ce, rfl, hok, h⟩
    · exact hn0 (by rw [ByteArray.toList_eq, ← h]))
  clear hbad
  have hsz : (s.size : Int) ≤ 100 := by omega
  have hsz2 : (s.size : Int) ≤ 65536 := by omega
  have hA1 := SpL.ofNew w 0
  have hB1 := below_new w (.cells #[.int .i64 0, .int .i64 0, .int .i64 0, .int .i64 0, .int .i64 0] 23)
  generalize hw1 : w.alloc (.cells #[.int .i64 0, .int .i64 0, .int .i64 0, .int .i64 0, .int .i64 0] 23) = w1 at hA1 hB1
  have HW := Lib.hid (words_any s hs w1)
  unfold WordsPost at HW
  have HE := Lib.hid hE
  clear hE
  go_enter Tryd.func9, Tryd.ntmps9
  go_wp2_with fail
  refine HW.out.mono ?_
  rintro e w2 ⟨g, cap, ws, rfl, hws, hz, hO, k2⟩
  have hA2 := hA1.belowV k2 hA1.lt
  have hB2 := hB1.trans (k2.mono hB1.size)
  have hN := below_new w2 (.cells #[.int .i64 0, .int .i64 0, .int .i64 0, .int .i64 0, .int .i64 0] 23)
  have HA3 := Lib.hid (hA2.belowV hN hA2.lt)
  have HB3 := Lib.hid (hB2.trans (hN.mono hB2.size))
  have hS3 := SpL.ofNew w2 0
  have hgl := own_lt hO
  rw [← hws] at hcs
  have hsz0 : w.heap.size ≤ w2.heap.size := hB2.size
  have hlt0 : w.heap.size < w2.heap.size := hA2.lt
  clear hA1 hB1 hA2 hB2 HW k2
  have HSZ0 := Lib.hid hsz0
  have HLT2 := Lib.hid (show w.heap.size ≠ w2.heap.size from by omega)
  have hn3 : ws.length = 3 := by rw [← hwn, ← hws, bytesOf, List.length_map]
  clear hsz0 hlt0 hwn
  match ws, hn3 with
  | [x, a, b], _ =>
    have c1 : w2.cell? ⟨g, 1, none⟩ = some (.string a) := (hO.cellAt 1 (by simp)).trans rfl
    have d1 := (hN.cell (p := ⟨g, 1, none⟩) hgl).trans c1
    have Ha := Lib.hid fun W => refNumber_any a (hz a (by simp)) W
    have c2 : w2.cell? ⟨g, 2, none⟩ = some (.string b) := (hO.cellAt 2 (by simp)).trans rfl
    have d2 := (hN.cell (p := ⟨g, 2, none⟩) hgl).trans c2
    have Hb := Lib.hid fun W => refNumber_any b (hz b (by simp)) W
    simp only [bytesOf, List.map_cons, List.map_nil, refSpecL, List.cons.injEq, and_true] at hcs
    obtain ⟨rfl, q1, rfl, rfl, q4⟩ := hcs
    rw [q1] at Ha
    rw [q4] at Hb
    have a0 := hS3.cell (j := 0) (by simp)
    have a1 := hS3.cell (j := 1) (by simp)
    have a2 := hS3.cell (j := 2) (by simp)
    have a3 := hS3.cell (j := 3) (by simp)
    have a4 := hS3.cell (j := 4) (by simp)
    simp only [List.getElem?_cons_zero, List.getElem?_cons_succ, Option.getD_some] at a0 a1 a2 a3 a4
    have b0 := hS3.froz 0
    have b1 := hS3.froz 1
    have b2 := hS3.froz 2
    have b3 := hS3.froz 3
    have b4 := hS3.froz 4
    have HLT := Lib.hid (show g ≠ w2.heap.size from by omega)
    have hlt3 := hS3.lt
    generalize hw3 : w2.alloc (.cells #[.int .i64 0, .int .i64 0, .int .i64 0, .int .i64 0, .int .i64 0] 23) = w3 at d1 d2 a0 a1 a2 a3 a4 b0 b1 b2 b3 b4 HA3 HB3 hS3 hlt3
    have HSZ := Lib.hid (show w.heap.size ≤ w2.heap.size from HSZ0.out)
    have HFN := Lib.hid (show SpL (((((w3.setCell ⟨w2.heap.size, 0, none⟩ (.int .i64 1)).setCell ⟨w2.heap.size, 1, none⟩ (.int .i64 cb)).setCell ⟨w2.heap.size, 2, none⟩ (.int .i64 0)).setCell ⟨w2.heap.size, 3, none⟩ (.int .i64 0)).setCell ⟨w2.heap.size, 4, none⟩ (.int .i64 ce)).drew w2.heap.size [1, cb, 0, 0, ce] ∧ Below w.heap.size w (((((w3.setCell ⟨w2.heap.size, 0, none⟩ (.int .i64 1)).setCell ⟨w2.heap.size, 1, none⟩ (.int .i64 cb)).setCell ⟨w2.heap.size, 2, none⟩ (.int .i64 0)).setCell ⟨w2.heap.size, 3, none⟩ (.int .i64 0)).setCell ⟨w2.heap.size, 4, none⟩ (.int .i64 ce)).drew ∧ SpL (((((w3.setCell ⟨w2.heap.size, 0, none⟩ (.int .i64 1)).setCell ⟨w2.heap.size, 1, none⟩ (.int .i64 cb)).setCell ⟨w2.heap.size, 2, none⟩ (.int .i64 0)).setCell ⟨w2.heap.size, 3, none⟩ (.int .i64 0)).setCell ⟨w2.heap.size, 4, none⟩ (.int .i64 ce)).drew w.heap.size [0, 0, 0, 0, 0] from ⟨spl_drew (((((hS3.setG 0 1).setG 1 cb).setG 2 0).setG 3 0).setG 4 ce), (((((HB3.out.setCell (p := ⟨w2.heap.size, 0, none⟩) HSZ.out (.int .i64 1)).setCell (p := ⟨w2.heap.size, 1, none⟩) HSZ.out (.int .i64 cb)).setCell (p := ⟨w2.heap.size, 2, none⟩) HSZ.out (.int .i64 0)).setCell (p := ⟨w2.heap.size, 3, none⟩) HSZ.out (.int .i64 0)).setCell (p := ⟨w2.heap.size, 4, none⟩) HSZ.out (.int .i64 ce)).drew, spl_drew (spl_far5 HLT2.out HA3.out)⟩)
    clear q1 q4 HA3 HB3 hS3 hz hO hN c1 c2
    go_wp2_with fail
    try rw [hw3]
    refine wp_region_held_drew (S := fun u : World => u.cell? ⟨g, 1, none⟩ = some (.string a) ∧ u.cell? ⟨g, 2, none⟩ = some (.string b)) (by kernel_rfl) ⟨d1, d2⟩ (fun hHeld => ?_)
    refine wpAnyH_take (i := 0) (oi := _) (v := ?_) rfl (by kernel_rfl) (by kernel_rfl) (by kernel_rfl) (fun _ _ _ h => h) (Or.inl ⟨by rfl, ?_⟩) (by assumption) ?_
    rotate_left
    · intro w hSw
      try dsimp only at hSw
      go_simp
      all_goals with_reducible rfl
    simp only [List.getElem_toArray, List.getElem_cons_succ, List.getElem_cons_zero, Act.put, List.setIfInBounds_toArray, List.set_cons_zero, List.set_cons_succ]
    refine wpAnyH_take (i := 1) (oi := _) (v := ?_) rfl (by kernel_rfl) (by kernel_rfl) (by kernel_rfl) (fun _ _ _ h => h) (Or.inl ⟨by rfl, ?_⟩) (by assumption) ?_
    rotate_left
    · intro w hSw
      try dsimp only at hSw
      go_simp
      all_goals with_reducible rfl
    simp only [List.getElem_toArray, List.getElem_cons_succ, List.getElem_cons_zero, Act.put, List.setIfInBounds_toArray, List.set_cons_zero, List.set_cons_succ]
    refine wpAnyH_take (i := 2) (oi := _) (v := ?_) rfl (by kernel_rfl) (by kernel_rfl) (by kernel_rfl) (fun _ _ _ h => h) (Or.inl ⟨by rfl, ?_⟩) (by assumption) ?_
    rotate_left
    · intro w hSw
      try dsimp only at hSw
      go_simp
      all_goals with_reducible rfl
    simp only [List.getElem_toArray, List.getElem_cons_succ, List.getElem_cons_zero, Act.put, List.setIfInBounds_toArray, List.set_cons_zero, List.set_cons_succ]
    refine wpAnyH_take (i := 4) (oi := _) (v := ?_) rfl (by kernel_rfl) (by kernel_rfl) (by kernel_rfl) (fun _ _ _ h => h) (Or.inl ⟨by rfl, ?_⟩) (by assumption) ?_
    rotate_left
    · intro w hSw
      try dsimp only at hSw
      go_simp
      all_goals with_reducible rfl
    simp only [List.getElem_toArray, List.getElem_cons_succ, List.getElem_cons_zero, Act.put, List.setIfInBounds_toArray, List.set_cons_zero, List.set_cons_succ]
    refine wpAnyH_take (i := 5) (oi := _) (v := ?_) rfl (by kernel_rfl) (by kernel_rfl) (by kernel_rfl) (fun _ _ _ h => h) (Or.inl ⟨by rfl, ?_⟩) (by assumption) ?_
    rotate_left
    · intro w hSw
      try dsimp only at hSw
      go_simp
      all_goals with_reducible rfl
    simp only [List.getElem_toArray, List.getElem_cons_succ, List.getElem_cons_zero, Act.put, List.setIfInBounds_toArray, List.set_cons_zero, List.set_cons_succ]
    refine wpAnyH_take (i := 6) (oi := _) (v := ?_) rfl (by kernel_rfl) (by kernel_rfl) (by kernel_rfl) (fun _ _ _ h => h) (Or.inl ⟨by rfl, ?_⟩) (by assumption) ?_
    rotate_left
    · intro w hSw
      try dsimp only at hSw
      go_simp
      all_goals with_reducible rfl
    simp only [List.getElem_toArray, List.getElem_cons_succ, List.getElem_cons_zero, Act.put, List.setIfInBounds_toArray, List.set_cons_zero, List.set_cons_succ]
    refine wpAnyH_ready (rs := [3]) (by kernel_rfl) (by simp) ?_
    refine AllReadyH.cons (o := _) rfl (fun K hK => ?_) AllReadyH.nil
    go_simp
    refine (Ha.out _).mono ?_
    rintro e w' ⟨rfl, rfl⟩
    refine hK.out _ _ (by assumption) (fun hHeld => ?_)
    clear hK K
    try simp only [List.getElem_toArray, List.getElem_cons_succ, List.getElem_cons_zero, Act.put, List.setIfInBounds_toArray, List.set_cons_zero, List.set_cons_succ]
    refine wpAnyH_ready (rs := [7]) (by kernel_rfl) (by simp) ?_
    refine AllReadyH.cons (o := _) rfl (fun K hK => ?_) AllReadyH.nil
    go_simp
    refine (Hb.out _).mono ?_
    rintro e w' ⟨rfl, rfl⟩
    refine hK.out _ _ (by assumption) (fun hHeld => ?_)
    clear hK K
    try simp only [List.getElem_toArray, List.getElem_cons_succ, List.getElem_cons_zero, Act.put, List.setIfInBounds_toArray, List.set_cons_zero, List.set_cons_succ]
    refine wpAnyH_take (i := 8) (oi := _) (v := ?_) rfl (by kernel_rfl) (by kernel_rfl) (by kernel_rfl) (fun _ _ _ h => h) (Or.inl ⟨by rfl, ?_⟩) (by assumption) ?_
    rotate_left
    · intro w hSw
      try dsimp only at hSw
      go_simp
      all_goals with_reducible rfl
    simp only [List.getElem_toArray, List.getElem_cons_succ, List.getElem_cons_zero, Act.put, List.setIfInBounds_toArray, List.set_cons_zero, List.set_cons_succ]
    have a0 : w3.drew.cell? ⟨w2.heap.size, 0, none⟩ = some (.int .i64 0) := a0
    have b0 : w3.drew.frozen? ⟨w2.heap.size, 0, none⟩ = false := b0
    have a1 : w3.drew.cell? ⟨w2.heap.size, 1, none⟩ = some (.int .i64 0) := a1
    have b1 : w3.drew.frozen? ⟨w2.heap.size, 1, none⟩ = false := b1
    have a2 : w3.drew.cell? ⟨w2.heap.size, 2, none⟩ = some (.int .i64 0) := a2
    have b2 : w3.drew.frozen? ⟨w2.heap.size, 2, none⟩ = false := b2
    have a3 : w3.drew.cell? ⟨w2.heap.size, 3, none⟩ = some (.int .i64 0) := a3
    have b3 : w3.drew.frozen? ⟨w2.heap.size, 3, none⟩ = false := b3
    have a4 : w3.drew.cell? ⟨w2.heap.size, 4, none⟩ = some (.int .i64 0) := a4
    have b4 : w3.drew.frozen? ⟨w2.heap.size, 4, none⟩ = false := b4
    refine wpAnyH_ready (rs := [9]) (by kernel_rfl) (by simp) ?_
    refine AllReadyH.cons (o := _) rfl (fun K hK => ?_) AllReadyH.nil
    go_simp
    refine hK.out (_) (_) ?_ ?_
    · exact ⟨(drew_cell _ _).trans (cell_far5 (w := w3) HLT.out hHeld.1), (drew_cell _ _).trans (cell_far5 (w := w3) HLT.out hHeld.2)⟩
    intro _
    clear hK K
    try simp only [List.getElem_toArray, List.getElem_cons_succ, List.getElem_cons_zero, Act.put, List.setIfInBounds_toArray, List.set_cons_zero, List.set_cons_succ]
    refine wpAnyH_done (by kernel_rfl) ?_ _
    clear d1 d2 a0 a1 a2 a3 a4 b0 b1 b2 b3 b4
    generalize (((((w3.setCell ⟨w2.heap.size, 0, none⟩ (.int .i64 1)).setCell ⟨w2.heap.size, 1, none⟩ (.int .i64 cb)).setCell ⟨w2.heap.size, 2, none⟩ (.int .i64 0)).setCell ⟨w2.heap.size, 3, none⟩ (.int .i64 0)).setCell ⟨w2.heap.size, 4, none⟩ (.int .i64 ce)).drew = w4 at HFN ⊢
    have s0 := HFN.out.1.cell (j := 0) (by simp)
    have s1 := HFN.out.1.cell (j := 1) (by simp)
    have s2 := HFN.out.1.cell (j := 2) (by simp)
    have s3 := HFN.out.1.cell (j := 3) (by simp)
    have s4 := HFN.out.1.cell (j := 4) (by simp)
    simp only [List.getElem?_cons_zero, List.getElem?_cons_succ, Option.getD_some] at s0 s1 s2 s3 s4
    have HT := Lib.hid (refFormat_any 1 cb 0 0 ce w4 ((HE.out.on HFN.out.2.1).up HFN.out.2.1.size).tab)
    unfold FmtPost at HT
    have hne := HNE.out
    generalize (⟨(fmtT 1 cb 0 0 ce).toArray⟩ : ByteArray) = t at hne HT
    go_wp2_with fail
    refine HT.out.mono ?_
    rintro e w6 ⟨rfl, k6⟩
    have HA6 := Lib.hid (HFN.out.2.2.belowV k6 HFN.out.2.2.lt)
    have HB6 := Lib.hid (HFN.out.2.1.trans (k6.mono HFN.out.2.1.size))
    have HS6 := Lib.hid (HFN.out.1.belowV k6 HFN.out.1.lt)
    clear k6 HT s0 s1 s2 s3 s4 HFN
    have a0 := HA6.out.cell (j := 0) (by simp)
    have a1 := HA6.out.cell (j := 1) (by simp)
    have a2 := HA6.out.cell (j := 2) (by simp)
    have a3 := HA6.out.cell (j := 3) (by simp)
    have a4 := HA6.out.cell (j := 4) (by simp)
    simp only [List.getElem?_cons_zero, List.getElem?_cons_succ, Option.getD_some] at a0 a1 a2 a3 a4
    have b0 := HA6.out.froz 0
    have b1 := HA6.out.froz 1
    have b2 := HA6.out.froz 2
    have b3 := HA6.out.froz 3
    have b4 := HA6.out.froz 4
    have s0 := HS6.out.cell (j := 0) (by simp)
    have s1 := HS6.out.cell (j := 1) (by simp)
    have s2 := HS6.out.cell (j := 2) (by simp)
    have s3 := HS6.out.cell (j := 3) (by simp)
    have s4 := HS6.out.cell (j := 4) (by simp)
    simp only [List.getElem?_cons_zero, List.getElem?_cons_succ, Option.getD_some] at s0 s1 s2 s3 s4
    have HF2 := Lib.hid (show SpL (((((w6.setCell ⟨w.heap.size, 0, none⟩ (.int .i64 0)).setCell ⟨w.heap.size, 1, none⟩ (.int .i64 0)).setCell ⟨w.heap.size, 2, none⟩ (.int .i64 0)).setCell ⟨w.heap.size, 3, none⟩ (.int .i64 0)).setCell ⟨w.heap.size, 4, none⟩ (.int .i64 0)) w.heap.size [0, 0, 0, 0, 0] ∧ Below w.heap.size w (((((w6.setCell ⟨w.heap.size, 0, none⟩ (.int .i64 0)).setCell ⟨w.heap.size, 1, none⟩ (.int .i64 0)).setCell ⟨w.heap.size, 2, none⟩ (.int .i64 0)).setCell ⟨w.heap.size, 3, none⟩ (.int .i64 0)).setCell ⟨w.heap.size, 4, none⟩ (.int .i64 0)) from ⟨(((((HA6.out.setG 0 0).setG 1 0).setG 2 0).setG 3 0).setG 4 0), (((((HB6.out.setCell (p := ⟨w.heap.size, 0, none⟩) (Nat.le_refl _) (.int .i64 0)).setCell (p := ⟨w.heap.size, 1, none⟩) (Nat.le_refl _) (.int .i64 0)).setCell (p := ⟨w.heap.size, 2, none⟩) (Nat.le_refl _) (.int .i64 0)).setCell (p := ⟨w.heap.size, 3, none⟩) (Nat.le_refl _) (.int .i64 0)).setCell (p := ⟨w.heap.size, 4, none⟩) (Nat.le_refl _) (.int .i64 0))⟩)
    go_wp2_with fail
    have r0 := HF2.out.1.cell (j := 0) (by simp)
    have r1 := HF2.out.1.cell (j := 1) (by simp)
    have r2 := HF2.out.1.cell (j := 2) (by simp)
    have r3 := HF2.out.1.cell (j := 3) (by simp)
    have r4 := HF2.out.1.cell (j := 4) (by simp)
    simp only [List.getElem?_cons_zero, List.getElem?_cons_succ, Option.getD_some] at r0 r1 r2 r3 r4
    refine bodyPost_ret (v := .tuple #[aggL [0, 0, 0, 0, 0], .int .i64 2]) (by simp [results, Tryd.f9, go_sem, r0, r1, r2, r3, r4, aggL]) rfl ?_
    exact ⟨rfl, HF2.out.2⟩
set_option maxRecDepth 100000 in
set_option maxHeartbeats 2000000 in
theorem refParse_bad4 (s : ByteArray) (hs : s.size ≤ 100) (w : World) (hE : Env w.heap.size w) (ca cb cc cd ce : Int) (hcs : refSpecL (wordsL s.data.toList) = [ca, cb, cc, cd, ce]) (hn0 : ¬ (s.toList = [])) (hbad : ¬ parseOK s.data.toList [ca, cb, cc, cd, ce]) (hwn : (wordsL s.data.toList).length = 4) :
    Calls Tryd.prog 9 #[.string s] w (ParsePost w [0, 0, 0, 0, 0] 2) := by
  have HNE := Lib.hid (show ((⟨(fmtT ca cb cc cd ce).toArray⟩ : ByteArray).toList == s.toList) = false from by
    rw [ByteArray.toList_eq, ByteArray.toList_eq, beq_eq_false_iff_ne]
    intro h
    unfold fmtT at h
    split at h
    · rename_i hok
      exact hbad ⟨ca, cb, cc, cd, ce, rfl, hok, h⟩
    · exact hn0 (by rw [ByteArray.toList_eq, ← h]))
  clear hbad
  have hsz : (s.size : Int) ≤ 100 := by omega
  have hsz2 : (s.size : Int) ≤ 65536 := by omega
  have hA1 := SpL.ofNew w 0
  have hB1 := below_new w (.cells #[.int .i64 0, .int .i64 0, .int .i64 0, .int .i64 0, .int .i64 0] 23)
  generalize hw1 : w.alloc (.cells #[.int .i64 0, .int .i64 0, .int .i64 0, .int .i64 0, .int .i64 0] 23) = w1 at hA1 hB1
  have HW := Lib.hid (words_any s hs w1)
  unfold WordsPost at HW
  have HE := Lib.hid hE
  clear hE
  go_enter Tryd.func9, Tryd.ntmps9
  go_wp2_with fail
  refine HW.out.mono ?_
  rintro e w2 ⟨g, cap, ws, rfl, hws, hz, hO, k2⟩
  have hA2 := hA1.belowV k2 hA1.lt
  have hB2 := hB1.trans (k2.mono hB1.size)
  have hN := below_new w2 (.cells #[.int .i64 0, .int .i64 0, .int .i64 0, .int .i64 0, .int .i64 0] 23)
  have HA3 := Lib.hid (hA2.belowV hN hA2.lt)
  have HB3 := Lib.hid (hB2.trans (hN.mono hB2.size))
  have hS3 := SpL.ofNew w2 0
  have hgl := own_lt hO
  rw [← hws] at hcs
  have hsz0 : w.heap.size ≤ w2.heap.size := hB2.size
  have hlt0 : w.heap.size < w2.heap.size := hA2.lt
  clear hA1 hB1 hA2 hB2 HW k2
  have HSZ0 := Lib.hid hsz0
  have HLT2 := Lib.hid (show w.heap.size ≠ w2.heap.size from by omega)
  have hn4 : ws.length = 4 := by rw [← hwn, ← hws, bytesOf, List.length_map]
  clear hsz0 hlt0 hwn
  match ws, hn4 with
  | [x, a, b, c], _ =>
    have c1 : w2.cell? ⟨g, 1, none⟩ = some (.string a) := (hO.cellAt 1 (by simp)).trans rfl
    have d1 := (hN.cell (p := ⟨g, 1, none⟩) hgl).trans c1
    have Ha := Lib.hid fun W => refNumber_any a (hz a (by simp)) W
    have c2 : w2.cell? ⟨g, 2, none⟩ = some (.string b) := (hO.cellAt 2 (by simp)).trans rfl
    have d2 := (hN.cell (p := ⟨g, 2, none⟩) hgl).trans c2
    have Hb := Lib.hid fun W => refNumber_any b (hz b (by simp)) W
    have c3 : w2.cell? ⟨g, 3, none⟩ = some (.string c) := (hO.cellAt 3 (by simp)).trans rfl
    have d3 := (hN.cell (p := ⟨g, 3, none⟩) hgl).trans c3
    have Hc := Lib.hid fun W => refNumber_any c (hz c (by simp)) W
    simp only [bytesOf, List.map_cons, List.map_nil, refSpecL, List.cons.injEq, and_true] at hcs
    obtain ⟨rfl, q1, q2, rfl, q4⟩ := hcs
    rw [q1] at Ha
    rw [q2] at Hb
    rw [q4] at Hc
    have a0 := hS3.cell (j := 0) (by simp)
    have a1 := hS3.cell (j := 1) (by simp)
    have a2 := hS3.cell (j := 2) (by simp)
    have a3 := hS3.cell (j := 3) (by simp)
    have a4 := hS3.cell (j := 4) (by simp)
    simp only [List.getElem?_cons_zero, List.getElem?_cons_succ, Option.getD_some] at a0 a1 a2 a3 a4
    have b0 := hS3.froz 0
    have b1 := hS3.froz 1
    have b2 := hS3.froz 2
    have b3 := hS3.froz 3
    have b4 := hS3.froz 4
    have HLT := Lib.hid (show g ≠ w2.heap.size from by omega)
    have hlt3 := hS3.lt
    generalize hw3 : w2.alloc (.cells #[.int .i64 0, .int .i64 0, .int .i64 0, .int .i64 0, .int .i64 0] 23) = w3 at d1 d2 d3 a0 a1 a2 a3 a4 b0 b1 b2 b3 b4 HA3 HB3 hS3 hlt3
    have HSZ := Lib.hid (show w.heap.size ≤ w2.heap.size from HSZ0.out)
    have HFN := Lib.hid (show SpL (((((w3.setCell ⟨w2.heap.size, 0, none⟩ (.int .i64 2)).setCell ⟨w2.heap.size, 1, none⟩ (.int .i64 cb)).setCell ⟨w2.heap.size, 2, none⟩ (.int .i64 cc)).setCell ⟨w2.heap.size, 3, none⟩ (.int .i64 0)).setCell ⟨w2.heap.size, 4, none⟩ (.int .i64 ce)).drew w2.heap.size [2, cb, cc, 0, ce] ∧ Below w.heap.size w (((((w3.setCell ⟨w2.heap.size, 0, none⟩ (.int .i64 2)).setCell ⟨w2.heap.size, 1, none⟩ (.int .i64 cb)).setCell ⟨w2.heap.size, 2, none⟩ (.int .i64 cc)).setCell ⟨w2.heap.size, 3, none⟩ (.int .i64 0)).setCell ⟨w2.heap.size, 4, none⟩ (.int .i64 ce)).drew ∧ SpL (((((w3.setCell ⟨w2.heap.size, 0, none⟩ (.int .i64 2)).setCell ⟨w2.heap.size, 1, none⟩ (.int .i64 cb)).setCell ⟨w2.heap.size, 2, none⟩ (.int .i64 cc)).setCell ⟨w2.heap.size, 3, none⟩ (.int .i64 0)).setCell ⟨w2.heap.size, 4, none⟩ (.int .i64 ce)).drew w.heap.size [0, 0, 0, 0, 0] from ⟨spl_drew (((((hS3.setG 0 2).setG 1 cb).setG 2 cc).setG 3 0).setG 4 ce), (((((HB3.out.setCell (p := ⟨w2.heap.size, 0, none⟩) HSZ.out (.int .i64 2)).setCell (p := ⟨w2.heap.size, 1, none⟩) HSZ.out (.int .i64 cb)).setCell (p := ⟨w2.heap.size, 2, none⟩) HSZ.out (.int .i64 cc)).setCell (p := ⟨w2.heap.size, 3, none⟩) HSZ.out (.int .i64 0)).setCell (p := ⟨w2.heap.size, 4, none⟩) HSZ.out (.int .i64 ce)).drew, spl_drew (spl_far5 HLT2.out HA3.out)⟩)
    clear q1 q2 q4 HA3 HB3 hS3 hz hO hN c1 c2 c3
    go_wp2_with fail
    try rw [hw3]
    refine wp_region_held_drew (S := fun u : World => u.cell? ⟨g, 1, none⟩ = some (.string a) ∧ u.cell? ⟨g, 2, none⟩ = some (.string b) ∧ u.cell? ⟨g, 3, none⟩ = some (.string c)) (by kernel_rfl) ⟨d1, d2, d3⟩ (fun hHeld => ?_)
    refine wpAnyH_take (i := 0) (oi := _) (v := ?_) rfl (by kernel_rfl) (by kernel_rfl) (by kernel_rfl) (fun _ _ _ h => h) (Or.inl ⟨by rfl, ?_⟩) (by assumption) ?_
    rotate_left
    · intro w hSw
      try dsimp only at hSw
      go_simp
      all_goals with_reducible rfl
    simp only [List.getElem_toArray, List.getElem_cons_succ, List.getElem_cons_zero, Act.put, List.setIfInBounds_toArray, List.set_cons_zero, List.set_cons_succ]
    refine wpAnyH_take (i := 1) (oi := _) (v := ?_) rfl (by kernel_rfl) (by kernel_rfl) (by kernel_rfl) (fun _ _ _ h => h) (Or.inl ⟨by rfl, ?_⟩) (by assumption) ?_
    rotate_left
    · intro w hSw
      try dsimp only at hSw
      go_simp
      all_goals with_reducible rfl
    simp only [List.getElem_toArray, List.getElem_cons_succ, List.getElem_cons_zero, Act.put, List.setIfInBounds_toArray, List.set_cons_zero, List.set_cons_succ]
    refine wpAnyH_take (i := 2) (oi := _) (v := ?_) rfl (by kernel_rfl) (by kernel_rfl) (by kernel_rfl) (fun _ _ _ h => h) (Or.inl ⟨by rfl, ?_⟩) (by assumption) ?_
    rotate_left
    · intro w hSw
      try dsimp only at hSw
      go_simp
      all_goals with_reducible rfl
    simp only [List.getElem_toArray, List.getElem_cons_succ, List.getElem_cons_zero, Act.put, List.setIfInBounds_toArray, List.set_cons_zero, List.set_cons_succ]
    refine wpAnyH_take (i := 4) (oi := _) (v := ?_) rfl (by kernel_rfl) (by kernel_rfl) (by kernel_rfl) (fun _ _ _ h => h) (Or.inl ⟨by rfl, ?_⟩) (by assumption) ?_
    rotate_left
    · intro w hSw
      try dsimp only at hSw
      go_simp
      all_goals with_reducible rfl
    simp only [List.getElem_toArray, List.getElem_cons_succ, List.getElem_cons_zero, Act.put, List.setIfInBounds_toArray, List.set_cons_zero, List.set_cons_succ]
    refine wpAnyH_take (i := 5) (oi := _) (v := ?_) rfl (by kernel_rfl) (by kernel_rfl) (by kernel_rfl) (fun _ _ _ h => h) (Or.inl ⟨by rfl, ?_⟩) (by assumption) ?_
    rotate_left
    · intro w hSw
      try dsimp only at hSw
      go_simp
      all_goals with_reducible rfl
    simp only [List.getElem_toArray, List.getElem_cons_succ, List.getElem_cons_zero, Act.put, List.setIfInBounds_toArray, List.set_cons_zero, List.set_cons_succ]
    refine wpAnyH_take (i := 6) (oi := _) (v := ?_) rfl (by kernel_rfl) (by kernel_rfl) (by kernel_rfl) (fun _ _ _ h => h) (Or.inl ⟨by rfl, ?_⟩) (by assumption) ?_
    rotate_left
    · intro w hSw
      try dsimp only at hSw
      go_simp
      all_goals with_reducible rfl
    simp only [List.getElem_toArray, List.getElem_cons_succ, List.getElem_cons_zero, Act.put, List.setIfInBounds_toArray, List.set_cons_zero, List.set_cons_succ]
    refine wpAnyH_take (i := 8) (oi := _) (v := ?_) rfl (by kernel_rfl) (by kernel_rfl) (by kernel_rfl) (fun _ _ _ h => h) (Or.inl ⟨by rfl, ?_⟩) (by assumption) ?_
    rotate_left
    · intro w hSw
      try dsimp only at hSw
      go_simp
      all_goals with_reducible rfl
    simp only [List.getElem_toArray, List.getElem_cons_succ, List.getElem_cons_zero, Act.put, List.setIfInBounds_toArray, List.set_cons_zero, List.set_cons_succ]
    refine wpAnyH_take (i := 9) (oi := _) (v := ?_) rfl (by kernel_rfl) (by kernel_rfl) (by kernel_rfl) (fun _ _ _ h => h) (Or.inl ⟨by rfl, ?_⟩) (by assumption) ?_
    rotate_left
    · intro w hSw
      try dsimp only at hSw
      go_simp
      all_goals with_reducible rfl
    simp only [List.getElem_toArray, List.getElem_cons_succ, List.getElem_cons_zero, Act.put, List.setIfInBounds_toArray, List.set_cons_zero, List.set_cons_succ]
    refine wpAnyH_take (i := 10) (oi := _) (v := ?_) rfl (by kernel_rfl) (by kernel_rfl) (by kernel_rfl) (fun _ _ _ h => h) (Or.inl ⟨by rfl, ?_⟩) (by assumption) ?_
    rotate_left
    · intro w hSw
      try dsimp only at hSw
      go_simp
      all_goals with_reducible rfl
    simp only [List.getElem_toArray, List.getElem_cons_succ, List.getElem_cons_zero, Act.put, List.setIfInBounds_toArray, List.set_cons_zero, List.set_cons_succ]
    refine wpAnyH_ready (rs := [3]) (by kernel_rfl) (by simp) ?_
    refine AllReadyH.cons (o := _) rfl (fun K hK => ?_) AllReadyH.nil
    go_simp
    refine (Ha.out _).mono ?_
    rintro e w' ⟨rfl, rfl⟩
    refine hK.out _ _ (by assumption) (fun hHeld => ?_)
    clear hK K
    try simp only [List.getElem_toArray, List.getElem_cons_succ, List.getElem_cons_zero, Act.put, List.setIfInBounds_toArray, List.set_cons_zero, List.set_cons_succ]
    refine wpAnyH_ready (rs := [7]) (by kernel_rfl) (by simp) ?_
    refine AllReadyH.cons (o := _) rfl (fun K hK => ?_) AllReadyH.nil
    go_simp
    refine (Hb.out _).mono ?_
    rintro e w' ⟨rfl, rfl⟩
    refine hK.out _ _ (by assumption) (fun hHeld => ?_)
    clear hK K
    try simp only [List.getElem_toArray, List.getElem_cons_succ, List.getElem_cons_zero, Act.put, List.setIfInBounds_toArray, List.set_cons_zero, List.set_cons_succ]
    refine wpAnyH_ready (rs := [11]) (by kernel_rfl) (by simp) ?_
    refine AllReadyH.cons (o := _) rfl (fun K hK => ?_) AllReadyH.nil
    go_simp
    refine (Hc.out _).mono ?_
    rintro e w' ⟨rfl, rfl⟩
    refine hK.out _ _ (by assumption) (fun hHeld => ?_)
    clear hK K
    try simp only [List.getElem_toArray, List.getElem_cons_succ, List.getElem_cons_zero, Act.put, List.setIfInBounds_toArray, List.set_cons_zero, List.set_cons_succ]
    refine wpAnyH_take (i := 12) (oi := _) (v := ?_) rfl (by kernel_rfl) (by kernel_rfl) (by kernel_rfl) (fun _ _ _ h => h) (Or.inl ⟨by rfl, ?_⟩) (by assumption) ?_
    rotate_left
    · intro w hSw
      try dsimp only at hSw
      go_simp
      all_goals with_reducible rfl
    simp only [List.getElem_toArray, List.getElem_cons_succ, List.getElem_cons_zero, Act.put, List.setIfInBounds_toArray, List.set_cons_zero, List.set_cons_succ]
    have a0 : w3.drew.cell? ⟨w2.heap.size, 0, none⟩ = some (.int .i64 0) := a0
    have b0 : w3.drew.frozen? ⟨w2.heap.size, 0, none⟩ = false := b0
    have a1 : w3.drew.cell? ⟨w2.heap.size, 1, none⟩ = some (.int .i64 0) := a1
    have b1 : w3.drew.frozen? ⟨w2.heap.size, 1, none⟩ = false := b1
    have a2 : w3.drew.cell? ⟨w2.heap.size, 2, none⟩ = some (.int .i64 0) := a2
    have b2 : w3.drew.frozen? ⟨w2.heap.size, 2, none⟩ = false := b2
    have a3 : w3.drew.cell? ⟨w2.heap.size, 3, none⟩ = some (.int .i64 0) := a3
    have b3 : w3.drew.frozen? ⟨w2.heap.size, 3, none⟩ = false := b3
    have a4 : w3.drew.cell? ⟨w2.heap.size, 4, none⟩ = some (.int .i64 0) := a4
    have b4 : w3.drew.frozen? ⟨w2.heap.size, 4, none⟩ = false := b4
    refine wpAnyH_ready (rs := [13]) (by kernel_rfl) (by simp) ?_
    refine AllReadyH.cons (o := _) rfl (fun K hK => ?_) AllReadyH.nil
    go_simp
    refine hK.out (_) (_) ?_ ?_
    · exact ⟨(drew_cell _ _).trans (cell_far5 (w := w3) HLT.out hHeld.1), (drew_cell _ _).trans (cell_far5 (w := w3) HLT.out hHeld.2.1), (drew_cell _ _).trans (cell_far5 (w := w3) HLT.out hHeld.2.2)⟩
    intro _
    clear hK K
    try simp only [List.getElem_toArray, List.getElem_cons_succ, List.getElem_cons_zero, Act.put, List.setIfInBounds_toArray, List.set_cons_zero, List.set_cons_succ]
    refine wpAnyH_done (by kernel_rfl) ?_ _
    clear d1 d2 d3 a0 a1 a2 a3 a4 b0 b1 b2 b3 b4
    generalize (((((w3.setCell ⟨w2.heap.size, 0, none⟩ (.int .i64 2)).setCell ⟨w2.heap.size, 1, none⟩ (.int .i64 cb)).setCell ⟨w2.heap.size, 2, none⟩ (.int .i64 cc)).setCell ⟨w2.heap.size, 3, none⟩ (.int .i64 0)).setCell ⟨w2.heap.size, 4, none⟩ (.int .i64 ce)).drew = w4 at HFN ⊢
    have s0 := HFN.out.1.cell (j := 0) (by simp)
    have s1 := HFN.out.1.cell (j := 1) (by simp)
    have s2 := HFN.out.1.cell (j := 2) (by simp)
    have s3 := HFN.out.1.cell (j := 3) (by simp)
    have s4 := HFN.out.1.cell (j := 4) (by simp)
    simp only [List.getElem?_cons_zero, List.getElem?_cons_succ, Option.getD_some] at s0 s1 s2 s3 s4
    have HT := Lib.hid (refFormat_any 2 cb cc 0 ce w4 ((HE.out.on HFN.out.2.1).up HFN.out.2.1.size).tab)
    unfold FmtPost at HT
    have hne := HNE.out
    generalize (⟨(fmtT 2 cb cc 0 ce).toArray⟩ : ByteArray) = t at hne HT
    go_wp2_with fail
    refine HT.out.mono ?_
    rintro e w6 ⟨rfl, k6⟩
    have HA6 := Lib.hid (HFN.out.2.2.belowV k6 HFN.out.2.2.lt)
    have HB6 := Lib.hid (HFN.out.2.1.trans (k6.mono HFN.out.2.1.size))
    have HS6 := Lib.hid (HFN.out.1.belowV k6 HFN.out.1.lt)
    clear k6 HT s0 s1 s2 s3 s4 HFN
    have a0 := HA6.out.cell (j := 0) (by simp)
    have a1 := HA6.out.cell (j := 1) (by simp)
    have a2 := HA6.out.cell (j := 2) (by simp)
    have a3 := HA6.out.cell (j := 3) (by simp)
    have a4 := HA6.out.cell (j := 4) (by simp)
    simp only [List.getElem?_cons_zero, List.getElem?_cons_succ, Option.getD_some] at a0 a1 a2 a3 a4
    have b0 := HA6.out.froz 0
    have b1 := HA6.out.froz 1
    have b2 := HA6.out.froz 2
    have b3 := HA6.out.froz 3
    have b4 := HA6.out.froz 4
    have s0 := HS6.out.cell (j := 0) (by simp)
    have s1 := HS6.out.cell (j := 1) (by simp)
    have s2 := HS6.out.cell (j := 2) (by simp)
    have s3 := HS6.out.cell (j := 3) (by simp)
    have s4 := HS6.out.cell (j := 4) (by simp)
    simp only [List.getElem?_cons_zero, List.getElem?_cons_succ, Option.getD_some] at s0 s1 s2 s3 s4
    have HF2 := Lib.hid (show SpL (((((w6.setCell ⟨w.heap.size, 0, none⟩ (.int .i64 0)).setCell ⟨w.heap.size, 1, none⟩ (.int .i64 0)).setCell ⟨w.heap.size, 2, none⟩ (.int .i64 0)).setCell ⟨w.heap.size, 3, none⟩ (.int .i64 0)).setCell ⟨w.heap.size, 4, none⟩ (.int .i64 0)) w.heap.size [0, 0, 0, 0, 0] ∧ Below w.heap.size w (((((w6.setCell ⟨w.heap.size, 0, none⟩ (.int .i64 0)).setCell ⟨w.heap.size, 1, none⟩ (.int .i64 0)).setCell ⟨w.heap.size, 2, none⟩ (.int .i64 0)).setCell ⟨w.heap.size, 3, none⟩ (.int .i64 0)).setCell ⟨w.heap.size, 4, none⟩ (.int .i64 0)) from ⟨(((((HA6.out.setG 0 0).setG 1 0).setG 2 0).setG 3 0).setG 4 0), (((((HB6.out.setCell (p := ⟨w.heap.size, 0, none⟩) (Nat.le_refl _) (.int .i64 0)).setCell (p := ⟨w.heap.size, 1, none⟩) (Nat.le_refl _) (.int .i64 0)).setCell (p := ⟨w.heap.size, 2, none⟩) (Nat.le_refl _) (.int .i64 0)).setCell (p := ⟨w.heap.size, 3, none⟩) (Nat.le_refl _) (.int .i64 0)).setCell (p := ⟨w.heap.size, 4, none⟩) (Nat.le_refl _) (.int .i64 0))⟩)
    go_wp2_with fail
    have r0 := HF2.out.1.cell (j := 0) (by simp)
    have r1 := HF2.out.1.cell (j := 1) (by simp)
    have r2 := HF2.out.1.cell (j := 2) (by simp)
    have r3 := HF2.out.1.cell (j := 3) (by simp)
    have r4 := HF2.out.1.cell (j := 4) (by simp)
    simp only [List.getElem?_cons_zero, List.getElem?_cons_succ, Option.getD_some] at r0 r1 r2 r3 r4
    refine bodyPost_ret (v := .tuple #[aggL [0, 0, 0, 0, 0], .int .i64 2]) (by simp [results, Tryd.f9, go_sem, r0, r1, r2, r3, r4, aggL]) rfl ?_
    exact ⟨rfl, HF2.out.2⟩
end Go.Proofs.YtakekegghpgeaaaDoor
