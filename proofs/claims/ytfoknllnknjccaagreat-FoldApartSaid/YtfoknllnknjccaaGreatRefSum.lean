/-
  The document's running sums: added.
-/
import Derived.Test.YtfoknllnknjccaaGreatToldV
import Derived.Test.YtfoknllnknjccaaGreatAgL
namespace Go.Proofs.YtfoknllnknjccaaGreat
open Go.RowKit
set_option linter.unusedSimpArgs false
set_option linter.unusedVariables false

def sumV (s : S3) : Value := .agg #[.int .i64 s.1, .int .i64 s.2.1, .int .i64 s.2.2]
def SumPost (w : World) (s : S3) (e : Ending) (w' : World) : Prop := e = .returned (sumV s) ∧ Below w.heap.size w w'
/-- What the document cuts a number into. -/
def addS (s : S3) (v n : Int) : S3 := (wrap64 (s.1 + wrap64 (wrap64 (v.tdiv 1000000000) * n)), wrap64 (s.2.1 + wrap64 (wrap64 (v - wrap64 (wrap64 (v.tdiv 1000000000) * 1000000000)) * n)), wrap64 (s.2.2 + n))
set_option maxRecDepth 100000 in
theorem added_any (s : S3) (v n : Int) (w : World) : Calls Tryz.prog 95 #[sumV s, .int .i64 v, .int .i64 n] w (SumPost w (addS s v n)) := by
  obtain ⟨s0, s1, s2⟩ := s
  unfold addS
  dsimp only [sumV]
  have b1 : Below w.heap.size w (w.alloc (.cells #[.int .i64 s0, .int .i64 s1, .int .i64 s2] 141)) := below_new _ _
  have b2 : Below w.heap.size w ((w.alloc (.cells #[.int .i64 s0, .int .i64 s1, .int .i64 s2] 141)).alloc (.cells #[.int .i64 0, .int .i64 0, .int .i64 0] 141)) := b1.alloc b1.size _
  have k2 := (Blk.new w 141 #[.int .i64 s0, .int .i64 s1, .int .i64 s2]).allocG (.cells #[.int .i64 0, .int .i64 0, .int .i64 0] 141)
  have g2 := Blk.newAt (w.alloc (.cells #[.int .i64 s0, .int .i64 s1, .int .i64 s2] 141)) 141 #[.int .i64 0, .int .i64 0, .int .i64 0] (g := w.heap.size + 1) (by simp)
  have c0 := k2.cell 0
  have c1 := k2.cell 1
  have c2 := k2.cell 2
  have f0 := g2.froz 0
  have f1 := g2.froz 1
  have f2 := g2.froz 2
  have d0 := g2.cell 0
  have d1 := g2.cell 1
  have d2 := g2.cell 2
  simp only [List.getElem?_toArray, List.getElem?_cons_zero, List.getElem?_cons_succ] at c0 c1 c2 d0 d1 d2
  have G2 := Lib.hid g2
  have HB := Lib.hid b2
  have HSET := Lib.hid (show ∀ (x : S3) (W : World), Blk W (w.heap.size + 1) 141 #[.int .i64 0, .int .i64 0, .int .i64 0] → Blk (((W.setCell ⟨w.heap.size + 1, 0, none⟩ (.int .i64 x.1)).setCell ⟨w.heap.size + 1, 1, none⟩ (.int .i64 x.2.1)).setCell ⟨w.heap.size + 1, 2, none⟩ (.int .i64 x.2.2)) (w.heap.size + 1) 141 #[.int .i64 x.1, .int .i64 x.2.1, .int .i64 x.2.2] from fun x W h => by
    simpa using ((h.setG 0 (.int .i64 x.1)).setG 1 (.int .i64 x.2.1)).setG 2 (.int .i64 x.2.2))
  clear b1 b2 k2 g2
  go_enter Tryz.func95, Tryz.ntmps95
  generalize hW : (w.alloc (.cells #[.int .i64 s0, .int .i64 s1, .int .i64 s2] 141)).alloc (.cells #[.int .i64 0, .int .i64 0, .int .i64 0] 141) = W2 at *
  go_wp2_with fail
  have kf := HSET.out (addS (s0, s1, s2) v n) W2 G2.out
  unfold addS at kf
  have r0 := kf.cell 0
  have r1 := kf.cell 1
  have r2 := kf.cell 2
  simp only [List.getElem?_toArray, List.getElem?_cons_zero, List.getElem?_cons_succ] at r0 r1 r2
  refine bodyPost_ret (v := sumV (addS (s0, s1, s2) v n)) (by simp [results, Tryz.results95, go_sem, r0, r1, r2, sumV, addS]) rfl ⟨rfl, ?_⟩
  exact ((HB.out.setCell (p := ⟨w.heap.size + 1, 0, none⟩) (by simp) _).setCell (p := ⟨w.heap.size + 1, 1, none⟩) (by simp) _).setCell (p := ⟨w.heap.size + 1, 2, none⟩) (by simp) _
def carC (lo : Int) : Int := if wrap64 (lo - wrap64 (wrap64 (lo.tdiv 1000000000) * 1000000000)) < 0 then wrap64 (wrap64 (lo.tdiv 1000000000) - 1) else wrap64 (lo.tdiv 1000000000)
def carS (s : S3) : S3 := (wrap64 (s.1 + carC s.2.1), wrap64 (s.2.1 - wrap64 (carC s.2.1 * 1000000000)), s.2.2)
set_option maxRecDepth 100000 in
theorem carried_any (s : S3) (w : World) : Calls Tryz.prog 107 #[sumV s] w (SumPost w (carS s)) := by
  obtain ⟨s0, s1, s2⟩ := s
  unfold carS
  dsimp only [sumV]
  have b1 : Below w.heap.size w (w.alloc (.cells #[.int .i64 s0, .int .i64 s1, .int .i64 s2] 141)) := below_new _ _
  have b2 : Below w.heap.size w ((w.alloc (.cells #[.int .i64 s0, .int .i64 s1, .int .i64 s2] 141)).alloc (.cells #[.int .i64 0, .int .i64 0, .int .i64 0] 141)) := b1.alloc b1.size _
  have k2 := (Blk.new w 141 #[.int .i64 s0, .int .i64 s1, .int .i64 s2]).allocG (.cells #[.int .i64 0, .int .i64 0, .int .i64 0] 141)
  have g2 := Blk.newAt (w.alloc (.cells #[.int .i64 s0, .int .i64 s1, .int .i64 s2] 141)) 141 #[.int .i64 0, .int .i64 0, .int .i64 0] (g := w.heap.size + 1) (by simp)
  have c0 := k2.cell 0
  have c1 := k2.cell 1
  have c2 := k2.cell 2
  have f0 := g2.froz 0
  have f1 := g2.froz 1
  have f2 := g2.froz 2
  have d0 := g2.cell 0
  have d1 := g2.cell 1
  have d2 := g2.cell 2
  simp only [List.getElem?_toArray, List.getElem?_cons_zero, List.getElem?_cons_succ] at c0 c1 c2 d0 d1 d2
  have G2 := Lib.hid g2
  have HB := Lib.hid b2
  have HSET := Lib.hid (show ∀ (x : S3) (W : World), Blk W (w.heap.size + 1) 141 #[.int .i64 0, .int .i64 0, .int .i64 0] → Blk (((W.setCell ⟨w.heap.size + 1, 0, none⟩ (.int .i64 x.1)).setCell ⟨w.heap.size + 1, 1, none⟩ (.int .i64 x.2.1)).setCell ⟨w.heap.size + 1, 2, none⟩ (.int .i64 x.2.2)) (w.heap.size + 1) 141 #[.int .i64 x.1, .int .i64 x.2.1, .int .i64 x.2.2] from fun x W h => by
    simpa using ((h.setG 0 (.int .i64 x.1)).setG 1 (.int .i64 x.2.1)).setG 2 (.int .i64 x.2.2))
  clear b1 b2 k2 g2
  unfold carC
  by_cases hn : wrap64 (s1 - wrap64 (wrap64 (s1.tdiv 1000000000) * 1000000000)) < 0
  · rw [if_pos hn]
    have hd : decide (wrap64 (s1 - wrap64 (wrap64 (s1.tdiv 1000000000) * 1000000000)) < 0) = true := decide_eq_true hn
    go_enter Tryz.func107, Tryz.ntmps107
    generalize hW : (w.alloc (.cells #[.int .i64 s0, .int .i64 s1, .int .i64 s2] 141)).alloc (.cells #[.int .i64 0, .int .i64 0, .int .i64 0] 141) = W2 at *
    go_wp2_with fail
    have kf := HSET.out (wrap64 (s0 + wrap64 (wrap64 (s1.tdiv 1000000000) - 1)), wrap64 (s1 - wrap64 (wrap64 (wrap64 (s1.tdiv 1000000000) - 1) * 1000000000)), s2) W2 G2.out
    have r0 := kf.cell 0
    have r1 := kf.cell 1
    have r2 := kf.cell 2
    simp only [List.getElem?_toArray, List.getElem?_cons_zero, List.getElem?_cons_succ] at r0 r1 r2
    refine bodyPost_ret (v := sumV (wrap64 (s0 + wrap64 (wrap64 (s1.tdiv 1000000000) - 1)), wrap64 (s1 - wrap64 (wrap64 (wrap64 (s1.tdiv 1000000000) - 1) * 1000000000)), s2)) (by simp [results, Tryz.results107, go_sem, r0, r1, r2, sumV]) rfl ⟨rfl, ?_⟩
    exact ((HB.out.setCell (p := ⟨w.heap.size + 1, 0, none⟩) (by simp) _).setCell (p := ⟨w.heap.size + 1, 1, none⟩) (by simp) _).setCell (p := ⟨w.heap.size + 1, 2, none⟩) (by simp) _
  · rw [if_neg hn]
    have hd : decide (wrap64 (s1 - wrap64 (wrap64 (s1.tdiv 1000000000) * 1000000000)) < 0) = false := decide_eq_false hn
    go_enter Tryz.func107, Tryz.ntmps107
    generalize hW : (w.alloc (.cells #[.int .i64 s0, .int .i64 s1, .int .i64 s2] 141)).alloc (.cells #[.int .i64 0, .int .i64 0, .int .i64 0] 141) = W2 at *
    go_wp2_with fail
    have kf := HSET.out (wrap64 (s0 + wrap64 (s1.tdiv 1000000000)), wrap64 (s1 - wrap64 (wrap64 (s1.tdiv 1000000000) * 1000000000)), s2) W2 G2.out
    have r0 := kf.cell 0
    have r1 := kf.cell 1
    have r2 := kf.cell 2
    simp only [List.getElem?_toArray, List.getElem?_cons_zero, List.getElem?_cons_succ] at r0 r1 r2
    refine bodyPost_ret (v := sumV (wrap64 (s0 + wrap64 (s1.tdiv 1000000000)), wrap64 (s1 - wrap64 (wrap64 (s1.tdiv 1000000000) * 1000000000)), s2)) (by simp [results, Tryz.results107, go_sem, r0, r1, r2, sumV]) rfl ⟨rfl, ?_⟩
    exact ((HB.out.setCell (p := ⟨w.heap.size + 1, 0, none⟩) (by simp) _).setCell (p := ⟨w.heap.size + 1, 1, none⟩) (by simp) _).setCell (p := ⟨w.heap.size + 1, 2, none⟩) (by simp) _
def wholeN (t : S3) : Int := wrap64 (wrap64 (t.1 * 1000000000) + t.2.1)
def wholeS (s : S3) : Val := if (-2000000 ≤ (carS s).1 ∧ (carS s).1 ≤ 2000000) ∧ (-1000000000000000 ≤ wholeN (carS s) ∧ wholeN (carS s) ≤ 1000000000000000) then (1, wholeN (carS s), ⟨#[]⟩) else v0
set_option maxRecDepth 100000 in
set_option maxHeartbeats 1000000 in
theorem whole_any (s : S3) (w : World) : Calls Tryz.prog 96 #[sumV s] w (ValPost w (wholeS s)) := by
  have HC := Lib.hid fun W => carried_any s W
  obtain ⟨x, hx⟩ : ∃ x, x = wholeS s := ⟨_, rfl⟩
  rw [← hx]
  unfold wholeS wholeN at hx
  generalize carS s = t at HC hx
  obtain ⟨s0, s1, s2⟩ := s
  obtain ⟨t0, t1, t2⟩ := t
  dsimp only [sumV] at HC hx ⊢
  have HX := Lib.hid hx
  clear hx
  have b1 : Below w.heap.size w (w.alloc (.cells #[.int .i64 s0, .int .i64 s1, .int .i64 s2] 141)) := below_new _ _
  have b2 : Below w.heap.size w ((w.alloc (.cells #[.int .i64 s0, .int .i64 s1, .int .i64 s2] 141)).alloc (.cells #[.int .i64 0, .int .i64 0, .string ⟨#[]⟩] 55)) := b1.alloc b1.size _
  have k2 := (Blk.new w 141 #[.int .i64 s0, .int .i64 s1, .int .i64 s2]).allocG (.cells #[.int .i64 0, .int .i64 0, .string ⟨#[]⟩] 55)
  have g2 := Blk.newAt (w.alloc (.cells #[.int .i64 s0, .int .i64 s1, .int .i64 s2] 141)) 55 #[.int .i64 0, .int .i64 0, .string ⟨#[]⟩] (g := w.heap.size + 1) (by simp)
  have c0 := k2.cell 0
  have c1 := k2.cell 1
  have c2 := k2.cell 2
  simp only [List.getElem?_toArray, List.getElem?_cons_zero, List.getElem?_cons_succ] at c0 c1 c2
  have K2 := Lib.hid k2
  have G2 := Lib.hid g2
  have HB := Lib.hid b2
  have HW1 := Lib.hid fun W => within5_any t0 (-2000000) 2000000 W
  have HW2 := Lib.hid fun W => within5_any (wrap64 (wrap64 (t0 * 1000000000) + t1)) (-1000000000000000) 1000000000000000 W
  have HSET := Lib.hid (show ∀ (x : Val) (W : World), Blk W (w.heap.size + 1) 55 #[.int .i64 0, .int .i64 0, .string ⟨#[]⟩] → Blk (((W.setCell ⟨w.heap.size + 1, 0, none⟩ (.int .i64 x.1)).setCell ⟨w.heap.size + 1, 1, none⟩ (.int .i64 x.2.1)).setCell ⟨w.heap.size + 1, 2, none⟩ (.string x.2.2)) (w.heap.size + 1) 55 #[.int .i64 x.1, .int .i64 x.2.1, .string x.2.2] from fun x W h => by
    simpa using ((h.setG 0 (.int .i64 x.1)).setG 1 (.int .i64 x.2.1)).setG 2 (.string x.2.2))
  clear b1 b2 k2 g2
  go_enter Tryz.func96, Tryz.ntmps96
  generalize hW : (w.alloc (.cells #[.int .i64 s0, .int .i64 s1, .int .i64 s2] 141)).alloc (.cells #[.int .i64 0, .int .i64 0, .string ⟨#[]⟩] 55) = W2 at *
  go_wp2_with fail
  refine (HC.out W2).mono ?_
  rintro e w3 ⟨rfl, hb3⟩
  dsimp only [sumV]
  have hK3 := K2.out.belowV hb3 K2.out.lt
  have hG3 := G2.out.belowV hb3 G2.out.lt
  have HB3 := Lib.hid (HB.out.trans (hb3.mono HB.out.size))
  have f0 := hK3.froz 0
  have f1 := hK3.froz 1
  have f2 := hK3.froz 2
  have d0 := hK3.cell 0
  have d1 := hK3.cell 1
  have d2 := hK3.cell 2
  simp only [List.getElem?_toArray, List.getElem?_cons_zero, List.getElem?_cons_succ] at d0 d1 d2
  have hK4 : Blk (((w3.setCell ⟨w.heap.size, 0, none⟩ (.int .i64 t0)).setCell ⟨w.heap.size, 1, none⟩ (.int .i64 t1)).setCell ⟨w.heap.size, 2, none⟩ (.int .i64 t2)) w.heap.size 141 #[.int .i64 t0, .int .i64 t1, .int .i64 t2] := by
    simpa using ((hK3.setG 0 (.int .i64 t0)).setG 1 (.int .i64 t1)).setG 2 (.int .i64 t2)
  have hG4 : Blk (((w3.setCell ⟨w.heap.size, 0, none⟩ (.int .i64 t0)).setCell ⟨w.heap.size, 1, none⟩ (.int .i64 t1)).setCell ⟨w.heap.size, 2, none⟩ (.int .i64 t2)) (w.heap.size + 1) 55 #[.int .i64 0, .int .i64 0, .string ⟨#[]⟩] :=
    ((hG3.setOther (by omega) _).setOther (by omega) _).setOther (by omega) _
  have HB4 := Lib.hid (show Below w.heap.size w (((w3.setCell ⟨w.heap.size, 0, none⟩ (.int .i64 t0)).setCell ⟨w.heap.size, 1, none⟩ (.int .i64 t1)).setCell ⟨w.heap.size, 2, none⟩ (.int .i64 t2)) from ((HB3.out.setCell (p := ⟨w.heap.size, 0, none⟩) (by simp) _).setCell (p := ⟨w.heap.size, 1, none⟩) (by simp) _).setCell (p := ⟨w.heap.size, 2, none⟩) (by simp) _)
  have K4 := Lib.hid hK4
  have G4 := Lib.hid hG4
  clear hK3 hG3 hK4 hG4 hb3 c0 c1 c2
  go_wp2_with fail
  clear d0 d1 d2 f0 f1 f2
  generalize ((w3.setCell ⟨w.heap.size, 0, none⟩ (.int .i64 t0)).setCell ⟨w.heap.size, 1, none⟩ (.int .i64 t1)).setCell ⟨w.heap.size, 2, none⟩ (.int .i64 t2) = W4 at *
  have e0 := K4.out.cell 0
  have e1 := K4.out.cell 1
  have f0 := G4.out.froz 0
  have f1 := G4.out.froz 1
  have f2 := G4.out.froz 2
  have d0 := G4.out.cell 0
  have d1 := G4.out.cell 1
  have d2 := G4.out.cell 2
  simp only [List.getElem?_toArray, List.getElem?_cons_zero, List.getElem?_cons_succ] at e0 e1 d0 d1 d2
  refine (HW1.out W4).mono ?_
  rintro e w5 ⟨rfl, rfl⟩
  by_cases ha : -2000000 ≤ t0 ∧ t0 ≤ 2000000
  · rw [decide_eq_true ha]
    have HA := Lib.hid ha
    clear ha
    go_wp2_with fail
    refine (HW2.out W4).mono ?_
    rintro e w5 ⟨rfl, rfl⟩
    by_cases hb : -1000000000000000 ≤ wrap64 (wrap64 (t0 * 1000000000) + t1) ∧ wrap64 (wrap64 (t0 * 1000000000) + t1) ≤ 1000000000000000
    · rw [decide_eq_true hb]
      have HBB := Lib.hid hb
      clear hb
      go_wp2_with fail
      have kf := HSET.out (1, wrap64 (wrap64 (t0 * 1000000000) + t1), ⟨#[]⟩) W4 G4.out
      have r0 := kf.cell 0
      have r1 := kf.cell 1
      have r2 := kf.cell 2
      simp only [List.getElem?_toArray, List.getElem?_cons_zero, List.getElem?_cons_succ] at r0 r1 r2
      have hxx : x = (1, wrap64 (wrap64 (t0 * 1000000000) + t1), ⟨#[]⟩) := by rw [HX.out]; exact if_pos ⟨HA.out, HBB.out⟩
      refine bodyPost_ret (v := valA (1, wrap64 (wrap64 (t0 * 1000000000) + t1), ⟨#[]⟩)) (by simp [results, Tryz.results96, go_sem, r0, r1, r2, valA]) rfl ⟨by rw [hxx], ?_⟩
      exact ((HB4.out.setCell (p := ⟨w.heap.size + 1, 0, none⟩) (by simp) _).setCell (p := ⟨w.heap.size + 1, 1, none⟩) (by simp) _).setCell (p := ⟨w.heap.size + 1, 2, none⟩) (by simp) _
    · rw [decide_eq_false hb]
      have HBB := Lib.hid hb
      clear hb
      go_wp2_with fail
      have kf := HSET.out ((0 : Int), (0 : Int), (⟨#[]⟩ : ByteArray)) W4 G4.out
      have r0 := kf.cell 0
      have r1 := kf.cell 1
      have r2 := kf.cell 2
      simp only [List.getElem?_toArray, List.getElem?_cons_zero, List.getElem?_cons_succ] at r0 r1 r2
      have hxx : x = ((0 : Int), (0 : Int), (⟨#[]⟩ : ByteArray)) := by rw [HX.out]; exact if_neg fun h => HBB.out h.2
      refine bodyPost_ret (v := valA ((0 : Int), (0 : Int), (⟨#[]⟩ : ByteArray))) (by simp [results, Tryz.results96, go_sem, r0, r1, r2, valA]) rfl ⟨by rw [hxx], ?_⟩
      exact ((HB4.out.setCell (p := ⟨w.heap.size + 1, 0, none⟩) (by simp) _).setCell (p := ⟨w.heap.size + 1, 1, none⟩) (by simp) _).setCell (p := ⟨w.heap.size + 1, 2, none⟩) (by simp) _
  · rw [decide_eq_false ha]
    have HA := Lib.hid ha
    clear ha
    go_wp2_with fail
    have kf := HSET.out ((0 : Int), (0 : Int), (⟨#[]⟩ : ByteArray)) W4 G4.out
    have r0 := kf.cell 0
    have r1 := kf.cell 1
    have r2 := kf.cell 2
    simp only [List.getElem?_toArray, List.getElem?_cons_zero, List.getElem?_cons_succ] at r0 r1 r2
    have hxx : x = ((0 : Int), (0 : Int), (⟨#[]⟩ : ByteArray)) := by rw [HX.out]; exact if_neg fun h => HA.out h.1
    refine bodyPost_ret (v := valA ((0 : Int), (0 : Int), (⟨#[]⟩ : ByteArray))) (by simp [results, Tryz.results96, go_sem, r0, r1, r2, valA]) rfl ⟨by rw [hxx], ?_⟩
    exact ((HB4.out.setCell (p := ⟨w.heap.size + 1, 0, none⟩) (by simp) _).setCell (p := ⟨w.heap.size + 1, 1, none⟩) (by simp) _).setCell (p := ⟨w.heap.size + 1, 2, none⟩) (by simp) _
end Go.Proofs.YtfoknllnknjccaaGreat
