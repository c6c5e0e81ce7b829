/-
  Several texts in one.
-/
import Derived.Test.YtfoknllnknjccaaGreatRefOf
import Derived.Test.YtfoknllnknjccaaGreatRefSum
/-!
  What the document tells of one row: small facts.
-/
namespace Go.Proofs.YtfoknllnknjccaaGreat
open Go.RowKit

theorem numV_0 : numV 0 = (1, 0, ⟨#[]⟩) := by unfold numV; rw [if_pos (by unfold validV validP; exact decide_eq_true (.inr (.inl ⟨rfl, by rw [Lib.toList_data]; rfl, by omega, by omega⟩)))]

theorem w_1 : wrap64 1 = 1 := IntWalk.wrap64_in _ (by omega)

theorem numV_1 : numV 1 = (1, 1, ⟨#[]⟩) := by unfold numV; rw [if_pos (by unfold validV validP; exact decide_eq_true (.inr (.inl ⟨rfl, by rw [Lib.toList_data]; rfl, by omega, by omega⟩)))]

theorem own_one {W : World} {B size : Nat} {e : TypeId} {v : Value} {xs : List Value} (h : W.ownsRow B e size v (0 + 1) xs) : ∃ g cap, v = .slice (some ⟨g, 0, none⟩) 1 cap ∧ 1 ≤ cap ∧ cap ≤ maxLen := by
  rcases h.2 with ⟨_, h0⟩ | ⟨g, cap, cur, rfl, _, _, h1, h2, _⟩
  · omega
  · exact ⟨g, cap, rfl, by omega, h2⟩
end Go.Proofs.YtfoknllnknjccaaGreat

/-!
  What the document tells of one row.
-/
namespace Go.Proofs.YtfoknllnknjccaaGreat
open Go.RowKit
set_option linter.unusedSimpArgs false
set_option linter.unusedVariables false

set_option maxRecDepth 100000 in
set_option maxHeartbeats 2000000 in
theorem tellO_2_null (m b off b2 off2 len qc d : Nat) (x1 : Int) (x2 : ByteArray) (hm : m < len) (w : World) (hb : b < w.heap.size) (hb2 : b2 < w.heap.size) (h0 : w.cell? ⟨b, off, none⟩ = some (.slice (some ⟨b2, off2, none⟩) len qc)) (h1 : w.cell? ⟨b, off + 1, none⟩ = some (.int .i64 1))
    (y0 : w.cell? ⟨b2, off2 + m * 3, none⟩ = some (.int .i64 0)) (y1 : w.cell? ⟨b2, off2 + m * 3 + 1, none⟩ = some (.int .i64 0)) (y2 : w.cell? ⟨b2, off2 + m * 3 + 2, none⟩ = some (.string ⟨#[]⟩)) :
    Calls Tryz.prog 76 #[.agg #[.int .i64 2, .int .i64 (m : Int)], .slice (some ⟨b, off, none⟩) 1 d] w (ValPost w (tellK 2 [((0, 0, ⟨#[]⟩), 1)])) := by
  have HRES : Hid (tellK 2 [((0, 0, ⟨#[]⟩), 1)] = (1, 0, ⟨#[]⟩)) := Lib.hid (by
    simp [tellK, valStep, nul, numV_0])
  generalize tellK 2 [((0, 0, ⟨#[]⟩), 1)] = res at HRES ⊢
  have b1 : Below w.heap.size w (w.alloc (.cells #[.int .i64 2, .int .i64 (m : Int)] 59)) := below_new _ _
  have b2' : Below w.heap.size w ((w.alloc (.cells #[.int .i64 2, .int .i64 (m : Int)] 59)).alloc (.cells #[.int .i64 0, .int .i64 0, .string ⟨#[]⟩] 55)) := b1.alloc b1.size _
  have b3 : Below w.heap.size w (((w.alloc (.cells #[.int .i64 2, .int .i64 (m : Int)] 59)).alloc (.cells #[.int .i64 0, .int .i64 0, .string ⟨#[]⟩] 55)).alloc (.cells #[.int .i64 0, .int .i64 0, .int .i64 0] 141)) := b2'.alloc b2'.size _
  have k3 := ((Blk.new w 59 #[.int .i64 2, .int .i64 (m : Int)]).allocG (.cells #[.int .i64 0, .int .i64 0, .string ⟨#[]⟩] 55)).allocG (.cells #[.int .i64 0, .int .i64 0, .int .i64 0] 141)
  have g3 := (Blk.newAt (w.alloc (.cells #[.int .i64 2, .int .i64 (m : Int)] 59)) 55 #[.int .i64 0, .int .i64 0, .string ⟨#[]⟩] (g := w.heap.size + 1) (by simp)).allocG (.cells #[.int .i64 0, .int .i64 0, .int .i64 0] 141)
  have l3 := Blk.newAt ((w.alloc (.cells #[.int .i64 2, .int .i64 (m : Int)] 59)).alloc (.cells #[.int .i64 0, .int .i64 0, .string ⟨#[]⟩] 55)) 141 #[.int .i64 0, .int .i64 0, .int .i64 0] (g := w.heap.size + 2) (by simp)
  have K3 := Lib.hid k3
  have G3 := Lib.hid g3
  have L3 := Lib.hid l3
  have HB := Lib.hid b3
  have hbb := hb
  have hsz : (((w.alloc (.cells #[.int .i64 2, .int .i64 (m : Int)] 59)).alloc (.cells #[.int .i64 0, .int .i64 0, .string ⟨#[]⟩] 55)).alloc (.cells #[.int .i64 0, .int .i64 0, .int .i64 0] 141)).heap.size = w.heap.size + 3 := by simp
  clear b1 b2' b3 k3 g3 l3
  go_enter Tryz.func76, Tryz.ntmps76
  generalize hW : ((w.alloc (.cells #[.int .i64 2, .int .i64 (m : Int)] 59)).alloc (.cells #[.int .i64 0, .int .i64 0, .string ⟨#[]⟩] 55)).alloc (.cells #[.int .i64 0, .int .i64 0, .int .i64 0] 141) = W3 at *
  have HOLD := Lib.hid (show ∀ W, Below w.heap.size w W → W.cell? ⟨b, off, none⟩ = some (.slice (some ⟨b2, off2, none⟩) len qc) ∧ W.cell? ⟨b, off + 1, none⟩ = some (.int .i64 1) ∧ W.cell? ⟨b2, off2 + m * 3, none⟩ = some (.int .i64 0) ∧ W.cell? ⟨b2, off2 + m * 3 + 1, none⟩ = some (.int .i64 0) ∧ W.cell? ⟨b2, off2 + m * 3 + 2, none⟩ = some (.string ⟨#[]⟩) from fun W h =>
    ⟨(h.cell (p := ⟨b, off, none⟩) hb).trans h0, (h.cell (p := ⟨b, off + 1, none⟩) hb).trans h1, (h.cell (p := ⟨b2, off2 + m * 3, none⟩) hb2).trans y0, (h.cell (p := ⟨b2, off2 + m * 3 + 1, none⟩) hb2).trans y1, (h.cell (p := ⟨b2, off2 + m * 3 + 2, none⟩) hb2).trans y2⟩)
  clear h0 h1 y0 y1 y2 hbb
  go_wp2_with fail
  go_loopw [5, 6, 7, 9, 10, 11, 12, 13] (fun a b c d e _ _ _ wr => (a = .int .i64 0 ∧ b = .int .i64 0 ∧ c = .int .i64 0 ∧ d = .slice none 0 0 ∧ e = .int .i64 0 ∧ wr = W3) ∨ (a = .int .i64 1 ∧ b = .int .i64 0 ∧ c = .int .i64 0 ∧ d = .slice none 0 0 ∧ e = .int .i64 1 ∧ Below W3.heap.size W3 wr)) (fun _ _ _ _ e _ _ _ _ => 1 - (RowKit.intOf e).toNat)
  case atStart => exact .inl ⟨rfl, rfl, rfl, rfl, rfl, rfl⟩
  case round =>
    rcases hrel with ⟨rfl, rfl, rfl, rfl, rfl, rfl⟩ | ⟨rfl, rfl, rfl, rfl, rfl, hBr⟩
    · obtain ⟨o0, o1, o2, o3, o4⟩ := HOLD.out wr HB.out
      have k0 := K3.out.cell 0
      have k1 := K3.out.cell 1
      simp only [List.getElem?_toArray, List.getElem?_cons_zero, List.getElem?_cons_succ] at k0 k1
      have hm0 : (0 : Int) ≤ (m : Int) := by omega
      have hm1 : (m : Int) < (len : Int) := by omega
      go_wp2_with fail
      go_quiet (fail)
      go_wp2_with fail
      go_roundw
      case rel => exact .inr ⟨rfl, rfl, rfl, rfl, rfl, ⟨rfl, rfl, rfl, Nat.le_refl _, fun _ _ => rfl⟩⟩
      case measure => simp [RowKit.intOf]
    · have hK := K3.out.belowV hBr K3.out.lt
      have hG := G3.out.belowV hBr G3.out.lt
      have hBB : Below w.heap.size w wr := HB.out.trans (hBr.mono HB.out.size)
      have k0 := hK.cell 0
      have f0 := hG.froz 0
      have f1 := hG.froz 1
      have f2 := hG.froz 2
      have d0 := hG.cell 0
      have d1 := hG.cell 1
      have d2 := hG.cell 2
      simp only [List.getElem?_toArray, List.getElem?_cons_zero, List.getElem?_cons_succ] at k0 d0 d1 d2
      have hset : Blk (((wr.setCell ⟨w.heap.size + 1, 0, none⟩ (.int .i64 1)).setCell ⟨w.heap.size + 1, 1, none⟩ (.int .i64 0)).setCell ⟨w.heap.size + 1, 2, none⟩ (.string ⟨#[]⟩)) (w.heap.size + 1) 55 #[.int .i64 1, .int .i64 0, .string ⟨#[]⟩] := by
        simpa using ((hG.setG 0 (.int .i64 1)).setG 1 (.int .i64 0)).setG 2 (.string ⟨#[]⟩)
      have HSET := Lib.hid hset
      have HBB := Lib.hid hBB
      clear hset hBB hK hG
      go_wp2_with fail
      have r0 := HSET.out.cell 0
      have r1 := HSET.out.cell 1
      have r2 := HSET.out.cell 2
      simp only [List.getElem?_toArray, List.getElem?_cons_zero, List.getElem?_cons_succ] at r0 r1 r2
      rw [HRES.out]
      refine bodyPost_ret (v := valA (1, 0, ⟨#[]⟩)) (by simp [results, Tryz.results76, go_sem, r0, r1, r2, valA]) rfl ⟨rfl, ?_⟩
      exact ((HBB.out.setCell (p := ⟨w.heap.size + 1, 0, none⟩) (by simp) _).setCell (p := ⟨w.heap.size + 1, 1, none⟩) (by simp) _).setCell (p := ⟨w.heap.size + 1, 2, none⟩) (by simp) _


set_option maxRecDepth 100000 in
set_option maxHeartbeats 2000000 in
theorem tellO_3_null (m b off b2 off2 len qc d : Nat) (x1 : Int) (x2 : ByteArray) (hm : m < len) (w : World) (hb : b < w.heap.size) (hb2 : b2 < w.heap.size) (h0 : w.cell? ⟨b, off, none⟩ = some (.slice (some ⟨b2, off2, none⟩) len qc)) (h1 : w.cell? ⟨b, off + 1, none⟩ = some (.int .i64 1))
    (y0 : w.cell? ⟨b2, off2 + m * 3, none⟩ = some (.int .i64 0)) (y1 : w.cell? ⟨b2, off2 + m * 3 + 1, none⟩ = some (.int .i64 0)) (y2 : w.cell? ⟨b2, off2 + m * 3 + 2, none⟩ = some (.string ⟨#[]⟩)) :
    Calls Tryz.prog 76 #[.agg #[.int .i64 3, .int .i64 (m : Int)], .slice (some ⟨b, off, none⟩) 1 d] w (ValPost w (tellK 3 [((0, 0, ⟨#[]⟩), 1)])) := by
  have HRES : Hid (tellK 3 [((0, 0, ⟨#[]⟩), 1)] = (0, 0, ⟨#[]⟩)) := Lib.hid (by
    simp [tellK, smStep, mnTell, smTell, nul])
  generalize tellK 3 [((0, 0, ⟨#[]⟩), 1)] = res at HRES ⊢
  have b1 : Below w.heap.size w (w.alloc (.cells #[.int .i64 3, .int .i64 (m : Int)] 59)) := below_new _ _
  have b2' : Below w.heap.size w ((w.alloc (.cells #[.int .i64 3, .int .i64 (m : Int)] 59)).alloc (.cells #[.int .i64 0, .int .i64 0, .string ⟨#[]⟩] 55)) := b1.alloc b1.size _
  have b3 : Below w.heap.size w (((w.alloc (.cells #[.int .i64 3, .int .i64 (m : Int)] 59)).alloc (.cells #[.int .i64 0, .int .i64 0, .string ⟨#[]⟩] 55)).alloc (.cells #[.int .i64 0, .int .i64 0, .int .i64 0] 141)) := b2'.alloc b2'.size _
  have k3 := ((Blk.new w 59 #[.int .i64 3, .int .i64 (m : Int)]).allocG (.cells #[.int .i64 0, .int .i64 0, .string ⟨#[]⟩] 55)).allocG (.cells #[.int .i64 0, .int .i64 0, .int .i64 0] 141)
  have g3 := (Blk.newAt (w.alloc (.cells #[.int .i64 3, .int .i64 (m : Int)] 59)) 55 #[.int .i64 0, .int .i64 0, .string ⟨#[]⟩] (g := w.heap.size + 1) (by simp)).allocG (.cells #[.int .i64 0, .int .i64 0, .int .i64 0] 141)
  have l3 := Blk.newAt ((w.alloc (.cells #[.int .i64 3, .int .i64 (m : Int)] 59)).alloc (.cells #[.int .i64 0, .int .i64 0, .string ⟨#[]⟩] 55)) 141 #[.int .i64 0, .int .i64 0, .int .i64 0] (g := w.heap.size + 2) (by simp)
  have K3 := Lib.hid k3
  have G3 := Lib.hid g3
  have L3 := Lib.hid l3
  have HB := Lib.hid b3
  have hbb := hb
  have hsz : (((w.alloc (.cells #[.int .i64 3, .int .i64 (m : Int)] 59)).alloc (.cells #[.int .i64 0, .int .i64 0, .string ⟨#[]⟩] 55)).alloc (.cells #[.int .i64 0, .int .i64 0, .int .i64 0] 141)).heap.size = w.heap.size + 3 := by simp
  clear b1 b2' b3 k3 g3 l3
  go_enter Tryz.func76, Tryz.ntmps76
  generalize hW : ((w.alloc (.cells #[.int .i64 3, .int .i64 (m : Int)] 59)).alloc (.cells #[.int .i64 0, .int .i64 0, .string ⟨#[]⟩] 55)).alloc (.cells #[.int .i64 0, .int .i64 0, .int .i64 0] 141) = W3 at *
  have HOLD := Lib.hid (show ∀ W, Below w.heap.size w W → W.cell? ⟨b, off, none⟩ = some (.slice (some ⟨b2, off2, none⟩) len qc) ∧ W.cell? ⟨b, off + 1, none⟩ = some (.int .i64 1) ∧ W.cell? ⟨b2, off2 + m * 3, none⟩ = some (.int .i64 0) ∧ W.cell? ⟨b2, off2 + m * 3 + 1, none⟩ = some (.int .i64 0) ∧ W.cell? ⟨b2, off2 + m * 3 + 2, none⟩ = some (.string ⟨#[]⟩) from fun W h =>
    ⟨(h.cell (p := ⟨b, off, none⟩) hb).trans h0, (h.cell (p := ⟨b, off + 1, none⟩) hb).trans h1, (h.cell (p := ⟨b2, off2 + m * 3, none⟩) hb2).trans y0, (h.cell (p := ⟨b2, off2 + m * 3 + 1, none⟩) hb2).trans y1, (h.cell (p := ⟨b2, off2 + m * 3 + 2, none⟩) hb2).trans y2⟩)
  clear h0 h1 y0 y1 y2 hbb
  go_wp2_with fail
  go_loopw [5, 6, 7, 9, 10, 11, 12, 13] (fun a b c d e _ _ _ wr => (a = .int .i64 0 ∧ b = .int .i64 0 ∧ c = .int .i64 0 ∧ d = .slice none 0 0 ∧ e = .int .i64 0 ∧ wr = W3) ∨ (a = .int .i64 1 ∧ b = .int .i64 0 ∧ c = .int .i64 0 ∧ d = .slice none 0 0 ∧ e = .int .i64 1 ∧ Below W3.heap.size W3 wr)) (fun _ _ _ _ e _ _ _ _ => 1 - (RowKit.intOf e).toNat)
  case atStart => exact .inl ⟨rfl, rfl, rfl, rfl, rfl, rfl⟩
  case round =>
    rcases hrel with ⟨rfl, rfl, rfl, rfl, rfl, rfl⟩ | ⟨rfl, rfl, rfl, rfl, rfl, hBr⟩
    · obtain ⟨o0, o1, o2, o3, o4⟩ := HOLD.out wr HB.out
      have k0 := K3.out.cell 0
      have k1 := K3.out.cell 1
      simp only [List.getElem?_toArray, List.getElem?_cons_zero, List.getElem?_cons_succ] at k0 k1
      have hm0 : (0 : Int) ≤ (m : Int) := by omega
      have hm1 : (m : Int) < (len : Int) := by omega
      go_wp2_with fail
      go_quiet (fail)
      go_wp2_with fail
      go_roundw
      case rel => exact .inr ⟨rfl, rfl, rfl, rfl, rfl, ⟨rfl, rfl, rfl, Nat.le_refl _, fun _ _ => rfl⟩⟩
      case measure => simp [RowKit.intOf]
    · have hK := K3.out.belowV hBr K3.out.lt
      have hG := G3.out.belowV hBr G3.out.lt
      have hBB : Below w.heap.size w wr := HB.out.trans (hBr.mono HB.out.size)
      have k0 := hK.cell 0
      have f0 := hG.froz 0
      have f1 := hG.froz 1
      have f2 := hG.froz 2
      have d0 := hG.cell 0
      have d1 := hG.cell 1
      have d2 := hG.cell 2
      simp only [List.getElem?_toArray, List.getElem?_cons_zero, List.getElem?_cons_succ] at k0 d0 d1 d2
      have hset : Blk (((wr.setCell ⟨w.heap.size + 1, 0, none⟩ (.int .i64 0)).setCell ⟨w.heap.size + 1, 1, none⟩ (.int .i64 0)).setCell ⟨w.heap.size + 1, 2, none⟩ (.string ⟨#[]⟩)) (w.heap.size + 1) 55 #[.int .i64 0, .int .i64 0, .string ⟨#[]⟩] := by
        simpa using ((hG.setG 0 (.int .i64 0)).setG 1 (.int .i64 0)).setG 2 (.string ⟨#[]⟩)
      have HSET := Lib.hid hset
      have HBB := Lib.hid hBB
      clear hset hBB hK hG
      go_wp2_with fail
      have r0 := HSET.out.cell 0
      have r1 := HSET.out.cell 1
      have r2 := HSET.out.cell 2
      simp only [List.getElem?_toArray, List.getElem?_cons_zero, List.getElem?_cons_succ] at r0 r1 r2
      rw [HRES.out]
      refine bodyPost_ret (v := valA (0, 0, ⟨#[]⟩)) (by simp [results, Tryz.results76, go_sem, r0, r1, r2, valA]) rfl ⟨rfl, ?_⟩
      exact ((HBB.out.setCell (p := ⟨w.heap.size + 1, 0, none⟩) (by simp) _).setCell (p := ⟨w.heap.size + 1, 1, none⟩) (by simp) _).setCell (p := ⟨w.heap.size + 1, 2, none⟩) (by simp) _


set_option maxRecDepth 100000 in
set_option maxHeartbeats 2000000 in
theorem tellO_4_null (m b off b2 off2 len qc d : Nat) (x1 : Int) (x2 : ByteArray) (hm : m < len) (w : World) (hb : b < w.heap.size) (hb2 : b2 < w.heap.size) (h0 : w.cell? ⟨b, off, none⟩ = some (.slice (some ⟨b2, off2, none⟩) len qc)) (h1 : w.cell? ⟨b, off + 1, none⟩ = some (.int .i64 1))
    (y0 : w.cell? ⟨b2, off2 + m * 3, none⟩ = some (.int .i64 0)) (y1 : w.cell? ⟨b2, off2 + m * 3 + 1, none⟩ = some (.int .i64 0)) (y2 : w.cell? ⟨b2, off2 + m * 3 + 2, none⟩ = some (.string ⟨#[]⟩)) :
    Calls Tryz.prog 76 #[.agg #[.int .i64 4, .int .i64 (m : Int)], .slice (some ⟨b, off, none⟩) 1 d] w (ValPost w (tellK 4 [((0, 0, ⟨#[]⟩), 1)])) := by
  have HRES : Hid (tellK 4 [((0, 0, ⟨#[]⟩), 1)] = (0, 0, ⟨#[]⟩)) := Lib.hid (by
    simp [tellK, extStep, nul])
  generalize tellK 4 [((0, 0, ⟨#[]⟩), 1)] = res at HRES ⊢
  have b1 : Below w.heap.size w (w.alloc (.cells #[.int .i64 4, .int .i64 (m : Int)] 59)) := below_new _ _
  have b2' : Below w.heap.size w ((w.alloc (.cells #[.int .i64 4, .int .i64 (m : Int)] 59)).alloc (.cells #[.int .i64 0, .int .i64 0, .string ⟨#[]⟩] 55)) := b1.alloc b1.size _
  have b3 : Below w.heap.size w (((w.alloc (.cells #[.int .i64 4, .int .i64 (m : Int)] 59)).alloc (.cells #[.int .i64 0, .int .i64 0, .string ⟨#[]⟩] 55)).alloc (.cells #[.int .i64 0, .int .i64 0, .int .i64 0] 141)) := b2'.alloc b2'.size _
  have k3 := ((Blk.new w 59 #[.int .i64 4, .int .i64 (m : Int)]).allocG (.cells #[.int .i64 0, .int .i64 0, .string ⟨#[]⟩] 55)).allocG (.cells #[.int .i64 0, .int .i64 0, .int .i64 0] 141)
  have g3 := (Blk.newAt (w.alloc (.cells #[.int .i64 4, .int .i64 (m : Int)] 59)) 55 #[.int .i64 0, .int .i64 0, .string ⟨#[]⟩] (g := w.heap.size + 1) (by simp)).allocG (.cells #[.int .i64 0, .int .i64 0, .int .i64 0] 141)
  have l3 := Blk.newAt ((w.alloc (.cells #[.int .i64 4, .int .i64 (m : Int)] 59)).alloc (.cells #[.int .i64 0, .int .i64 0, .string ⟨#[]⟩] 55)) 141 #[.int .i64 0, .int .i64 0, .int .i64 0] (g := w.heap.size + 2) (by simp)
  have K3 := Lib.hid k3
  have G3 := Lib.hid g3
  have L3 := Lib.hid l3
  have HB := Lib.hid b3
  have hbb := hb
  have hsz : (((w.alloc (.cells #[.int .i64 4, .int .i64 (m : Int)] 59)).alloc (.cells #[.int .i64 0, .int .i64 0, .string ⟨#[]⟩] 55)).alloc (.cells #[.int .i64 0, .int .i64 0, .int .i64 0] 141)).heap.size = w.heap.size + 3 := by simp
  clear b1 b2' b3 k3 g3 l3
  go_enter Tryz.func76, Tryz.ntmps76
  generalize hW : ((w.alloc (.cells #[.int .i64 4, .int .i64 (m : Int)] 59)).alloc (.cells #[.int .i64 0, .int .i64 0, .string ⟨#[]⟩] 55)).alloc (.cells #[.int .i64 0, .int .i64 0, .int .i64 0] 141) = W3 at *
  have HOLD := Lib.hid (show ∀ W, Below w.heap.size w W → W.cell? ⟨b, off, none⟩ = some (.slice (some ⟨b2, off2, none⟩) len qc) ∧ W.cell? ⟨b, off + 1, none⟩ = some (.int .i64 1) ∧ W.cell? ⟨b2, off2 + m * 3, none⟩ = some (.int .i64 0) ∧ W.cell? ⟨b2, off2 + m * 3 + 1, none⟩ = some (.int .i64 0) ∧ W.cell? ⟨b2, off2 + m * 3 + 2, none⟩ = some (.string ⟨#[]⟩) from fun W h =>
    ⟨(h.cell (p := ⟨b, off, none⟩) hb).trans h0, (h.cell (p := ⟨b, off + 1, none⟩) hb).trans h1, (h.cell (p := ⟨b2, off2 + m * 3, none⟩) hb2).trans y0, (h.cell (p := ⟨b2, off2 + m * 3 + 1, none⟩) hb2).trans y1, (h.cell (p := ⟨b2, off2 + m * 3 + 2, none⟩) hb2).trans y2⟩)
  clear h0 h1 y0 y1 y2 hbb
  go_wp2_with fail
  go_loopw [5, 6, 7, 9, 10, 11, 12, 13] (fun a b c d e _ _ _ wr => (a = .int .i64 0 ∧ b = .int .i64 0 ∧ c = .int .i64 0 ∧ d = .slice none 0 0 ∧ e = .int .i64 0 ∧ wr = W3) ∨ (a = .int .i64 1 ∧ b = .int .i64 0 ∧ c = .int .i64 0 ∧ d = .slice none 0 0 ∧ e = .int .i64 1 ∧ Below W3.heap.size W3 wr)) (fun _ _ _ _ e _ _ _ _ => 1 - (RowKit.intOf e).toNat)
  case atStart => exact .inl ⟨rfl, rfl, rfl, rfl, rfl, rfl⟩
  case round =>
    rcases hrel with ⟨rfl, rfl, rfl, rfl, rfl, rfl⟩ | ⟨rfl, rfl, rfl, rfl, rfl, hBr⟩
    · obtain ⟨o0, o1, o2, o3, o4⟩ := HOLD.out wr HB.out
      have k0 := K3.out.cell 0
      have k1 := K3.out.cell 1
      simp only [List.getElem?_toArray, List.getElem?_cons_zero, List.getElem?_cons_succ] at k0 k1
      have hm0 : (0 : Int) ≤ (m : Int) := by omega
      have hm1 : (m : Int) < (len : Int) := by omega
      go_wp2_with fail
      go_quiet (fail)
      go_wp2_with fail
      go_roundw
      case rel => exact .inr ⟨rfl, rfl, rfl, rfl, rfl, ⟨rfl, rfl, rfl, Nat.le_refl _, fun _ _ => rfl⟩⟩
      case measure => simp [RowKit.intOf]
    · have hK := K3.out.belowV hBr K3.out.lt
      have hG := G3.out.belowV hBr G3.out.lt
      have hBB : Below w.heap.size w wr := HB.out.trans (hBr.mono HB.out.size)
      have k0 := hK.cell 0
      have f0 := hG.froz 0
      have f1 := hG.froz 1
      have f2 := hG.froz 2
      have d0 := hG.cell 0
      have d1 := hG.cell 1
      have d2 := hG.cell 2
      simp only [List.getElem?_toArray, List.getElem?_cons_zero, List.getElem?_cons_succ] at k0 d0 d1 d2
      have hset : Blk (((wr.setCell ⟨w.heap.size + 1, 0, none⟩ (.int .i64 0)).setCell ⟨w.heap.size + 1, 1, none⟩ (.int .i64 0)).setCell ⟨w.heap.size + 1, 2, none⟩ (.string ⟨#[]⟩)) (w.heap.size + 1) 55 #[.int .i64 0, .int .i64 0, .string ⟨#[]⟩] := by
        simpa using ((hG.setG 0 (.int .i64 0)).setG 1 (.int .i64 0)).setG 2 (.string ⟨#[]⟩)
      have HSET := Lib.hid hset
      have HBB := Lib.hid hBB
      clear hset hBB hK hG
      go_wp2_with fail
      have r0 := HSET.out.cell 0
      have r1 := HSET.out.cell 1
      have r2 := HSET.out.cell 2
      simp only [List.getElem?_toArray, List.getElem?_cons_zero, List.getElem?_cons_succ] at r0 r1 r2
      rw [HRES.out]
      refine bodyPost_ret (v := valA (0, 0, ⟨#[]⟩)) (by simp [results, Tryz.results76, go_sem, r0, r1, r2, valA]) rfl ⟨rfl, ?_⟩
      exact ((HBB.out.setCell (p := ⟨w.heap.size + 1, 0, none⟩) (by simp) _).setCell (p := ⟨w.heap.size + 1, 1, none⟩) (by simp) _).setCell (p := ⟨w.heap.size + 1, 2, none⟩) (by simp) _


set_option maxRecDepth 100000 in
set_option maxHeartbeats 2000000 in
theorem tellO_5_null (m b off b2 off2 len qc d : Nat) (x1 : Int) (x2 : ByteArray) (hm : m < len) (w : World) (hb : b < w.heap.size) (hb2 : b2 < w.heap.size) (h0 : w.cell? ⟨b, off, none⟩ = some (.slice (some ⟨b2, off2, none⟩) len qc)) (h1 : w.cell? ⟨b, off + 1, none⟩ = some (.int .i64 1))
    (y0 : w.cell? ⟨b2, off2 + m * 3, none⟩ = some (.int .i64 0)) (y1 : w.cell? ⟨b2, off2 + m * 3 + 1, none⟩ = some (.int .i64 0)) (y2 : w.cell? ⟨b2, off2 + m * 3 + 2, none⟩ = some (.string ⟨#[]⟩)) :
    Calls Tryz.prog 76 #[.agg #[.int .i64 5, .int .i64 (m : Int)], .slice (some ⟨b, off, none⟩) 1 d] w (ValPost w (tellK 5 [((0, 0, ⟨#[]⟩), 1)])) := by
  have HRES : Hid (tellK 5 [((0, 0, ⟨#[]⟩), 1)] = (0, 0, ⟨#[]⟩)) := Lib.hid (by
    simp [tellK, extStep, nul])
  generalize tellK 5 [((0, 0, ⟨#[]⟩), 1)] = res at HRES ⊢
  have b1 : Below w.heap.size w (w.alloc (.cells #[.int .i64 5, .int .i64 (m : Int)] 59)) := below_new _ _
  have b2' : Below w.heap.size w ((w.alloc (.cells #[.int .i64 5, .int .i64 (m : Int)] 59)).alloc (.cells #[.int .i64 0, .int .i64 0, .string ⟨#[]⟩] 55)) := b1.alloc b1.size _
  have b3 : Below w.heap.size w (((w.alloc (.cells #[.int .i64 5, .int .i64 (m : Int)] 59)).alloc (.cells #[.int .i64 0, .int .i64 0, .string ⟨#[]⟩] 55)).alloc (.cells #[.int .i64 0, .int .i64 0, .int .i64 0] 141)) := b2'.alloc b2'.size _
  have k3 := ((Blk.new w 59 #[.int .i64 5, .int .i64 (m : Int)]).allocG (.cells #[.int .i64 0, .int .i64 0, .string ⟨#[]⟩] 55)).allocG (.cells #[.int .i64 0, .int .i64 0, .int .i64 0] 141)
  have g3 := (Blk.newAt (w.alloc (.cells #[.int .i64 5, .int .i64 (m : Int)] 59)) 55 #[.int .i64 0, .int .i64 0, .string ⟨#[]⟩] (g := w.heap.size + 1) (by simp)).allocG (.cells #[.int .i64 0, .int .i64 0, .int .i64 0] 141)
  have l3 := Blk.newAt ((w.alloc (.cells #[.int .i64 5, .int .i64 (m : Int)] 59)).alloc (.cells #[.int .i64 0, .int .i64 0, .string ⟨#[]⟩] 55)) 141 #[.int .i64 0, .int .i64 0, .int .i64 0] (g := w.heap.size + 2) (by simp)
  have K3 := Lib.hid k3
  have G3 := Lib.hid g3
  have L3 := Lib.hid l3
  have HB := Lib.hid b3
  have hbb := hb
  have hsz : (((w.alloc (.cells #[.int .i64 5, .int .i64 (m : Int)] 59)).alloc (.cells #[.int .i64 0, .int .i64 0, .string ⟨#[]⟩] 55)).alloc (.cells #[.int .i64 0, .int .i64 0, .int .i64 0] 141)).heap.size = w.heap.size + 3 := by simp
  clear b1 b2' b3 k3 g3 l3
  go_enter Tryz.func76, Tryz.ntmps76
  generalize hW : ((w.alloc (.cells #[.int .i64 5, .int .i64 (m : Int)] 59)).alloc (.cells #[.int .i64 0, .int .i64 0, .string ⟨#[]⟩] 55)).alloc (.cells #[.int .i64 0, .int .i64 0, .int .i64 0] 141) = W3 at *
  have HOLD := Lib.hid (show ∀ W, Below w.heap.size w W → W.cell? ⟨b, off, none⟩ = some (.slice (some ⟨b2, off2, none⟩) len qc) ∧ W.cell? ⟨b, off + 1, none⟩ = some (.int .i64 1) ∧ W.cell? ⟨b2, off2 + m * 3, none⟩ = some (.int .i64 0) ∧ W.cell? ⟨b2, off2 + m * 3 + 1, none⟩ = some (.int .i64 0) ∧ W.cell? ⟨b2, off2 + m * 3 + 2, none⟩ = some (.string ⟨#[]⟩) from fun W h =>
    ⟨(h.cell (p := ⟨b, off, none⟩) hb).trans h0, (h.cell (p := ⟨b, off + 1, none⟩) hb).trans h1, (h.cell (p := ⟨b2, off2 + m * 3, none⟩) hb2).trans y0, (h.cell (p := ⟨b2, off2 + m * 3 + 1, none⟩) hb2).trans y1, (h.cell (p := ⟨b2, off2 + m * 3 + 2, none⟩) hb2).trans y2⟩)
  clear h0 h1 y0 y1 y2 hbb
  go_wp2_with fail
  go_loopw [5, 6, 7, 9, 10, 11, 12, 13] (fun a b c d e _ _ _ wr => (a = .int .i64 0 ∧ b = .int .i64 0 ∧ c = .int .i64 0 ∧ d = .slice none 0 0 ∧ e = .int .i64 0 ∧ wr = W3) ∨ (a = .int .i64 1 ∧ b = .int .i64 0 ∧ c = .int .i64 0 ∧ d = .slice none 0 0 ∧ e = .int .i64 1 ∧ Below W3.heap.size W3 wr)) (fun _ _ _ _ e _ _ _ _ => 1 - (RowKit.intOf e).toNat)
  case atStart => exact .inl ⟨rfl, rfl, rfl, rfl, rfl, rfl⟩
  case round =>
    rcases hrel with ⟨rfl, rfl, rfl, rfl, rfl, rfl⟩ | ⟨rfl, rfl, rfl, rfl, rfl, hBr⟩
    · obtain ⟨o0, o1, o2, o3, o4⟩ := HOLD.out wr HB.out
      have k0 := K3.out.cell 0
      have k1 := K3.out.cell 1
      simp only [List.getElem?_toArray, List.getElem?_cons_zero, List.getElem?_cons_succ] at k0 k1
      have hm0 : (0 : Int) ≤ (m : Int) := by omega
      have hm1 : (m : Int) < (len : Int) := by omega
      go_wp2_with fail
      go_quiet (fail)
      go_wp2_with fail
      go_roundw
      case rel => exact .inr ⟨rfl, rfl, rfl, rfl, rfl, ⟨rfl, rfl, rfl, Nat.le_refl _, fun _ _ => rfl⟩⟩
      case measure => simp [RowKit.intOf]
    · have hK := K3.out.belowV hBr K3.out.lt
      have hG := G3.out.belowV hBr G3.out.lt
      have hBB : Below w.heap.size w wr := HB.out.trans (hBr.mono HB.out.size)
      have k0 := hK.cell 0
      have f0 := hG.froz 0
      have f1 := hG.froz 1
      have f2 := hG.froz 2
      have d0 := hG.cell 0
      have d1 := hG.cell 1
      have d2 := hG.cell 2
      simp only [List.getElem?_toArray, List.getElem?_cons_zero, List.getElem?_cons_succ] at k0 d0 d1 d2
      have hset : Blk (((wr.setCell ⟨w.heap.size + 1, 0, none⟩ (.int .i64 0)).setCell ⟨w.heap.size + 1, 1, none⟩ (.int .i64 0)).setCell ⟨w.heap.size + 1, 2, none⟩ (.string ⟨#[]⟩)) (w.heap.size + 1) 55 #[.int .i64 0, .int .i64 0, .string ⟨#[]⟩] := by
        simpa using ((hG.setG 0 (.int .i64 0)).setG 1 (.int .i64 0)).setG 2 (.string ⟨#[]⟩)
      have HSET := Lib.hid hset
      have HBB := Lib.hid hBB
      clear hset hBB hK hG
      go_wp2_with fail
      have r0 := HSET.out.cell 0
      have r1 := HSET.out.cell 1
      have r2 := HSET.out.cell 2
      simp only [List.getElem?_toArray, List.getElem?_cons_zero, List.getElem?_cons_succ] at r0 r1 r2
      rw [HRES.out]
      refine bodyPost_ret (v := valA (0, 0, ⟨#[]⟩)) (by simp [results, Tryz.results76, go_sem, r0, r1, r2, valA]) rfl ⟨rfl, ?_⟩
      exact ((HBB.out.setCell (p := ⟨w.heap.size + 1, 0, none⟩) (by simp) _).setCell (p := ⟨w.heap.size + 1, 1, none⟩) (by simp) _).setCell (p := ⟨w.heap.size + 1, 2, none⟩) (by simp) _


set_option maxRecDepth 100000 in
set_option maxHeartbeats 2000000 in
theorem tellO_6_null (m b off b2 off2 len qc d : Nat) (x1 : Int) (x2 : ByteArray) (hm : m < len) (w : World) (hb : b < w.heap.size) (hb2 : b2 < w.heap.size) (h0 : w.cell? ⟨b, off, none⟩ = some (.slice (some ⟨b2, off2, none⟩) len qc)) (h1 : w.cell? ⟨b, off + 1, none⟩ = some (.int .i64 1))
    (y0 : w.cell? ⟨b2, off2 + m * 3, none⟩ = some (.int .i64 0)) (y1 : w.cell? ⟨b2, off2 + m * 3 + 1, none⟩ = some (.int .i64 0)) (y2 : w.cell? ⟨b2, off2 + m * 3 + 2, none⟩ = some (.string ⟨#[]⟩)) :
    Calls Tryz.prog 76 #[.agg #[.int .i64 6, .int .i64 (m : Int)], .slice (some ⟨b, off, none⟩) 1 d] w (ValPost w (tellK 6 [((0, 0, ⟨#[]⟩), 1)])) := by
  have HRES : Hid (tellK 6 [((0, 0, ⟨#[]⟩), 1)] = (0, 0, ⟨#[]⟩)) := Lib.hid (by
    simp [tellK, smStep, mnTell, smTell, nul])
  generalize tellK 6 [((0, 0, ⟨#[]⟩), 1)] = res at HRES ⊢
  have b1 : Below w.heap.size w (w.alloc (.cells #[.int .i64 6, .int .i64 (m : Int)] 59)) := below_new _ _
  have b2' : Below w.heap.size w ((w.alloc (.cells #[.int .i64 6, .int .i64 (m : Int)] 59)).alloc (.cells #[.int .i64 0, .int .i64 0, .string ⟨#[]⟩] 55)) := b1.alloc b1.size _
  have b3 : Below w.heap.size w (((w.alloc (.cells #[.int .i64 6, .int .i64 (m : Int)] 59)).alloc (.cells #[.int .i64 0, .int .i64 0, .string ⟨#[]⟩] 55)).alloc (.cells #[.int .i64 0, .int .i64 0, .int .i64 0] 141)) := b2'.alloc b2'.size _
  have k3 := ((Blk.new w 59 #[.int .i64 6, .int .i64 (m : Int)]).allocG (.cells #[.int .i64 0, .int .i64 0, .string ⟨#[]⟩] 55)).allocG (.cells #[.int .i64 0, .int .i64 0, .int .i64 0] 141)
  have g3 := (Blk.newAt (w.alloc (.cells #[.int .i64 6, .int .i64 (m : Int)] 59)) 55 #[.int .i64 0, .int .i64 0, .string ⟨#[]⟩] (g := w.heap.size + 1) (by simp)).allocG (.cells #[.int .i64 0, .int .i64 0, .int .i64 0] 141)
  have l3 := Blk.newAt ((w.alloc (.cells #[.int .i64 6, .int .i64 (m : Int)] 59)).alloc (.cells #[.int .i64 0, .int .i64 0, .string ⟨#[]⟩] 55)) 141 #[.int .i64 0, .int .i64 0, .int .i64 0] (g := w.heap.size + 2) (by simp)
  have K3 := Lib.hid k3
  have G3 := Lib.hid g3
  have L3 := Lib.hid l3
  have HB := Lib.hid b3
  have hbb := hb
  have hsz : (((w.alloc (.cells #[.int .i64 6, .int .i64 (m : Int)] 59)).alloc (.cells #[.int .i64 0, .int .i64 0, .string ⟨#[]⟩] 55)).alloc (.cells #[.int .i64 0, .int .i64 0, .int .i64 0] 141)).heap.size = w.heap.size + 3 := by simp
  clear b1 b2' b3 k3 g3 l3
  go_enter Tryz.func76, Tryz.ntmps76
  generalize hW : ((w.alloc (.cells #[.int .i64 6, .int .i64 (m : Int)] 59)).alloc (.cells #[.int .i64 0, .int .i64 0, .string ⟨#[]⟩] 55)).alloc (.cells #[.int .i64 0, .int .i64 0, .int .i64 0] 141) = W3 at *
  have HOLD := Lib.hid (show ∀ W, Below w.heap.size w W → W.cell? ⟨b, off, none⟩ = some (.slice (some ⟨b2, off2, none⟩) len qc) ∧ W.cell? ⟨b, off + 1, none⟩ = some (.int .i64 1) ∧ W.cell? ⟨b2, off2 + m * 3, none⟩ = some (.int .i64 0) ∧ W.cell? ⟨b2, off2 + m * 3 + 1, none⟩ = some (.int .i64 0) ∧ W.cell? ⟨b2, off2 + m * 3 + 2, none⟩ = some (.string ⟨#[]⟩) from fun W h =>
    ⟨(h.cell (p := ⟨b, off, none⟩) hb).trans h0, (h.cell (p := ⟨b, off + 1, none⟩) hb).trans h1, (h.cell (p := ⟨b2, off2 + m * 3, none⟩) hb2).trans y0, (h.cell (p := ⟨b2, off2 + m * 3 + 1, none⟩) hb2).trans y1, (h.cell (p := ⟨b2, off2 + m * 3 + 2, none⟩) hb2).trans y2⟩)
  clear h0 h1 y0 y1 y2 hbb
  go_wp2_with fail
  go_loopw [5, 6, 7, 9, 10, 11, 12, 13] (fun a b c d e _ _ _ wr => (a = .int .i64 0 ∧ b = .int .i64 0 ∧ c = .int .i64 0 ∧ d = .slice none 0 0 ∧ e = .int .i64 0 ∧ wr = W3) ∨ (a = .int .i64 1 ∧ b = .int .i64 0 ∧ c = .int .i64 0 ∧ d = .slice none 0 0 ∧ e = .int .i64 1 ∧ Below W3.heap.size W3 wr)) (fun _ _ _ _ e _ _ _ _ => 1 - (RowKit.intOf e).toNat)
  case atStart => exact .inl ⟨rfl, rfl, rfl, rfl, rfl, rfl⟩
  case round =>
    rcases hrel with ⟨rfl, rfl, rfl, rfl, rfl, rfl⟩ | ⟨rfl, rfl, rfl, rfl, rfl, hBr⟩
    · obtain ⟨o0, o1, o2, o3, o4⟩ := HOLD.out wr HB.out
      have k0 := K3.out.cell 0
      have k1 := K3.out.cell 1
      simp only [List.getElem?_toArray, List.getElem?_cons_zero, List.getElem?_cons_succ] at k0 k1
      have hm0 : (0 : Int) ≤ (m : Int) := by omega
      have hm1 : (m : Int) < (len : Int) := by omega
      go_wp2_with fail
      go_quiet (fail)
      go_wp2_with fail
      go_roundw
      case rel => exact .inr ⟨rfl, rfl, rfl, rfl, rfl, ⟨rfl, rfl, rfl, Nat.le_refl _, fun _ _ => rfl⟩⟩
      case measure => simp [RowKit.intOf]
    · have hK := K3.out.belowV hBr K3.out.lt
      have hG := G3.out.belowV hBr G3.out.lt
      have hBB : Below w.heap.size w wr := HB.out.trans (hBr.mono HB.out.size)
      have k0 := hK.cell 0
      have f0 := hG.froz 0
      have f1 := hG.froz 1
      have f2 := hG.froz 2
      have d0 := hG.cell 0
      have d1 := hG.cell 1
      have d2 := hG.cell 2
      simp only [List.getElem?_toArray, List.getElem?_cons_zero, List.getElem?_cons_succ] at k0 d0 d1 d2
      have hset : Blk (((wr.setCell ⟨w.heap.size + 1, 0, none⟩ (.int .i64 0)).setCell ⟨w.heap.size + 1, 1, none⟩ (.int .i64 0)).setCell ⟨w.heap.size + 1, 2, none⟩ (.string ⟨#[]⟩)) (w.heap.size + 1) 55 #[.int .i64 0, .int .i64 0, .string ⟨#[]⟩] := by
        simpa using ((hG.setG 0 (.int .i64 0)).setG 1 (.int .i64 0)).setG 2 (.string ⟨#[]⟩)
      have HSET := Lib.hid hset
      have HBB := Lib.hid hBB
      clear hset hBB hK hG
      go_wp2_with fail
      have r0 := HSET.out.cell 0
      have r1 := HSET.out.cell 1
      have r2 := HSET.out.cell 2
      simp only [List.getElem?_toArray, List.getElem?_cons_zero, List.getElem?_cons_succ] at r0 r1 r2
      rw [HRES.out]
      refine bodyPost_ret (v := valA (0, 0, ⟨#[]⟩)) (by simp [results, Tryz.results76, go_sem, r0, r1, r2, valA]) rfl ⟨rfl, ?_⟩
      exact ((HBB.out.setCell (p := ⟨w.heap.size + 1, 0, none⟩) (by simp) _).setCell (p := ⟨w.heap.size + 1, 1, none⟩) (by simp) _).setCell (p := ⟨w.heap.size + 1, 2, none⟩) (by simp) _


set_option maxRecDepth 100000 in
set_option maxHeartbeats 2000000 in
theorem tellO_7_null (m b off b2 off2 len qc d : Nat) (x1 : Int) (x2 : ByteArray) (hm : m < len) (w : World) (hb : b < w.heap.size) (hb2 : b2 < w.heap.size) (h0 : w.cell? ⟨b, off, none⟩ = some (.slice (some ⟨b2, off2, none⟩) len qc)) (h1 : w.cell? ⟨b, off + 1, none⟩ = some (.int .i64 1))
    (y0 : w.cell? ⟨b2, off2 + m * 3, none⟩ = some (.int .i64 0)) (y1 : w.cell? ⟨b2, off2 + m * 3 + 1, none⟩ = some (.int .i64 0)) (y2 : w.cell? ⟨b2, off2 + m * 3 + 2, none⟩ = some (.string ⟨#[]⟩)) :
    Calls Tryz.prog 76 #[.agg #[.int .i64 7, .int .i64 (m : Int)], .slice (some ⟨b, off, none⟩) 1 d] w (ValPost w (tellK 7 [((0, 0, ⟨#[]⟩), 1)])) := by
  have HRES : Hid (tellK 7 [((0, 0, ⟨#[]⟩), 1)] = (1, 0, ⟨#[]⟩)) := Lib.hid (by
    simp [tellK, seenStep, nul, numV_0])
  generalize tellK 7 [((0, 0, ⟨#[]⟩), 1)] = res at HRES ⊢
  have b1 : Below w.heap.size w (w.alloc (.cells #[.int .i64 7, .int .i64 (m : Int)] 59)) := below_new _ _
  have b2' : Below w.heap.size w ((w.alloc (.cells #[.int .i64 7, .int .i64 (m : Int)] 59)).alloc (.cells #[.int .i64 0, .int .i64 0, .string ⟨#[]⟩] 55)) := b1.alloc b1.size _
  have b3 : Below w.heap.size w (((w.alloc (.cells #[.int .i64 7, .int .i64 (m : Int)] 59)).alloc (.cells #[.int .i64 0, .int .i64 0, .string ⟨#[]⟩] 55)).alloc (.cells #[.int .i64 0, .int .i64 0, .int .i64 0] 141)) := b2'.alloc b2'.size _
  have k3 := ((Blk.new w 59 #[.int .i64 7, .int .i64 (m : Int)]).allocG (.cells #[.int .i64 0, .int .i64 0, .string ⟨#[]⟩] 55)).allocG (.cells #[.int .i64 0, .int .i64 0, .int .i64 0] 141)
  have g3 := (Blk.newAt (w.alloc (.cells #[.int .i64 7, .int .i64 (m : Int)] 59)) 55 #[.int .i64 0, .int .i64 0, .string ⟨#[]⟩] (g := w.heap.size + 1) (by simp)).allocG (.cells #[.int .i64 0, .int .i64 0, .int .i64 0] 141)
  have l3 := Blk.newAt ((w.alloc (.cells #[.int .i64 7, .int .i64 (m : Int)] 59)).alloc (.cells #[.int .i64 0, .int .i64 0, .string ⟨#[]⟩] 55)) 141 #[.int .i64 0, .int .i64 0, .int .i64 0] (g := w.heap.size + 2) (by simp)
  have K3 := Lib.hid k3
  have G3 := Lib.hid g3
  have L3 := Lib.hid l3
  have HB := Lib.hid b3
  have hbb := hb
  have hsz : (((w.alloc (.cells #[.int .i64 7, .int .i64 (m : Int)] 59)).alloc (.cells #[.int .i64 0, .int .i64 0, .string ⟨#[]⟩] 55)).alloc (.cells #[.int .i64 0, .int .i64 0, .int .i64 0] 141)).heap.size = w.heap.size + 3 := by simp
  clear b1 b2' b3 k3 g3 l3
  go_enter Tryz.func76, Tryz.ntmps76
  generalize hW : ((w.alloc (.cells #[.int .i64 7, .int .i64 (m : Int)] 59)).alloc (.cells #[.int .i64 0, .int .i64 0, .string ⟨#[]⟩] 55)).alloc (.cells #[.int .i64 0, .int .i64 0, .int .i64 0] 141) = W3 at *
  have HOLD := Lib.hid (show ∀ W, Below w.heap.size w W → W.cell? ⟨b, off, none⟩ = some (.slice (some ⟨b2, off2, none⟩) len qc) ∧ W.cell? ⟨b, off + 1, none⟩ = some (.int .i64 1) ∧ W.cell? ⟨b2, off2 + m * 3, none⟩ = some (.int .i64 0) ∧ W.cell? ⟨b2, off2 + m * 3 + 1, none⟩ = some (.int .i64 0) ∧ W.cell? ⟨b2, off2 + m * 3 + 2, none⟩ = some (.string ⟨#[]⟩) from fun W h =>
    ⟨(h.cell (p := ⟨b, off, none⟩) hb).trans h0, (h.cell (p := ⟨b, off + 1, none⟩) hb).trans h1, (h.cell (p := ⟨b2, off2 + m * 3, none⟩) hb2).trans y0, (h.cell (p := ⟨b2, off2 + m * 3 + 1, none⟩) hb2).trans y1, (h.cell (p := ⟨b2, off2 + m * 3 + 2, none⟩) hb2).trans y2⟩)
  clear h0 h1 y0 y1 y2 hbb
  go_wp2_with fail
  go_loopw [5, 6, 7, 9, 10, 11, 12, 13] (fun a b c d e _ _ _ wr => (a = .int .i64 0 ∧ b = .int .i64 0 ∧ c = .int .i64 0 ∧ d = .slice none 0 0 ∧ e = .int .i64 0 ∧ wr = W3) ∨ (a = .int .i64 1 ∧ b = .int .i64 0 ∧ c = .int .i64 0 ∧ d = .slice none 0 0 ∧ e = .int .i64 1 ∧ Below W3.heap.size W3 wr)) (fun _ _ _ _ e _ _ _ _ => 1 - (RowKit.intOf e).toNat)
  case atStart => exact .inl ⟨rfl, rfl, rfl, rfl, rfl, rfl⟩
  case round =>
    rcases hrel with ⟨rfl, rfl, rfl, rfl, rfl, rfl⟩ | ⟨rfl, rfl, rfl, rfl, rfl, hBr⟩
    · obtain ⟨o0, o1, o2, o3, o4⟩ := HOLD.out wr HB.out
      have k0 := K3.out.cell 0
      have k1 := K3.out.cell 1
      simp only [List.getElem?_toArray, List.getElem?_cons_zero, List.getElem?_cons_succ] at k0 k1
      have hm0 : (0 : Int) ≤ (m : Int) := by omega
      have hm1 : (m : Int) < (len : Int) := by omega
      go_wp2_with fail
      go_quiet (fail)
      go_wp2_with fail
      go_roundw
      case rel => exact .inr ⟨rfl, rfl, rfl, rfl, rfl, ⟨rfl, rfl, rfl, Nat.le_refl _, fun _ _ => rfl⟩⟩
      case measure => simp [RowKit.intOf]
    · have hK := K3.out.belowV hBr K3.out.lt
      have hG := G3.out.belowV hBr G3.out.lt
      have hBB : Below w.heap.size w wr := HB.out.trans (hBr.mono HB.out.size)
      have k0 := hK.cell 0
      have f0 := hG.froz 0
      have f1 := hG.froz 1
      have f2 := hG.froz 2
      have d0 := hG.cell 0
      have d1 := hG.cell 1
      have d2 := hG.cell 2
      simp only [List.getElem?_toArray, List.getElem?_cons_zero, List.getElem?_cons_succ] at k0 d0 d1 d2
      have hset : Blk (((wr.setCell ⟨w.heap.size + 1, 0, none⟩ (.int .i64 1)).setCell ⟨w.heap.size + 1, 1, none⟩ (.int .i64 0)).setCell ⟨w.heap.size + 1, 2, none⟩ (.string ⟨#[]⟩)) (w.heap.size + 1) 55 #[.int .i64 1, .int .i64 0, .string ⟨#[]⟩] := by
        simpa using ((hG.setG 0 (.int .i64 1)).setG 1 (.int .i64 0)).setG 2 (.string ⟨#[]⟩)
      have HSET := Lib.hid hset
      have HBB := Lib.hid hBB
      clear hset hBB hK hG
      go_wp2_with fail
      have r0 := HSET.out.cell 0
      have r1 := HSET.out.cell 1
      have r2 := HSET.out.cell 2
      simp only [List.getElem?_toArray, List.getElem?_cons_zero, List.getElem?_cons_succ] at r0 r1 r2
      rw [HRES.out]
      refine bodyPost_ret (v := valA (1, 0, ⟨#[]⟩)) (by simp [results, Tryz.results76, go_sem, r0, r1, r2, valA]) rfl ⟨rfl, ?_⟩
      exact ((HBB.out.setCell (p := ⟨w.heap.size + 1, 0, none⟩) (by simp) _).setCell (p := ⟨w.heap.size + 1, 1, none⟩) (by simp) _).setCell (p := ⟨w.heap.size + 1, 2, none⟩) (by simp) _


end Go.Proofs.YtfoknllnknjccaaGreat

/-!
  What the document tells of one row.
-/
namespace Go.Proofs.YtfoknllnknjccaaGreat
open Go.RowKit
set_option linter.unusedSimpArgs false
set_option linter.unusedVariables false

set_option maxRecDepth 100000 in
set_option maxHeartbeats 2000000 in
theorem tellO_2_text (m b off b2 off2 len qc d : Nat) (x1 : Int) (x2 : ByteArray) (hm : m < len) (w : World) (hb : b < w.heap.size) (hb2 : b2 < w.heap.size) (h0 : w.cell? ⟨b, off, none⟩ = some (.slice (some ⟨b2, off2, none⟩) len qc)) (h1 : w.cell? ⟨b, off + 1, none⟩ = some (.int .i64 1))
    (y0 : w.cell? ⟨b2, off2 + m * 3, none⟩ = some (.int .i64 2)) (y1 : w.cell? ⟨b2, off2 + m * 3 + 1, none⟩ = some (.int .i64 0)) (y2 : w.cell? ⟨b2, off2 + m * 3 + 2, none⟩ = some (.string x2)) :
    Calls Tryz.prog 76 #[.agg #[.int .i64 2, .int .i64 (m : Int)], .slice (some ⟨b, off, none⟩) 1 d] w (ValPost w (tellK 2 [((2, 0, x2), 1)])) := by
  have HRES : Hid (tellK 2 [((2, 0, x2), 1)] = (1, 1, ⟨#[]⟩)) := Lib.hid (by
    simp [tellK, valStep, nul, w_1, numV_1])
  generalize tellK 2 [((2, 0, x2), 1)] = res at HRES ⊢
  have b1 : Below w.heap.size w (w.alloc (.cells #[.int .i64 2, .int .i64 (m : Int)] 59)) := below_new _ _
  have b2' : Below w.heap.size w ((w.alloc (.cells #[.int .i64 2, .int .i64 (m : Int)] 59)).alloc (.cells #[.int .i64 0, .int .i64 0, .string ⟨#[]⟩] 55)) := b1.alloc b1.size _
  have b3 : Below w.heap.size w (((w.alloc (.cells #[.int .i64 2, .int .i64 (m : Int)] 59)).alloc (.cells #[.int .i64 0, .int .i64 0, .string ⟨#[]⟩] 55)).alloc (.cells #[.int .i64 0, .int .i64 0, .int .i64 0] 141)) := b2'.alloc b2'.size _
  have k3 := ((Blk.new w 59 #[.int .i64 2, .int .i64 (m : Int)]).allocG (.cells #[.int .i64 0, .int .i64 0, .string ⟨#[]⟩] 55)).allocG (.cells #[.int .i64 0, .int .i64 0, .int .i64 0] 141)
  have g3 := (Blk.newAt (w.alloc (.cells #[.int .i64 2, .int .i64 (m : Int)] 59)) 55 #[.int .i64 0, .int .i64 0, .string ⟨#[]⟩] (g := w.heap.size + 1) (by simp)).allocG (.cells #[.int .i64 0, .int .i64 0, .int .i64 0] 141)
  have l3 := Blk.newAt ((w.alloc (.cells #[.int .i64 2, .int .i64 (m : Int)] 59)).alloc (.cells #[.int .i64 0, .int .i64 0, .string ⟨#[]⟩] 55)) 141 #[.int .i64 0, .int .i64 0, .int .i64 0] (g := w.heap.size + 2) (by simp)
  have K3 := Lib.hid k3
  have G3 := Lib.hid g3
  have L3 := Lib.hid l3
  have HB := Lib.hid b3
  have hbb := hb
  have hsz : (((w.alloc (.cells #[.int .i64 2, .int .i64 (m : Int)] 59)).alloc (.cells #[.int .i64 0, .int .i64 0, .string ⟨#[]⟩] 55)).alloc (.cells #[.int .i64 0, .int .i64 0, .int .i64 0] 141)).heap.size = w.heap.size + 3 := by simp
  clear b1 b2' b3 k3 g3 l3
  go_enter Tryz.func76, Tryz.ntmps76
  generalize hW : ((w.alloc (.cells #[.int .i64 2, .int .i64 (m : Int)] 59)).alloc (.cells #[.int .i64 0, .int .i64 0, .string ⟨#[]⟩] 55)).alloc (.cells #[.int .i64 0, .int .i64 0, .int .i64 0] 141) = W3 at *
  have HOLD := Lib.hid (show ∀ W, Below w.heap.size w W → W.cell? ⟨b, off, none⟩ = some (.slice (some ⟨b2, off2, none⟩) len qc) ∧ W.cell? ⟨b, off + 1, none⟩ = some (.int .i64 1) ∧ W.cell? ⟨b2, off2 + m * 3, none⟩ = some (.int .i64 2) ∧ W.cell? ⟨b2, off2 + m * 3 + 1, none⟩ = some (.int .i64 0) ∧ W.cell? ⟨b2, off2 + m * 3 + 2, none⟩ = some (.string x2) from fun W h =>
    ⟨(h.cell (p := ⟨b, off, none⟩) hb).trans h0, (h.cell (p := ⟨b, off + 1, none⟩) hb).trans h1, (h.cell (p := ⟨b2, off2 + m * 3, none⟩) hb2).trans y0, (h.cell (p := ⟨b2, off2 + m * 3 + 1, none⟩) hb2).trans y1, (h.cell (p := ⟨b2, off2 + m * 3 + 2, none⟩) hb2).trans y2⟩)
  clear h0 h1 y0 y1 y2 hbb
  go_wp2_with fail
  go_loopw [5, 6, 7, 9, 10, 11, 12, 13] (fun a b c d e _ _ _ wr => (a = .int .i64 0 ∧ b = .int .i64 0 ∧ c = .int .i64 0 ∧ d = .slice none 0 0 ∧ e = .int .i64 0 ∧ wr = W3) ∨ (a = .int .i64 1 ∧ b = .int .i64 1 ∧ c = .int .i64 0 ∧ (∃ g cap, d = .slice (some ⟨g, 0, none⟩) 1 cap ∧ Hid (OwnsV wr W3.heap.size d [(2, 0, x2)])) ∧ e = .int .i64 1 ∧ Blk wr w.heap.size 59 #[.int .i64 2, .int .i64 (m : Int)] ∧ Blk wr (w.heap.size + 1) 55 #[.int .i64 0, .int .i64 0, .string ⟨#[]⟩] ∧ Blk wr (w.heap.size + 2) 141 #[.int .i64 ((0, 0, 0) : S3).1, .int .i64 ((0, 0, 0) : S3).2.1, .int .i64 ((0, 0, 0) : S3).2.2] ∧ Below w.heap.size w wr)) (fun _ _ _ _ e _ _ _ _ => 1 - (RowKit.intOf e).toNat)
  case atStart => exact .inl ⟨rfl, rfl, rfl, rfl, rfl, rfl⟩
  case round =>
    rcases hrel with ⟨rfl, rfl, rfl, rfl, rfl, rfl⟩ | ⟨rfl, rfl, rfl, ⟨g, cap, rfl, hO⟩, rfl, hK, hG, hL, hBB⟩
    · obtain ⟨i0, hi, hz0, hz1, hz2⟩ := info_parts infoV
      obtain ⟨o0, o1, o2, o3, o4⟩ := HOLD.out wr HB.out
      have k0 := K3.out.cell 0
      have k1 := K3.out.cell 1
      simp only [List.getElem?_toArray, List.getElem?_cons_zero, List.getElem?_cons_succ] at k0 k1
      have hm0 : (0 : Int) ≤ (m : Int) := by omega
      have hm1 : (m : Int) < (len : Int) := by omega
      go_wp2_with fail
      go_quiet (fail)
      go_wp2_with fail
      have HB4 : Hid (Below wr.heap.size wr (wr.drewN nq)) := Lib.hid ⟨rfl, rfl, rfl, Nat.le_refl _, fun _ _ => rfl⟩
      have HZ4 : Hid ((wr.drewN nq).heap.size = wr.heap.size) := Lib.hid rfl
      generalize wr.drewN nq = W4 at *
      have HI := Lib.hid (show ∀ W, Below wr.heap.size wr W → Below wr.heap.size wr W ∧ (W.cell? ⟨b, off, none⟩ = some (.slice (some ⟨b2, off2, none⟩) len qc) ∧ W.cell? ⟨b2, off2 + m * 3, none⟩ = some (.int .i64 2) ∧ W.cell? ⟨b2, off2 + m * 3 + 1, none⟩ = some (.int .i64 0) ∧ W.cell? ⟨b2, off2 + m * 3 + 2, none⟩ = some (.string x2) ∧ W.cell? ⟨w.heap.size, 1, none⟩ = some (.int .i64 (m : Int))) from fun W h => by
        obtain ⟨p0, _, p2, p3, p4⟩ := HOLD.out W (HB.out.trans (h.mono HB.out.size))
        have z1 := (K3.out.belowV h K3.out.lt).cell 1
        simp only [List.getElem?_toArray, List.getElem?_cons_zero, List.getElem?_cons_succ] at z1
        exact ⟨h, p0, p2, p3, p4, z1⟩)
      clear o0 o1 o2 o3 o4 k0 k1
      refine wp_region_held_drew (S := fun W : World => Below wr.heap.size wr W ∧ (W.cell? ⟨b, off, none⟩ = some (.slice (some ⟨b2, off2, none⟩) len qc) ∧ W.cell? ⟨b2, off2 + m * 3, none⟩ = some (.int .i64 2) ∧ W.cell? ⟨b2, off2 + m * 3 + 1, none⟩ = some (.int .i64 0) ∧ W.cell? ⟨b2, off2 + m * 3 + 2, none⟩ = some (.string x2) ∧ W.cell? ⟨w.heap.size, 1, none⟩ = some (.int .i64 (m : Int)))) (by kernel_rfl) (HI.out _ (HB4.out.trans ((Below.refl _ _).drew.mono HB4.out.size))) (fun hHeld => ?_)
      refine wpAnyH_take (i := 0) (oi := _) (v := ?_) rfl (by kernel_rfl) (by kernel_rfl) (by kernel_rfl) (fun _ _ _ h => h) (Or.inl ⟨by rfl, ?_⟩) (by assumption) ?_
      rotate_left
      · intro w hSw
        try dsimp only at hSw
        go_simp
        all_goals with_reducible rfl
      simp only [List.getElem_toArray, List.getElem_cons_succ, List.getElem_cons_zero, Act.put, List.setIfInBounds_toArray, List.set_cons_zero, List.set_cons_succ]
      refine wpAnyH_take (i := 1) (oi := _) (v := ?_) rfl (by kernel_rfl) (by kernel_rfl) (by kernel_rfl) (fun _ _ _ h => h) (Or.inl ⟨by rfl, ?_⟩) (by assumption) ?_
      rotate_left
      · intro w hSw
        try dsimp only at hSw
        go_simp
        all_goals with_reducible rfl
      simp only [List.getElem_toArray, List.getElem_cons_succ, List.getElem_cons_zero, Act.put, List.setIfInBounds_toArray, List.set_cons_zero, List.set_cons_succ]
      refine wpAnyH_take (i := 2) (oi := _) (v := ?_) rfl (by kernel_rfl) (by kernel_rfl) (by kernel_rfl) (fun _ _ _ h => h) (Or.inl ⟨by rfl, ?_⟩) (by assumption) ?_
      rotate_left
      · intro w hSw
        try dsimp only at hSw
        go_simp
        all_goals with_reducible rfl
      simp only [List.getElem_toArray, List.getElem_cons_succ, List.getElem_cons_zero, Act.put, List.setIfInBounds_toArray, List.set_cons_zero, List.set_cons_succ]
      refine wpAnyH_take (i := 3) (oi := _) (v := ?_) rfl (by kernel_rfl) (by kernel_rfl) (by kernel_rfl) (fun _ _ _ h => h) (Or.inl ⟨by rfl, ?_⟩) (by assumption) ?_
      rotate_left
      · intro w hSw
        try dsimp only at hSw
        go_simp
        all_goals with_reducible rfl
      simp only [List.getElem_toArray, List.getElem_cons_succ, List.getElem_cons_zero, Act.put, List.setIfInBounds_toArray, List.set_cons_zero, List.set_cons_succ]
      refine wpAnyH_take (i := 4) (oi := _) (v := ?_) rfl (by kernel_rfl) (by kernel_rfl) (by kernel_rfl) (fun _ _ _ h => h) (Or.inl ⟨by rfl, ?_⟩) (by assumption) ?_
      rotate_left
      · intro w hSw
        try dsimp only at hSw
        go_simp
        all_goals with_reducible rfl
      simp only [List.getElem_toArray, List.getElem_cons_succ, List.getElem_cons_zero, Act.put, List.setIfInBounds_toArray, List.set_cons_zero, List.set_cons_succ]
      refine wpAnyH_take (i := 5) (oi := _) (v := ?_) rfl (by kernel_rfl) (by kernel_rfl) (by kernel_rfl) (fun _ _ _ h => h) (Or.inl ⟨by rfl, ?_⟩) (by assumption) ?_
      rotate_left
      · intro w hSw
        try dsimp only at hSw
        go_simp
        all_goals with_reducible rfl
      simp only [List.getElem_toArray, List.getElem_cons_succ, List.getElem_cons_zero, Act.put, List.setIfInBounds_toArray, List.set_cons_zero, List.set_cons_succ]
      refine wpAnyH_take (i := 6) (oi := _) (v := ?_) rfl (by kernel_rfl) (by kernel_rfl) (by kernel_rfl) (fun _ _ _ h => h) (Or.inl ⟨by rfl, ?_⟩) (by assumption) ?_
      rotate_left
      · intro w hSw
        try dsimp only at hSw
        go_simp
        all_goals with_reducible rfl
      simp only [List.getElem_toArray, List.getElem_cons_succ, List.getElem_cons_zero, Act.put, List.setIfInBounds_toArray, List.set_cons_zero, List.set_cons_succ]
      refine wpAnyH_take (i := 7) (oi := _) (v := ?_) rfl (by kernel_rfl) (by kernel_rfl) (by kernel_rfl) (fun _ _ _ h => h) (Or.inl ⟨by rfl, ?_⟩) (by assumption) ?_
      rotate_left
      · intro w hSw
        try dsimp only at hSw
        go_simp
        all_goals with_reducible rfl
      simp only [List.getElem_toArray, List.getElem_cons_succ, List.getElem_cons_zero, Act.put, List.setIfInBounds_toArray, List.set_cons_zero, List.set_cons_succ]
      refine wpAnyH_take (i := 8) (oi := _) (v := ?_) rfl (by kernel_rfl) (by kernel_rfl) (by kernel_rfl) (fun _ _ _ h => h) (Or.inl ⟨by rfl, ?_⟩) (by assumption) ?_
      rotate_left
      · intro w hSw
        try dsimp only at hSw
        go_simp
        all_goals with_reducible rfl
      simp only [List.getElem_toArray, List.getElem_cons_succ, List.getElem_cons_zero, Act.put, List.setIfInBounds_toArray, List.set_cons_zero, List.set_cons_succ]
      refine wpAnyH_ready (rs := [9]) (by kernel_rfl) (by simp) ?_
      refine AllReadyH.cons (o := _) rfl (fun K hK => ?_) AllReadyH.nil
      go_simp
      refine hK.out _ _ (HI.out _ (hHeld.1.alloc hHeld.1.size _)) (fun hHeld1 => ?_)
      clear hHeld
      clear hK K
      try simp only [List.getElem_toArray, List.getElem_cons_succ, List.getElem_cons_zero, Act.put, List.setIfInBounds_toArray, List.set_cons_zero, List.set_cons_succ]
      have hN5 := Blk.newAt W4.drew 55 #[.int .i64 0, .int .i64 0, .string ⟨#[]⟩] (g := W4.heap.size) rfl
      have f0 := hN5.froz 0
      have f1 := hN5.froz 1
      have f2 := hN5.froz 2
      have d0 := hN5.cell 0
      have d1 := hN5.cell 1
      have d2 := hN5.cell 2
      simp only [List.getElem?_toArray, List.getElem?_cons_zero, List.getElem?_cons_succ] at d0 d1 d2
      have HN5 := Lib.hid hN5
      clear hN5
      refine wpAnyH_ready (rs := [10]) (by kernel_rfl) (by simp) ?_
      refine AllReadyH.cons (o := _) rfl (fun K hK => ?_) AllReadyH.nil
      go_simp
      have HW5 := Lib.hid (show Below wr.heap.size wr (W4.alloc (.cells #[.int .i64 2, .int .i64 0, .string x2] 55)).drew from (HB4.out.alloc HB4.out.size _).trans ((Below.refl _ _).drew.mono (by have := HB4.out.size; simp; omega)))
      have HN6 := Lib.hid ((Blk.newAt W4 55 #[.int .i64 2, .int .i64 0, .string x2] (g := W4.heap.size) rfl).drewG)
      refine hK.out _ _ (HI.out _ HW5.out) (fun hHeld2 => ?_)
      clear hHeld1 f0 f1 f2 d0 d1 d2 HN5
      clear hK K
      try simp only [List.getElem_toArray, List.getElem_cons_succ, List.getElem_cons_zero, Act.put, List.setIfInBounds_toArray, List.set_cons_zero, List.set_cons_succ]
      refine wpAnyH_done (by kernel_rfl) ?_ _
      clear hHeld2
      generalize (W4.alloc (.cells #[.int .i64 2, .int .i64 0, .string x2] 55)).drew = W5 at *
      have HZ5 := Lib.hid (show wr.heap.size ≤ W4.heap.size from HB4.out.size)
      have n0 := HN6.out.cell 0
      have n1 := HN6.out.cell 1
      have n2 := HN6.out.cell 2
      simp only [List.getElem?_toArray, List.getElem?_cons_zero, List.getElem?_cons_succ] at n0 n1 n2
      obtain ⟨o0, o1, o2, o3, o4⟩ := HOLD.out W5 (HB.out.trans (HW5.out.mono HB.out.size))
      clear HB4 HZ4
      generalize W4.heap.size = n4 at *
      go_wp2_with fail
      go_loopw [12] (fun s wr6 => s = .int .i64 0 ∧ W5 = wr6) (fun _ _ => 0)
      case atStart => exact ⟨rfl, rfl⟩
      case round =>
        obtain ⟨rfl, rfl⟩ := hrel
        go_wp2_with fail
        go_quiet (fail)
        go_wp2_with fail
        go_quiet (fail)
        have hn4 := HN6.out.lt
        have hne4 : n4 ≠ W5.heap.size := by omega
        have hsz4 := HZ5.out
        have hw6 : W5.heap.size ≠ n4 := by omega
        have hN8 : ∀ q : Nat, Blk ((W5.drewN q).alloc (.cells #[] 55)) n4 55 #[.int .i64 2, .int .i64 0, .string x2] := fun q => (show Blk (W5.drewN q) n4 55 #[.int .i64 2, .int .i64 0, .string x2] from HN6.out).allocG _
        have a0 := fun q => (hN8 q).cell 0
        have a1 := fun q => (hN8 q).cell 1
        have a2 := fun q => (hN8 q).cell 2
        simp only [List.getElem?_toArray, List.getElem?_cons_zero, List.getElem?_cons_succ] at a0 a1 a2
        clear hN8 n0 n1 n2
        have HOW := Lib.hid (fun (W6 : World) => (show ((W6.alloc (.cells #[] 55)).alloc (.cells #[.int .i64 2, .int .i64 0, .string x2] 55)).ownsRow W6.heap.size 55 3 (.slice (some ⟨W6.heap.size, 0, none⟩) 0 0) 0 [] from (World.ownsRow_made W6 #[] 0 (Nat.le_refl _) (Nat.zero_le _) rfl).alloc _))
        have HB6 := Lib.hid (fun (q : Nat) => (show Below wr.heap.size wr (W5.drewN q) from ⟨HW5.out.os, HW5.out.tape, HW5.out.output, HW5.out.size, HW5.out.block⟩))
        go_wp2_with (at_builtin; refine wpList_append_own _ rfl _ _ 33 rfl W5.heap.size 55 i0 (.agg #[.int .i64 0, .int .i64 0, .string ⟨#[]⟩]) 3 32 Tryz.underlying33 hi hz0 hz1 hz2 rfl (by decide) _ 0 [] rfl (HOW.out _) ⟨W5.heap.size + 1, 0, none⟩ 1 1 (cellsV (2, 0, x2)) rfl rfl (cells_at _ _ _ (by simp)) (by simp [cellsV, Value.oneCell']) (by unfold maxLen; omega) (by omega) (by simp <;> omega) ?_; intro v' w7 hown' hgrow _; have HB7 := Lib.hid (show Below wr.heap.size wr w7 from (((HB6.out _).alloc (HB6.out _).size (.cells #[] 55)).alloc (by have := HW5.out.size; simp; omega) (.cells #[.int .i64 2, .int .i64 0, .string x2] 55)).grown hgrow (by have := HW5.out.size; simp; omega) (fun k e => Nat.le_trans HW5.out.size ((HOW.out _).lt k e).1)); have HN7 := Lib.hid hown'; obtain ⟨g7, c7, rfl, hc7, hc7m⟩ := own_one hown'; clear hown' hgrow)
        go_roundw
        case rel => exact .inr ⟨rfl, rfl, rfl, ⟨g7, c7, rfl, by
          have h := ownsRow_base HN7.out HW5.out.size
          have e : flatV [((2, 0, x2) : Val)] = [] ++ cellsV (2, 0, x2) := by simp [flatV]
          show w7.ownsRow wr.heap.size 55 3 _ (0 + 1) (flatV [((2, 0, x2) : Val)])
          rw [e]
          exact h⟩, rfl, K3.out.belowV HB7.out K3.out.lt, G3.out.belowV HB7.out G3.out.lt, L3.out.belowV HB7.out L3.out.lt, HB.out.trans (HB7.out.mono HB.out.size)⟩
        case measure => simp [RowKit.intOf]
    · have hvi := valsIn_of_owns hO.out
      obtain ⟨g', o', he, hgl, hva⟩ := hvi (by simp)
      simp only [Option.some.injEq, Addr.mk.injEq, and_true] at he
      obtain ⟨rfl, rfl⟩ := he
      obtain ⟨v0, v1, v2⟩ := hva 0 (by simp)
      simp only [List.getElem?_cons_zero, Option.getD_some, Nat.zero_mul, Nat.add_zero, Nat.zero_add] at v0 v1 v2
      have l0 := hL.cell 0
      have l1 := hL.cell 1
      have l2 := hL.cell 2
      simp only [List.getElem?_toArray, List.getElem?_cons_zero, List.getElem?_cons_succ] at l0 l1 l2
      clear hO hL hva
      have k0 := hK.cell 0
      have f0 := hG.froz 0
      have f1 := hG.froz 1
      have f2 := hG.froz 2
      have d0 := hG.cell 0
      have d1 := hG.cell 1
      have d2 := hG.cell 2
      simp only [List.getElem?_toArray, List.getElem?_cons_zero, List.getElem?_cons_succ] at k0 d0 d1 d2
      have hset : Blk (((wr.setCell ⟨w.heap.size + 1, 0, none⟩ (.int .i64 1)).setCell ⟨w.heap.size + 1, 1, none⟩ (.int .i64 1)).setCell ⟨w.heap.size + 1, 2, none⟩ (.string ⟨#[]⟩)) (w.heap.size + 1) 55 #[.int .i64 1, .int .i64 1, .string ⟨#[]⟩] := by
        simpa using ((hG.setG 0 (.int .i64 1)).setG 1 (.int .i64 1)).setG 2 (.string ⟨#[]⟩)
      have HSET := Lib.hid hset
      have HBB := Lib.hid hBB
      clear hset hBB hK hG
      go_wp2_with fail
      have r0 := HSET.out.cell 0
      have r1 := HSET.out.cell 1
      have r2 := HSET.out.cell 2
      simp only [List.getElem?_toArray, List.getElem?_cons_zero, List.getElem?_cons_succ] at r0 r1 r2
      rw [HRES.out]
      refine bodyPost_ret (v := valA (1, 1, ⟨#[]⟩)) (by simp [results, Tryz.results76, go_sem, r0, r1, r2, valA]) rfl ⟨rfl, ?_⟩
      exact ((HBB.out.setCell (p := ⟨w.heap.size + 1, 0, none⟩) (by simp) _).setCell (p := ⟨w.heap.size + 1, 1, none⟩) (by simp) _).setCell (p := ⟨w.heap.size + 1, 2, none⟩) (by simp) _

set_option maxRecDepth 100000 in
set_option maxHeartbeats 2000000 in
theorem tellO_3_text (m b off b2 off2 len qc d : Nat) (x1 : Int) (x2 : ByteArray) (hm : m < len) (w : World) (hb : b < w.heap.size) (hb2 : b2 < w.heap.size) (h0 : w.cell? ⟨b, off, none⟩ = some (.slice (some ⟨b2, off2, none⟩) len qc)) (h1 : w.cell? ⟨b, off + 1, none⟩ = some (.int .i64 1))
    (y0 : w.cell? ⟨b2, off2 + m * 3, none⟩ = some (.int .i64 2)) (y1 : w.cell? ⟨b2, off2 + m * 3 + 1, none⟩ = some (.int .i64 0)) (y2 : w.cell? ⟨b2, off2 + m * 3 + 2, none⟩ = some (.string x2)) :
    Calls Tryz.prog 76 #[.agg #[.int .i64 3, .int .i64 (m : Int)], .slice (some ⟨b, off, none⟩) 1 d] w (ValPost w (tellK 3 [((2, 0, x2), 1)])) := by
  have HRES : Hid (tellK 3 [((2, 0, x2), 1)] = (0, 0, ⟨#[]⟩)) := Lib.hid (by
    simp [tellK, smStep, smTell, nul])
  generalize tellK 3 [((2, 0, x2), 1)] = res at HRES ⊢
  have b1 : Below w.heap.size w (w.alloc (.cells #[.int .i64 3, .int .i64 (m : Int)] 59)) := below_new _ _
  have b2' : Below w.heap.size w ((w.alloc (.cells #[.int .i64 3, .int .i64 (m : Int)] 59)).alloc (.cells #[.int .i64 0, .int .i64 0, .string ⟨#[]⟩] 55)) := b1.alloc b1.size _
  have b3 : Below w.heap.size w (((w.alloc (.cells #[.int .i64 3, .int .i64 (m : Int)] 59)).alloc (.cells #[.int .i64 0, .int .i64 0, .string ⟨#[]⟩] 55)).alloc (.cells #[.int .i64 0, .int .i64 0, .int .i64 0] 141)) := b2'.alloc b2'.size _
  have k3 := ((Blk.new w 59 #[.int .i64 3, .int .i64 (m : Int)]).allocG (.cells #[.int .i64 0, .int .i64 0, .string ⟨#[]⟩] 55)).allocG (.cells #[.int .i64 0, .int .i64 0, .int .i64 0] 141)
  have g3 := (Blk.newAt (w.alloc (.cells #[.int .i64 3, .int .i64 (m : Int)] 59)) 55 #[.int .i64 0, .int .i64 0, .string ⟨#[]⟩] (g := w.heap.size + 1) (by simp)).allocG (.cells #[.int .i64 0, .int .i64 0, .int .i64 0] 141)
  have l3 := Blk.newAt ((w.alloc (.cells #[.int .i64 3, .int .i64 (m : Int)] 59)).alloc (.cells #[.int .i64 0, .int .i64 0, .string ⟨#[]⟩] 55)) 141 #[.int .i64 0, .int .i64 0, .int .i64 0] (g := w.heap.size + 2) (by simp)
  have K3 := Lib.hid k3
  have G3 := Lib.hid g3
  have L3 := Lib.hid l3
  have HB := Lib.hid b3
  have hbb := hb
  have hsz : (((w.alloc (.cells #[.int .i64 3, .int .i64 (m : Int)] 59)).alloc (.cells #[.int .i64 0, .int .i64 0, .string ⟨#[]⟩] 55)).alloc (.cells #[.int .i64 0, .int .i64 0, .int .i64 0] 141)).heap.size = w.heap.size + 3 := by simp
  clear b1 b2' b3 k3 g3 l3
  go_enter Tryz.func76, Tryz.ntmps76
  generalize hW : ((w.alloc (.cells #[.int .i64 3, .int .i64 (m : Int)] 59)).alloc (.cells #[.int .i64 0, .int .i64 0, .string ⟨#[]⟩] 55)).alloc (.cells #[.int .i64 0, .int .i64 0, .int .i64 0] 141) = W3 at *
  have HOLD := Lib.hid (show ∀ W, Below w.heap.size w W → W.cell? ⟨b, off, none⟩ = some (.slice (some ⟨b2, off2, none⟩) len qc) ∧ W.cell? ⟨b, off + 1, none⟩ = some (.int .i64 1) ∧ W.cell? ⟨b2, off2 + m * 3, none⟩ = some (.int .i64 2) ∧ W.cell? ⟨b2, off2 + m * 3 + 1, none⟩ = some (.int .i64 0) ∧ W.cell? ⟨b2, off2 + m * 3 + 2, none⟩ = some (.string x2) from fun W h =>
    ⟨(h.cell (p := ⟨b, off, none⟩) hb).trans h0, (h.cell (p := ⟨b, off + 1, none⟩) hb).trans h1, (h.cell (p := ⟨b2, off2 + m * 3, none⟩) hb2).trans y0, (h.cell (p := ⟨b2, off2 + m * 3 + 1, none⟩) hb2).trans y1, (h.cell (p := ⟨b2, off2 + m * 3 + 2, none⟩) hb2).trans y2⟩)
  clear h0 h1 y0 y1 y2 hbb
  go_wp2_with fail
  go_loopw [5, 6, 7, 9, 10, 11, 12, 13] (fun a b c d e _ _ _ wr => (a = .int .i64 0 ∧ b = .int .i64 0 ∧ c = .int .i64 0 ∧ d = .slice none 0 0 ∧ e = .int .i64 0 ∧ wr = W3) ∨ (a = .int .i64 1 ∧ b = .int .i64 1 ∧ c = .int .i64 0 ∧ (∃ g cap, d = .slice (some ⟨g, 0, none⟩) 1 cap ∧ Hid (OwnsV wr W3.heap.size d [(2, 0, x2)])) ∧ e = .int .i64 1 ∧ Blk wr w.heap.size 59 #[.int .i64 3, .int .i64 (m : Int)] ∧ Blk wr (w.heap.size + 1) 55 #[.int .i64 0, .int .i64 0, .string ⟨#[]⟩] ∧ Blk wr (w.heap.size + 2) 141 #[.int .i64 ((0, 0, 0) : S3).1, .int .i64 ((0, 0, 0) : S3).2.1, .int .i64 ((0, 0, 0) : S3).2.2] ∧ Below w.heap.size w wr)) (fun _ _ _ _ e _ _ _ _ => 1 - (RowKit.intOf e).toNat)
  case atStart => exact .inl ⟨rfl, rfl, rfl, rfl, rfl, rfl⟩
  case round =>
    rcases hrel with ⟨rfl, rfl, rfl, rfl, rfl, rfl⟩ | ⟨rfl, rfl, rfl, ⟨g, cap, rfl, hO⟩, rfl, hK, hG, hL, hBB⟩
    · obtain ⟨i0, hi, hz0, hz1, hz2⟩ := info_parts infoV
      obtain ⟨o0, o1, o2, o3, o4⟩ := HOLD.out wr HB.out
      have k0 := K3.out.cell 0
      have k1 := K3.out.cell 1
      simp only [List.getElem?_toArray, List.getElem?_cons_zero, List.getElem?_cons_succ] at k0 k1
      have hm0 : (0 : Int) ≤ (m : Int) := by omega
      have hm1 : (m : Int) < (len : Int) := by omega
      go_wp2_with fail
      go_quiet (fail)
      go_wp2_with fail
      have HB4 : Hid (Below wr.heap.size wr (wr.drewN nq)) := Lib.hid ⟨rfl, rfl, rfl, Nat.le_refl _, fun _ _ => rfl⟩
      have HZ4 : Hid ((wr.drewN nq).heap.size = wr.heap.size) := Lib.hid rfl
      generalize wr.drewN nq = W4 at *
      have HI := Lib.hid (show ∀ W, Below wr.heap.size wr W → Below wr.heap.size wr W ∧ (W.cell? ⟨b, off, none⟩ = some (.slice (some ⟨b2, off2, none⟩) len qc) ∧ W.cell? ⟨b2, off2 + m * 3, none⟩ = some (.int .i64 2) ∧ W.cell? ⟨b2, off2 + m * 3 + 1, none⟩ = some (.int .i64 0) ∧ W.cell? ⟨b2, off2 + m * 3 + 2, none⟩ = some (.string x2) ∧ W.cell? ⟨w.heap.size, 1, none⟩ = some (.int .i64 (m : Int))) from fun W h => by
        obtain ⟨p0, _, p2, p3, p4⟩ := HOLD.out W (HB.out.trans (h.mono HB.out.size))
        have z1 := (K3.out.belowV h K3.out.lt).cell 1
        simp only [List.getElem?_toArray, List.getElem?_cons_zero, List.getElem?_cons_succ] at z1
        exact ⟨h, p0, p2, p3, p4, z1⟩)
      clear o0 o1 o2 o3 o4 k0 k1
      refine wp_region_held_drew (S := fun W : World => Below wr.heap.size wr W ∧ (W.cell? ⟨b, off, none⟩ = some (.slice (some ⟨b2, off2, none⟩) len qc) ∧ W.cell? ⟨b2, off2 + m * 3, none⟩ = some (.int .i64 2) ∧ W.cell? ⟨b2, off2 + m * 3 + 1, none⟩ = some (.int .i64 0) ∧ W.cell? ⟨b2, off2 + m * 3 + 2, none⟩ = some (.string x2) ∧ W.cell? ⟨w.heap.size, 1, none⟩ = some (.int .i64 (m : Int)))) (by kernel_rfl) (HI.out _ (HB4.out.trans ((Below.refl _ _).drew.mono HB4.out.size))) (fun hHeld => ?_)
      refine wpAnyH_take (i := 0) (oi := _) (v := ?_) rfl (by kernel_rfl) (by kernel_rfl) (by kernel_rfl) (fun _ _ _ h => h) (Or.inl ⟨by rfl, ?_⟩) (by assumption) ?_
      rotate_left
      · intro w hSw
        try dsimp only at hSw
        go_simp
        all_goals with_reducible rfl
      simp only [List.getElem_toArray, List.getElem_cons_succ, List.getElem_cons_zero, Act.put, List.setIfInBounds_toArray, List.set_cons_zero, List.set_cons_succ]
      refine wpAnyH_take (i := 1) (oi := _) (v := ?_) rfl (by kernel_rfl) (by kernel_rfl) (by kernel_rfl) (fun _ _ _ h => h) (Or.inl ⟨by rfl, ?_⟩) (by assumption) ?_
      rotate_left
      · intro w hSw
        try dsimp only at hSw
        go_simp
        all_goals with_reducible rfl
      simp only [List.getElem_toArray, List.getElem_cons_succ, List.getElem_cons_zero, Act.put, List.setIfInBounds_toArray, List.set_cons_zero, List.set_cons_succ]
      refine wpAnyH_take (i := 2) (oi := _) (v := ?_) rfl (by kernel_rfl) (by kernel_rfl) (by kernel_rfl) (fun _ _ _ h => h) (Or.inl ⟨by rfl, ?_⟩) (by assumption) ?_
      rotate_left
      · intro w hSw
        try dsimp only at hSw
        go_simp
        all_goals with_reducible rfl
      simp only [List.getElem_toArray, List.getElem_cons_succ, List.getElem_cons_zero, Act.put, List.setIfInBounds_toArray, List.set_cons_zero, List.set_cons_succ]
      refine wpAnyH_take (i := 3) (oi := _) (v := ?_) rfl (by kernel_rfl) (by kernel_rfl) (by kernel_rfl) (fun _ _ _ h => h) (Or.inl ⟨by rfl, ?_⟩) (by assumption) ?_
      rotate_left
      · intro w hSw
        try dsimp only at hSw
        go_simp
        all_goals with_reducible rfl
      simp only [List.getElem_toArray, List.getElem_cons_succ, List.getElem_cons_zero, Act.put, List.setIfInBounds_toArray, List.set_cons_zero, List.set_cons_succ]
      refine wpAnyH_take (i := 4) (oi := _) (v := ?_) rfl (by kernel_rfl) (by kernel_rfl) (by kernel_rfl) (fun _ _ _ h => h) (Or.inl ⟨by rfl, ?_⟩) (by assumption) ?_
      rotate_left
      · intro w hSw
        try dsimp only at hSw
        go_simp
        all_goals with_reducible rfl
      simp only [List.getElem_toArray, List.getElem_cons_succ, List.getElem_cons_zero, Act.put, List.setIfInBounds_toArray, List.set_cons_zero, List.set_cons_succ]
      refine wpAnyH_take (i := 5) (oi := _) (v := ?_) rfl (by kernel_rfl) (by kernel_rfl) (by kernel_rfl) (fun _ _ _ h => h) (Or.inl ⟨by rfl, ?_⟩) (by assumption) ?_
      rotate_left
      · intro w hSw
        try dsimp only at hSw
        go_simp
        all_goals with_reducible rfl
      simp only [List.getElem_toArray, List.getElem_cons_succ, List.getElem_cons_zero, Act.put, List.setIfInBounds_toArray, List.set_cons_zero, List.set_cons_succ]
      refine wpAnyH_take (i := 6) (oi := _) (v := ?_) rfl (by kernel_rfl) (by kernel_rfl) (by kernel_rfl) (fun _ _ _ h => h) (Or.inl ⟨by rfl, ?_⟩) (by assumption) ?_
      rotate_left
      · intro w hSw
        try dsimp only at hSw
        go_simp
        all_goals with_reducible rfl
      simp only [List.getElem_toArray, List.getElem_cons_succ, List.getElem_cons_zero, Act.put, List.setIfInBounds_toArray, List.set_cons_zero, List.set_cons_succ]
      refine wpAnyH_take (i := 7) (oi := _) (v := ?_) rfl (by kernel_rfl) (by kernel_rfl) (by kernel_rfl) (fun _ _ _ h => h) (Or.inl ⟨by rfl, ?_⟩) (by assumption) ?_
      rotate_left
      · intro w hSw
        try dsimp only at hSw
        go_simp
        all_goals with_reducible rfl
      simp only [List.getElem_toArray, List.getElem_cons_succ, List.getElem_cons_zero, Act.put, List.setIfInBounds_toArray, List.set_cons_zero, List.set_cons_succ]
      refine wpAnyH_take (i := 8) (oi := _) (v := ?_) rfl (by kernel_rfl) (by kernel_rfl) (by kernel_rfl) (fun _ _ _ h => h) (Or.inl ⟨by rfl, ?_⟩) (by assumption) ?_
      rotate_left
      · intro w hSw
        try dsimp only at hSw
        go_simp
        all_goals with_reducible rfl
      simp only [List.getElem_toArray, List.getElem_cons_succ, List.getElem_cons_zero, Act.put, List.setIfInBounds_toArray, List.set_cons_zero, List.set_cons_succ]
      refine wpAnyH_ready (rs := [9]) (by kernel_rfl) (by simp) ?_
      refine AllReadyH.cons (o := _) rfl (fun K hK => ?_) AllReadyH.nil
      go_simp
      refine hK.out _ _ (HI.out _ (hHeld.1.alloc hHeld.1.size _)) (fun hHeld1 => ?_)
      clear hHeld
      clear hK K
      try simp only [List.getElem_toArray, List.getElem_cons_succ, List.getElem_cons_zero, Act.put, List.setIfInBounds_toArray, List.set_cons_zero, List.set_cons_succ]
      have hN5 := Blk.newAt W4.drew 55 #[.int .i64 0, .int .i64 0, .string ⟨#[]⟩] (g := W4.heap.size) rfl
      have f0 := hN5.froz 0
      have f1 := hN5.froz 1
      have f2 := hN5.froz 2
      have d0 := hN5.cell 0
      have d1 := hN5.cell 1
      have d2 := hN5.cell 2
      simp only [List.getElem?_toArray, List.getElem?_cons_zero, List.getElem?_cons_succ] at d0 d1 d2
      have HN5 := Lib.hid hN5
      clear hN5
      refine wpAnyH_ready (rs := [10]) (by kernel_rfl) (by simp) ?_
      refine AllReadyH.cons (o := _) rfl (fun K hK => ?_) AllReadyH.nil
      go_simp
      have HW5 := Lib.hid (show Below wr.heap.size wr (W4.alloc (.cells #[.int .i64 2, .int .i64 0, .string x2] 55)).drew from (HB4.out.alloc HB4.out.size _).trans ((Below.refl _ _).drew.mono (by have := HB4.out.size; simp; omega)))
      have HN6 := Lib.hid ((Blk.newAt W4 55 #[.int .i64 2, .int .i64 0, .string x2] (g := W4.heap.size) rfl).drewG)
      refine hK.out _ _ (HI.out _ HW5.out) (fun hHeld2 => ?_)
      clear hHeld1 f0 f1 f2 d0 d1 d2 HN5
      clear hK K
      try simp only [List.getElem_toArray, List.getElem_cons_succ, List.getElem_cons_zero, Act.put, List.setIfInBounds_toArray, List.set_cons_zero, List.set_cons_succ]
      refine wpAnyH_done (by kernel_rfl) ?_ _
      clear hHeld2
      generalize (W4.alloc (.cells #[.int .i64 2, .int .i64 0, .string x2] 55)).drew = W5 at *
      have HZ5 := Lib.hid (show wr.heap.size ≤ W4.heap.size from HB4.out.size)
      have n0 := HN6.out.cell 0
      have n1 := HN6.out.cell 1
      have n2 := HN6.out.cell 2
      simp only [List.getElem?_toArray, List.getElem?_cons_zero, List.getElem?_cons_succ] at n0 n1 n2
      obtain ⟨o0, o1, o2, o3, o4⟩ := HOLD.out W5 (HB.out.trans (HW5.out.mono HB.out.size))
      clear HB4 HZ4
      generalize W4.heap.size = n4 at *
      go_wp2_with fail
      go_loopw [12] (fun s wr6 => s = .int .i64 0 ∧ W5 = wr6) (fun _ _ => 0)
      case atStart => exact ⟨rfl, rfl⟩
      case round =>
        obtain ⟨rfl, rfl⟩ := hrel
        go_wp2_with fail
        go_quiet (fail)
        go_wp2_with fail
        go_quiet (fail)
        have hn4 := HN6.out.lt
        have hne4 : n4 ≠ W5.heap.size := by omega
        have hsz4 := HZ5.out
        have hw6 : W5.heap.size ≠ n4 := by omega
        have hN8 : ∀ q : Nat, Blk ((W5.drewN q).alloc (.cells #[] 55)) n4 55 #[.int .i64 2, .int .i64 0, .string x2] := fun q => (show Blk (W5.drewN q) n4 55 #[.int .i64 2, .int .i64 0, .string x2] from HN6.out).allocG _
        have a0 := fun q => (hN8 q).cell 0
        have a1 := fun q => (hN8 q).cell 1
        have a2 := fun q => (hN8 q).cell 2
        simp only [List.getElem?_toArray, List.getElem?_cons_zero, List.getElem?_cons_succ] at a0 a1 a2
        clear hN8 n0 n1 n2
        have HOW := Lib.hid (fun (W6 : World) => (show ((W6.alloc (.cells #[] 55)).alloc (.cells #[.int .i64 2, .int .i64 0, .string x2] 55)).ownsRow W6.heap.size 55 3 (.slice (some ⟨W6.heap.size, 0, none⟩) 0 0) 0 [] from (World.ownsRow_made W6 #[] 0 (Nat.le_refl _) (Nat.zero_le _) rfl).alloc _))
        have HB6 := Lib.hid (fun (q : Nat) => (show Below wr.heap.size wr (W5.drewN q) from ⟨HW5.out.os, HW5.out.tape, HW5.out.output, HW5.out.size, HW5.out.block⟩))
        go_wp2_with (at_builtin; refine wpList_append_own _ rfl _ _ 33 rfl W5.heap.size 55 i0 (.agg #[.int .i64 0, .int .i64 0, .string ⟨#[]⟩]) 3 32 Tryz.underlying33 hi hz0 hz1 hz2 rfl (by decide) _ 0 [] rfl (HOW.out _) ⟨W5.heap.size + 1, 0, none⟩ 1 1 (cellsV (2, 0, x2)) rfl rfl (cells_at _ _ _ (by simp)) (by simp [cellsV, Value.oneCell']) (by unfold maxLen; omega) (by omega) (by simp <;> omega) ?_; intro v' w7 hown' hgrow _; have HB7 := Lib.hid (show Below wr.heap.size wr w7 from (((HB6.out _).alloc (HB6.out _).size (.cells #[] 55)).alloc (by have := HW5.out.size; simp; omega) (.cells #[.int .i64 2, .int .i64 0, .string x2] 55)).grown hgrow (by have := HW5.out.size; simp; omega) (fun k e => Nat.le_trans HW5.out.size ((HOW.out _).lt k e).1)); have HN7 := Lib.hid hown'; obtain ⟨g7, c7, rfl, hc7, hc7m⟩ := own_one hown'; clear hown' hgrow)
        go_roundw
        case rel => exact .inr ⟨rfl, rfl, rfl, ⟨g7, c7, rfl, by
          have h := ownsRow_base HN7.out HW5.out.size
          have e : flatV [((2, 0, x2) : Val)] = [] ++ cellsV (2, 0, x2) := by simp [flatV]
          show w7.ownsRow wr.heap.size 55 3 _ (0 + 1) (flatV [((2, 0, x2) : Val)])
          rw [e]
          exact h⟩, rfl, K3.out.belowV HB7.out K3.out.lt, G3.out.belowV HB7.out G3.out.lt, L3.out.belowV HB7.out L3.out.lt, HB.out.trans (HB7.out.mono HB.out.size)⟩
        case measure => simp [RowKit.intOf]
    · have hvi := valsIn_of_owns hO.out
      obtain ⟨g', o', he, hgl, hva⟩ := hvi (by simp)
      simp only [Option.some.injEq, Addr.mk.injEq, and_true] at he
      obtain ⟨rfl, rfl⟩ := he
      obtain ⟨v0, v1, v2⟩ := hva 0 (by simp)
      simp only [List.getElem?_cons_zero, Option.getD_some, Nat.zero_mul, Nat.add_zero, Nat.zero_add] at v0 v1 v2
      have l0 := hL.cell 0
      have l1 := hL.cell 1
      have l2 := hL.cell 2
      simp only [List.getElem?_toArray, List.getElem?_cons_zero, List.getElem?_cons_succ] at l0 l1 l2
      clear hO hL hva
      have k0 := hK.cell 0
      have f0 := hG.froz 0
      have f1 := hG.froz 1
      have f2 := hG.froz 2
      have d0 := hG.cell 0
      have d1 := hG.cell 1
      have d2 := hG.cell 2
      simp only [List.getElem?_toArray, List.getElem?_cons_zero, List.getElem?_cons_succ] at k0 d0 d1 d2
      have hset : Blk (((wr.setCell ⟨w.heap.size + 1, 0, none⟩ (.int .i64 0)).setCell ⟨w.heap.size + 1, 1, none⟩ (.int .i64 0)).setCell ⟨w.heap.size + 1, 2, none⟩ (.string ⟨#[]⟩)) (w.heap.size + 1) 55 #[.int .i64 0, .int .i64 0, .string ⟨#[]⟩] := by
        simpa using ((hG.setG 0 (.int .i64 0)).setG 1 (.int .i64 0)).setG 2 (.string ⟨#[]⟩)
      have HSET := Lib.hid hset
      have HBB := Lib.hid hBB
      clear hset hBB hK hG
      go_wp2_with fail
      have r0 := HSET.out.cell 0
      have r1 := HSET.out.cell 1
      have r2 := HSET.out.cell 2
      simp only [List.getElem?_toArray, List.getElem?_cons_zero, List.getElem?_cons_succ] at r0 r1 r2
      rw [HRES.out]
      refine bodyPost_ret (v := valA (0, 0, ⟨#[]⟩)) (by simp [results, Tryz.results76, go_sem, r0, r1, r2, valA]) rfl ⟨rfl, ?_⟩
      exact ((HBB.out.setCell (p := ⟨w.heap.size + 1, 0, none⟩) (by simp) _).setCell (p := ⟨w.heap.size + 1, 1, none⟩) (by simp) _).setCell (p := ⟨w.heap.size + 1, 2, none⟩) (by simp) _

set_option maxRecDepth 100000 in
set_option maxHeartbeats 2000000 in
theorem tellO_4_text (m b off b2 off2 len qc d : Nat) (x1 : Int) (x2 : ByteArray) (hm : m < len) (w : World) (hb : b < w.heap.size) (hb2 : b2 < w.heap.size) (h0 : w.cell? ⟨b, off, none⟩ = some (.slice (some ⟨b2, off2, none⟩) len qc)) (h1 : w.cell? ⟨b, off + 1, none⟩ = some (.int .i64 1))
    (y0 : w.cell? ⟨b2, off2 + m * 3, none⟩ = some (.int .i64 2)) (y1 : w.cell? ⟨b2, off2 + m * 3 + 1, none⟩ = some (.int .i64 0)) (y2 : w.cell? ⟨b2, off2 + m * 3 + 2, none⟩ = some (.string x2)) :
    Calls Tryz.prog 76 #[.agg #[.int .i64 4, .int .i64 (m : Int)], .slice (some ⟨b, off, none⟩) 1 d] w (ValPost w (tellK 4 [((2, 0, x2), 1)])) := by
  have HRES : Hid (tellK 4 [((2, 0, x2), 1)] = (2, 0, x2)) := Lib.hid (by
    simp [tellK, extStep, nul])
  generalize tellK 4 [((2, 0, x2), 1)] = res at HRES ⊢
  have b1 : Below w.heap.size w (w.alloc (.cells #[.int .i64 4, .int .i64 (m : Int)] 59)) := below_new _ _
  have b2' : Below w.heap.size w ((w.alloc (.cells #[.int .i64 4, .int .i64 (m : Int)] 59)).alloc (.cells #[.int .i64 0, .int .i64 0, .string ⟨#[]⟩] 55)) := b1.alloc b1.size _
  have b3 : Below w.heap.size w (((w.alloc (.cells #[.int .i64 4, .int .i64 (m : Int)] 59)).alloc (.cells #[.int .i64 0, .int .i64 0, .string ⟨#[]⟩] 55)).alloc (.cells #[.int .i64 0, .int .i64 0, .int .i64 0] 141)) := b2'.alloc b2'.size _
  have k3 := ((Blk.new w 59 #[.int .i64 4, .int .i64 (m : Int)]).allocG (.cells #[.int .i64 0, .int .i64 0, .string ⟨#[]⟩] 55)).allocG (.cells #[.int .i64 0, .int .i64 0, .int .i64 0] 141)
  have g3 := (Blk.newAt (w.alloc (.cells #[.int .i64 4, .int .i64 (m : Int)] 59)) 55 #[.int .i64 0, .int .i64 0, .string ⟨#[]⟩] (g := w.heap.size + 1) (by simp)).allocG (.cells #[.int .i64 0, .int .i64 0, .int .i64 0] 141)
  have l3 := Blk.newAt ((w.alloc (.cells #[.int .i64 4, .int .i64 (m : Int)] 59)).alloc (.cells #[.int .i64 0, .int .i64 0, .string ⟨#[]⟩] 55)) 141 #[.int .i64 0, .int .i64 0, .int .i64 0] (g := w.heap.size + 2) (by simp)
  have K3 := Lib.hid k3
  have G3 := Lib.hid g3
  have L3 := Lib.hid l3
  have HB := Lib.hid b3
  have hbb := hb
  have hsz : (((w.alloc (.cells #[.int .i64 4, .int .i64 (m : Int)] 59)).alloc (.cells #[.int .i64 0, .int .i64 0, .string ⟨#[]⟩] 55)).alloc (.cells #[.int .i64 0, .int .i64 0, .int .i64 0] 141)).heap.size = w.heap.size + 3 := by simp
  clear b1 b2' b3 k3 g3 l3
  go_enter Tryz.func76, Tryz.ntmps76
  generalize hW : ((w.alloc (.cells #[.int .i64 4, .int .i64 (m : Int)] 59)).alloc (.cells #[.int .i64 0, .int .i64 0, .string ⟨#[]⟩] 55)).alloc (.cells #[.int .i64 0, .int .i64 0, .int .i64 0] 141) = W3 at *
  have HOLD := Lib.hid (show ∀ W, Below w.heap.size w W → W.cell? ⟨b, off, none⟩ = some (.slice (some ⟨b2, off2, none⟩) len qc) ∧ W.cell? ⟨b, off + 1, none⟩ = some (.int .i64 1) ∧ W.cell? ⟨b2, off2 + m * 3, none⟩ = some (.int .i64 2) ∧ W.cell? ⟨b2, off2 + m * 3 + 1, none⟩ = some (.int .i64 0) ∧ W.cell? ⟨b2, off2 + m * 3 + 2, none⟩ = some (.string x2) from fun W h =>
    ⟨(h.cell (p := ⟨b, off, none⟩) hb).trans h0, (h.cell (p := ⟨b, off + 1, none⟩) hb).trans h1, (h.cell (p := ⟨b2, off2 + m * 3, none⟩) hb2).trans y0, (h.cell (p := ⟨b2, off2 + m * 3 + 1, none⟩) hb2).trans y1, (h.cell (p := ⟨b2, off2 + m * 3 + 2, none⟩) hb2).trans y2⟩)
  clear h0 h1 y0 y1 y2 hbb
  go_wp2_with fail
  go_loopw [5, 6, 7, 9, 10, 11, 12, 13] (fun a b c d e _ _ _ wr => (a = .int .i64 0 ∧ b = .int .i64 0 ∧ c = .int .i64 0 ∧ d = .slice none 0 0 ∧ e = .int .i64 0 ∧ wr = W3) ∨ (a = .int .i64 1 ∧ b = .int .i64 1 ∧ c = .int .i64 0 ∧ (∃ g cap, d = .slice (some ⟨g, 0, none⟩) 1 cap ∧ Hid (OwnsV wr W3.heap.size d [(2, 0, x2)])) ∧ e = .int .i64 1 ∧ Blk wr w.heap.size 59 #[.int .i64 4, .int .i64 (m : Int)] ∧ Blk wr (w.heap.size + 1) 55 #[.int .i64 0, .int .i64 0, .string ⟨#[]⟩] ∧ Blk wr (w.heap.size + 2) 141 #[.int .i64 ((0, 0, 0) : S3).1, .int .i64 ((0, 0, 0) : S3).2.1, .int .i64 ((0, 0, 0) : S3).2.2] ∧ Below w.heap.size w wr)) (fun _ _ _ _ e _ _ _ _ => 1 - (RowKit.intOf e).toNat)
  case atStart => exact .inl ⟨rfl, rfl, rfl, rfl, rfl, rfl⟩
  case round =>
    rcases hrel with ⟨rfl, rfl, rfl, rfl, rfl, rfl⟩ | ⟨rfl, rfl, rfl, ⟨g, cap, rfl, hO⟩, rfl, hK, hG, hL, hBB⟩
    · obtain ⟨i0, hi, hz0, hz1, hz2⟩ := info_parts infoV
      obtain ⟨o0, o1, o2, o3, o4⟩ := HOLD.out wr HB.out
      have k0 := K3.out.cell 0
      have k1 := K3.out.cell 1
      simp only [List.getElem?_toArray, List.getElem?_cons_zero, List.getElem?_cons_succ] at k0 k1
      have hm0 : (0 : Int) ≤ (m : Int) := by omega
      have hm1 : (m : Int) < (len : Int) := by omega
      go_wp2_with fail
      go_quiet (fail)
      go_wp2_with fail
      have HB4 : Hid (Below wr.heap.size wr (wr.drewN nq)) := Lib.hid ⟨rfl, rfl, rfl, Nat.le_refl _, fun _ _ => rfl⟩
      have HZ4 : Hid ((wr.drewN nq).heap.size = wr.heap.size) := Lib.hid rfl
      generalize wr.drewN nq = W4 at *
      have HI := Lib.hid (show ∀ W, Below wr.heap.size wr W → Below wr.heap.size wr W ∧ (W.cell? ⟨b, off, none⟩ = some (.slice (some ⟨b2, off2, none⟩) len qc) ∧ W.cell? ⟨b2, off2 + m * 3, none⟩ = some (.int .i64 2) ∧ W.cell? ⟨b2, off2 + m * 3 + 1, none⟩ = some (.int .i64 0) ∧ W.cell? ⟨b2, off2 + m * 3 + 2, none⟩ = some (.string x2) ∧ W.cell? ⟨w.heap.size, 1, none⟩ = some (.int .i64 (m : Int))) from fun W h => by
        obtain ⟨p0, _, p2, p3, p4⟩ := HOLD.out W (HB.out.trans (h.mono HB.out.size))
        have z1 := (K3.out.belowV h K3.out.lt).cell 1
        simp only [List.getElem?_toArray, List.getElem?_cons_zero, List.getElem?_cons_succ] at z1
        exact ⟨h, p0, p2, p3, p4, z1⟩)
      clear o0 o1 o2 o3 o4 k0 k1
      refine wp_region_held_drew (S := fun W : World => Below wr.heap.size wr W ∧ (W.cell? ⟨b, off, none⟩ = some (.slice (some ⟨b2, off2, none⟩) len qc) ∧ W.cell? ⟨b2, off2 + m * 3, none⟩ = some (.int .i64 2) ∧ W.cell? ⟨b2, off2 + m * 3 + 1, none⟩ = some (.int .i64 0) ∧ W.cell? ⟨b2, off2 + m * 3 + 2, none⟩ = some (.string x2) ∧ W.cell? ⟨w.heap.size, 1, none⟩ = some (.int .i64 (m : Int)))) (by kernel_rfl) (HI.out _ (HB4.out.trans ((Below.refl _ _).drew.mono HB4.out.size))) (fun hHeld => ?_)
      refine wpAnyH_take (i := 0) (oi := _) (v := ?_) rfl (by kernel_rfl) (by kernel_rfl) (by kernel_rfl) (fun _ _ _ h => h) (Or.inl ⟨by rfl, ?_⟩) (by assumption) ?_
      rotate_left
      · intro w hSw
        try dsimp only at hSw
        go_simp
        all_goals with_reducible rfl
      simp only [List.getElem_toArray, List.getElem_cons_succ, List.getElem_cons_zero, Act.put, List.setIfInBounds_toArray, List.set_cons_zero, List.set_cons_succ]
      refine wpAnyH_take (i := 1) (oi := _) (v := ?_) rfl (by kernel_rfl) (by kernel_rfl) (by kernel_rfl) (fun _ _ _ h => h) (Or.inl ⟨by rfl, ?_⟩) (by assumption) ?_
      rotate_left
      · intro w hSw
        try dsimp only at hSw
        go_simp
        all_goals with_reducible rfl
      simp only [List.getElem_toArray, List.getElem_cons_succ, List.getElem_cons_zero, Act.put, List.setIfInBounds_toArray, List.set_cons_zero, List.set_cons_succ]
      refine wpAnyH_take (i := 2) (oi := _) (v := ?_) rfl (by kernel_rfl) (by kernel_rfl) (by kernel_rfl) (fun _ _ _ h => h) (Or.inl ⟨by rfl, ?_⟩) (by assumption) ?_
      rotate_left
      · intro w hSw
        try dsimp only at hSw
        go_simp
        all_goals with_reducible rfl
      simp only [List.getElem_toArray, List.getElem_cons_succ, List.getElem_cons_zero, Act.put, List.setIfInBounds_toArray, List.set_cons_zero, List.set_cons_succ]
      refine wpAnyH_take (i := 3) (oi := _) (v := ?_) rfl (by kernel_rfl) (by kernel_rfl) (by kernel_rfl) (fun _ _ _ h => h) (Or.inl ⟨by rfl, ?_⟩) (by assumption) ?_
      rotate_left
      · intro w hSw
        try dsimp only at hSw
        go_simp
        all_goals with_reducible rfl
      simp only [List.getElem_toArray, List.getElem_cons_succ, List.getElem_cons_zero, Act.put, List.setIfInBounds_toArray, List.set_cons_zero, List.set_cons_succ]
      refine wpAnyH_take (i := 4) (oi := _) (v := ?_) rfl (by kernel_rfl) (by kernel_rfl) (by kernel_rfl) (fun _ _ _ h => h) (Or.inl ⟨by rfl, ?_⟩) (by assumption) ?_
      rotate_left
      · intro w hSw
        try dsimp only at hSw
        go_simp
        all_goals with_reducible rfl
      simp only [List.getElem_toArray, List.getElem_cons_succ, List.getElem_cons_zero, Act.put, List.setIfInBounds_toArray, List.set_cons_zero, List.set_cons_succ]
      refine wpAnyH_take (i := 5) (oi := _) (v := ?_) rfl (by kernel_rfl) (by kernel_rfl) (by kernel_rfl) (fun _ _ _ h => h) (Or.inl ⟨by rfl, ?_⟩) (by assumption) ?_
      rotate_left
      · intro w hSw
        try dsimp only at hSw
        go_simp
        all_goals with_reducible rfl
      simp only [List.getElem_toArray, List.getElem_cons_succ, List.getElem_cons_zero, Act.put, List.setIfInBounds_toArray, List.set_cons_zero, List.set_cons_succ]
      refine wpAnyH_take (i := 6) (oi := _) (v := ?_) rfl (by kernel_rfl) (by kernel_rfl) (by kernel_rfl) (fun _ _ _ h => h) (Or.inl ⟨by rfl, ?_⟩) (by assumption) ?_
      rotate_left
      · intro w hSw
        try dsimp only at hSw
        go_simp
        all_goals with_reducible rfl
      simp only [List.getElem_toArray, List.getElem_cons_succ, List.getElem_cons_zero, Act.put, List.setIfInBounds_toArray, List.set_cons_zero, List.set_cons_succ]
      refine wpAnyH_take (i := 7) (oi := _) (v := ?_) rfl (by kernel_rfl) (by kernel_rfl) (by kernel_rfl) (fun _ _ _ h => h) (Or.inl ⟨by rfl, ?_⟩) (by assumption) ?_
      rotate_left
      · intro w hSw
        try dsimp only at hSw
        go_simp
        all_goals with_reducible rfl
      simp only [List.getElem_toArray, List.getElem_cons_succ, List.getElem_cons_zero, Act.put, List.setIfInBounds_toArray, List.set_cons_zero, List.set_cons_succ]
      refine wpAnyH_take (i := 8) (oi := _) (v := ?_) rfl (by kernel_rfl) (by kernel_rfl) (by kernel_rfl) (fun _ _ _ h => h) (Or.inl ⟨by rfl, ?_⟩) (by assumption) ?_
      rotate_left
      · intro w hSw
        try dsimp only at hSw
        go_simp
        all_goals with_reducible rfl
      simp only [List.getElem_toArray, List.getElem_cons_succ, List.getElem_cons_zero, Act.put, List.setIfInBounds_toArray, List.set_cons_zero, List.set_cons_succ]
      refine wpAnyH_ready (rs := [9]) (by kernel_rfl) (by simp) ?_
      refine AllReadyH.cons (o := _) rfl (fun K hK => ?_) AllReadyH.nil
      go_simp
      refine hK.out _ _ (HI.out _ (hHeld.1.alloc hHeld.1.size _)) (fun hHeld1 => ?_)
      clear hHeld
      clear hK K
      try simp only [List.getElem_toArray, List.getElem_cons_succ, List.getElem_cons_zero, Act.put, List.setIfInBounds_toArray, List.set_cons_zero, List.set_cons_succ]
      have hN5 := Blk.newAt W4.drew 55 #[.int .i64 0, .int .i64 0, .string ⟨#[]⟩] (g := W4.heap.size) rfl
      have f0 := hN5.froz 0
      have f1 := hN5.froz 1
      have f2 := hN5.froz 2
      have d0 := hN5.cell 0
      have d1 := hN5.cell 1
      have d2 := hN5.cell 2
      simp only [List.getElem?_toArray, List.getElem?_cons_zero, List.getElem?_cons_succ] at d0 d1 d2
      have HN5 := Lib.hid hN5
      clear hN5
      refine wpAnyH_ready (rs := [10]) (by kernel_rfl) (by simp) ?_
      refine AllReadyH.cons (o := _) rfl (fun K hK => ?_) AllReadyH.nil
      go_simp
      have HW5 := Lib.hid (show Below wr.heap.size wr (W4.alloc (.cells #[.int .i64 2, .int .i64 0, .string x2] 55)).drew from (HB4.out.alloc HB4.out.size _).trans ((Below.refl _ _).drew.mono (by have := HB4.out.size; simp; omega)))
      have HN6 := Lib.hid ((Blk.newAt W4 55 #[.int .i64 2, .int .i64 0, .string x2] (g := W4.heap.size) rfl).drewG)
      refine hK.out _ _ (HI.out _ HW5.out) (fun hHeld2 => ?_)
      clear hHeld1 f0 f1 f2 d0 d1 d2 HN5
      clear hK K
      try simp only [List.getElem_toArray, List.getElem_cons_succ, List.getElem_cons_zero, Act.put, List.setIfInBounds_toArray, List.set_cons_zero, List.set_cons_succ]
      refine wpAnyH_done (by kernel_rfl) ?_ _
      clear hHeld2
      generalize (W4.alloc (.cells #[.int .i64 2, .int .i64 0, .string x2] 55)).drew = W5 at *
      have HZ5 := Lib.hid (show wr.heap.size ≤ W4.heap.size from HB4.out.size)
      have n0 := HN6.out.cell 0
      have n1 := HN6.out.cell 1
      have n2 := HN6.out.cell 2
      simp only [List.getElem?_toArray, List.getElem?_cons_zero, List.getElem?_cons_succ] at n0 n1 n2
      obtain ⟨o0, o1, o2, o3, o4⟩ := HOLD.out W5 (HB.out.trans (HW5.out.mono HB.out.size))
      clear HB4 HZ4
      generalize W4.heap.size = n4 at *
      go_wp2_with fail
      go_loopw [12] (fun s wr6 => s = .int .i64 0 ∧ W5 = wr6) (fun _ _ => 0)
      case atStart => exact ⟨rfl, rfl⟩
      case round =>
        obtain ⟨rfl, rfl⟩ := hrel
        go_wp2_with fail
        go_quiet (fail)
        go_wp2_with fail
        go_quiet (fail)
        have hn4 := HN6.out.lt
        have hne4 : n4 ≠ W5.heap.size := by omega
        have hsz4 := HZ5.out
        have hw6 : W5.heap.size ≠ n4 := by omega
        have hN8 : ∀ q : Nat, Blk ((W5.drewN q).alloc (.cells #[] 55)) n4 55 #[.int .i64 2, .int .i64 0, .string x2] := fun q => (show Blk (W5.drewN q) n4 55 #[.int .i64 2, .int .i64 0, .string x2] from HN6.out).allocG _
        have a0 := fun q => (hN8 q).cell 0
        have a1 := fun q => (hN8 q).cell 1
        have a2 := fun q => (hN8 q).cell 2
        simp only [List.getElem?_toArray, List.getElem?_cons_zero, List.getElem?_cons_succ] at a0 a1 a2
        clear hN8 n0 n1 n2
        have HOW := Lib.hid (fun (W6 : World) => (show ((W6.alloc (.cells #[] 55)).alloc (.cells #[.int .i64 2, .int .i64 0, .string x2] 55)).ownsRow W6.heap.size 55 3 (.slice (some ⟨W6.heap.size, 0, none⟩) 0 0) 0 [] from (World.ownsRow_made W6 #[] 0 (Nat.le_refl _) (Nat.zero_le _) rfl).alloc _))
        have HB6 := Lib.hid (fun (q : Nat) => (show Below wr.heap.size wr (W5.drewN q) from ⟨HW5.out.os, HW5.out.tape, HW5.out.output, HW5.out.size, HW5.out.block⟩))
        go_wp2_with (at_builtin; refine wpList_append_own _ rfl _ _ 33 rfl W5.heap.size 55 i0 (.agg #[.int .i64 0, .int .i64 0, .string ⟨#[]⟩]) 3 32 Tryz.underlying33 hi hz0 hz1 hz2 rfl (by decide) _ 0 [] rfl (HOW.out _) ⟨W5.heap.size + 1, 0, none⟩ 1 1 (cellsV (2, 0, x2)) rfl rfl (cells_at _ _ _ (by simp)) (by simp [cellsV, Value.oneCell']) (by unfold maxLen; omega) (by omega) (by simp <;> omega) ?_; intro v' w7 hown' hgrow _; have HB7 := Lib.hid (show Below wr.heap.size wr w7 from (((HB6.out _).alloc (HB6.out _).size (.cells #[] 55)).alloc (by have := HW5.out.size; simp; omega) (.cells #[.int .i64 2, .int .i64 0, .string x2] 55)).grown hgrow (by have := HW5.out.size; simp; omega) (fun k e => Nat.le_trans HW5.out.size ((HOW.out _).lt k e).1)); have HN7 := Lib.hid hown'; obtain ⟨g7, c7, rfl, hc7, hc7m⟩ := own_one hown'; clear hown' hgrow)
        go_roundw
        case rel => exact .inr ⟨rfl, rfl, rfl, ⟨g7, c7, rfl, by
          have h := ownsRow_base HN7.out HW5.out.size
          have e : flatV [((2, 0, x2) : Val)] = [] ++ cellsV (2, 0, x2) := by simp [flatV]
          show w7.ownsRow wr.heap.size 55 3 _ (0 + 1) (flatV [((2, 0, x2) : Val)])
          rw [e]
          exact h⟩, rfl, K3.out.belowV HB7.out K3.out.lt, G3.out.belowV HB7.out G3.out.lt, L3.out.belowV HB7.out L3.out.lt, HB.out.trans (HB7.out.mono HB.out.size)⟩
        case measure => simp [RowKit.intOf]
    · have hvi := valsIn_of_owns hO.out
      obtain ⟨g', o', he, hgl, hva⟩ := hvi (by simp)
      simp only [Option.some.injEq, Addr.mk.injEq, and_true] at he
      obtain ⟨rfl, rfl⟩ := he
      obtain ⟨v0, v1, v2⟩ := hva 0 (by simp)
      simp only [List.getElem?_cons_zero, Option.getD_some, Nat.zero_mul, Nat.add_zero, Nat.zero_add] at v0 v1 v2
      have l0 := hL.cell 0
      have l1 := hL.cell 1
      have l2 := hL.cell 2
      simp only [List.getElem?_toArray, List.getElem?_cons_zero, List.getElem?_cons_succ] at l0 l1 l2
      clear hO hL hva
      have k0 := hK.cell 0
      have f0 := hG.froz 0
      have f1 := hG.froz 1
      have f2 := hG.froz 2
      have d0 := hG.cell 0
      have d1 := hG.cell 1
      have d2 := hG.cell 2
      simp only [List.getElem?_toArray, List.getElem?_cons_zero, List.getElem?_cons_succ] at k0 d0 d1 d2
      have hset : Blk (((wr.setCell ⟨w.heap.size + 1, 0, none⟩ (.int .i64 2)).setCell ⟨w.heap.size + 1, 1, none⟩ (.int .i64 0)).setCell ⟨w.heap.size + 1, 2, none⟩ (.string x2)) (w.heap.size + 1) 55 #[.int .i64 2, .int .i64 0, .string x2] := by
        simpa using ((hG.setG 0 (.int .i64 2)).setG 1 (.int .i64 0)).setG 2 (.string x2)
      have HSET := Lib.hid hset
      have HBB := Lib.hid hBB
      clear hset hBB hK hG
      go_wp2_with fail
      have r0 := HSET.out.cell 0
      have r1 := HSET.out.cell 1
      have r2 := HSET.out.cell 2
      simp only [List.getElem?_toArray, List.getElem?_cons_zero, List.getElem?_cons_succ] at r0 r1 r2
      rw [HRES.out]
      refine bodyPost_ret (v := valA (2, 0, x2)) (by simp [results, Tryz.results76, go_sem, r0, r1, r2, valA]) rfl ⟨rfl, ?_⟩
      exact ((HBB.out.setCell (p := ⟨w.heap.size + 1, 0, none⟩) (by simp) _).setCell (p := ⟨w.heap.size + 1, 1, none⟩) (by simp) _).setCell (p := ⟨w.heap.size + 1, 2, none⟩) (by simp) _

end Go.Proofs.YtfoknllnknjccaaGreat

/-!
  What the document tells of one row.
-/
namespace Go.Proofs.YtfoknllnknjccaaGreat
open Go.RowKit
set_option linter.unusedSimpArgs false
set_option linter.unusedVariables false

set_option maxRecDepth 100000 in
set_option maxHeartbeats 2000000 in
theorem tellO_5_text (m b off b2 off2 len qc d : Nat) (x1 : Int) (x2 : ByteArray) (hm : m < len) (w : World) (hb : b < w.heap.size) (hb2 : b2 < w.heap.size) (h0 : w.cell? ⟨b, off, none⟩ = some (.slice (some ⟨b2, off2, none⟩) len qc)) (h1 : w.cell? ⟨b, off + 1, none⟩ = some (.int .i64 1))
    (y0 : w.cell? ⟨b2, off2 + m * 3, none⟩ = some (.int .i64 2)) (y1 : w.cell? ⟨b2, off2 + m * 3 + 1, none⟩ = some (.int .i64 0)) (y2 : w.cell? ⟨b2, off2 + m * 3 + 2, none⟩ = some (.string x2)) :
    Calls Tryz.prog 76 #[.agg #[.int .i64 5, .int .i64 (m : Int)], .slice (some ⟨b, off, none⟩) 1 d] w (ValPost w (tellK 5 [((2, 0, x2), 1)])) := by
  have HRES : Hid (tellK 5 [((2, 0, x2), 1)] = (2, 0, x2)) := Lib.hid (by
    simp [tellK, extStep, nul])
  generalize tellK 5 [((2, 0, x2), 1)] = res at HRES ⊢
  have b1 : Below w.heap.size w (w.alloc (.cells #[.int .i64 5, .int .i64 (m : Int)] 59)) := below_new _ _
  have b2' : Below w.heap.size w ((w.alloc (.cells #[.int .i64 5, .int .i64 (m : Int)] 59)).alloc (.cells #[.int .i64 0, .int .i64 0, .string ⟨#[]⟩] 55)) := b1.alloc b1.size _
  have b3 : Below w.heap.size w (((w.alloc (.cells #[.int .i64 5, .int .i64 (m : Int)] 59)).alloc (.cells #[.int .i64 0, .int .i64 0, .string ⟨#[]⟩] 55)).alloc (.cells #[.int .i64 0, .int .i64 0, .int .i64 0] 141)) := b2'.alloc b2'.size _
  have k3 := ((Blk.new w 59 #[.int .i64 5, .int .i64 (m : Int)]).allocG (.cells #[.int .i64 0, .int .i64 0, .string ⟨#[]⟩] 55)).allocG (.cells #[.int .i64 0, .int .i64 0, .int .i64 0] 141)
  have g3 := (Blk.newAt (w.alloc (.cells #[.int .i64 5, .int .i64 (m : Int)] 59)) 55 #[.int .i64 0, .int .i64 0, .string ⟨#[]⟩] (g := w.heap.size + 1) (by simp)).allocG (.cells #[.int .i64 0, .int .i64 0, .int .i64 0] 141)
  have l3 := Blk.newAt ((w.alloc (.cells #[.int .i64 5, .int .i64 (m : Int)] 59)).alloc (.cells #[.int .i64 0, .int .i64 0, .string ⟨#[]⟩] 55)) 141 #[.int .i64 0, .int .i64 0, .int .i64 0] (g := w.heap.size + 2) (by simp)
  have K3 := Lib.hid k3
  have G3 := Lib.hid g3
  have L3 := Lib.hid l3
  have HB := Lib.hid b3
  have hbb := hb
  have hsz : (((w.alloc (.cells #[.int .i64 5, .int .i64 (m : Int)] 59)).alloc (.cells #[.int .i64 0, .int .i64 0, .string ⟨#[]⟩] 55)).alloc (.cells #[.int .i64 0, .int .i64 0, .int .i64 0] 141)).heap.size = w.heap.size + 3 := by simp
  clear b1 b2' b3 k3 g3 l3
  go_enter Tryz.func76, Tryz.ntmps76
  generalize hW : ((w.alloc (.cells #[.int .i64 5, .int .i64 (m : Int)] 59)).alloc (.cells #[.int .i64 0, .int .i64 0, .string ⟨#[]⟩] 55)).alloc (.cells #[.int .i64 0, .int .i64 0, .int .i64 0] 141) = W3 at *
  have HOLD := Lib.hid (show ∀ W, Below w.heap.size w W → W.cell? ⟨b, off, none⟩ = some (.slice (some ⟨b2, off2, none⟩) len qc) ∧ W.cell? ⟨b, off + 1, none⟩ = some (.int .i64 1) ∧ W.cell? ⟨b2, off2 + m * 3, none⟩ = some (.int .i64 2) ∧ W.cell? ⟨b2, off2 + m * 3 + 1, none⟩ = some (.int .i64 0) ∧ W.cell? ⟨b2, off2 + m * 3 + 2, none⟩ = some (.string x2) from fun W h =>
    ⟨(h.cell (p := ⟨b, off, none⟩) hb).trans h0, (h.cell (p := ⟨b, off + 1, none⟩) hb).trans h1, (h.cell (p := ⟨b2, off2 + m * 3, none⟩) hb2).trans y0, (h.cell (p := ⟨b2, off2 + m * 3 + 1, none⟩) hb2).trans y1, (h.cell (p := ⟨b2, off2 + m * 3 + 2, none⟩) hb2).trans y2⟩)
  clear h0 h1 y0 y1 y2 hbb
  go_wp2_with fail
  go_loopw [5, 6, 7, 9, 10, 11, 12, 13] (fun a b c d e _ _ _ wr => (a = .int .i64 0 ∧ b = .int .i64 0 ∧ c = .int .i64 0 ∧ d = .slice none 0 0 ∧ e = .int .i64 0 ∧ wr = W3) ∨ (a = .int .i64 1 ∧ b = .int .i64 1 ∧ c = .int .i64 0 ∧ (∃ g cap, d = .slice (some ⟨g, 0, none⟩) 1 cap ∧ Hid (OwnsV wr W3.heap.size d [(2, 0, x2)])) ∧ e = .int .i64 1 ∧ Blk wr w.heap.size 59 #[.int .i64 5, .int .i64 (m : Int)] ∧ Blk wr (w.heap.size + 1) 55 #[.int .i64 0, .int .i64 0, .string ⟨#[]⟩] ∧ Blk wr (w.heap.size + 2) 141 #[.int .i64 ((0, 0, 0) : S3).1, .int .i64 ((0, 0, 0) : S3).2.1, .int .i64 ((0, 0, 0) : S3).2.2] ∧ Below w.heap.size w wr)) (fun _ _ _ _ e _ _ _ _ => 1 - (RowKit.intOf e).toNat)
  case atStart => exact .inl ⟨rfl, rfl, rfl, rfl, rfl, rfl⟩
  case round =>
    rcases hrel with ⟨rfl, rfl, rfl, rfl, rfl, rfl⟩ | ⟨rfl, rfl, rfl, ⟨g, cap, rfl, hO⟩, rfl, hK, hG, hL, hBB⟩
    · obtain ⟨i0, hi, hz0, hz1, hz2⟩ := info_parts infoV
      obtain ⟨o0, o1, o2, o3, o4⟩ := HOLD.out wr HB.out
      have k0 := K3.out.cell 0
      have k1 := K3.out.cell 1
      simp only [List.getElem?_toArray, List.getElem?_cons_zero, List.getElem?_cons_succ] at k0 k1
      have hm0 : (0 : Int) ≤ (m : Int) := by omega
      have hm1 : (m : Int) < (len : Int) := by omega
      go_wp2_with fail
      go_quiet (fail)
      go_wp2_with fail
      have HB4 : Hid (Below wr.heap.size wr (wr.drewN nq)) := Lib.hid ⟨rfl, rfl, rfl, Nat.le_refl _, fun _ _ => rfl⟩
      have HZ4 : Hid ((wr.drewN nq).heap.size = wr.heap.size) := Lib.hid rfl
      generalize wr.drewN nq = W4 at *
      have HI := Lib.hid (show ∀ W, Below wr.heap.size wr W → Below wr.heap.size wr W ∧ (W.cell? ⟨b, off, none⟩ = some (.slice (some ⟨b2, off2, none⟩) len qc) ∧ W.cell? ⟨b2, off2 + m * 3, none⟩ = some (.int .i64 2) ∧ W.cell? ⟨b2, off2 + m * 3 + 1, none⟩ = some (.int .i64 0) ∧ W.cell? ⟨b2, off2 + m * 3 + 2, none⟩ = some (.string x2) ∧ W.cell? ⟨w.heap.size, 1, none⟩ = some (.int .i64 (m : Int))) from fun W h => by
        obtain ⟨p0, _, p2, p3, p4⟩ := HOLD.out W (HB.out.trans (h.mono HB.out.size))
        have z1 := (K3.out.belowV h K3.out.lt).cell 1
        simp only [List.getElem?_toArray, List.getElem?_cons_zero, List.getElem?_cons_succ] at z1
        exact ⟨h, p0, p2, p3, p4, z1⟩)
      clear o0 o1 o2 o3 o4 k0 k1
      refine wp_region_held_drew (S := fun W : World => Below wr.heap.size wr W ∧ (W.cell? ⟨b, off, none⟩ = some (.slice (some ⟨b2, off2, none⟩) len qc) ∧ W.cell? ⟨b2, off2 + m * 3, none⟩ = some (.int .i64 2) ∧ W.cell? ⟨b2, off2 + m * 3 + 1, none⟩ = some (.int .i64 0) ∧ W.cell? ⟨b2, off2 + m * 3 + 2, none⟩ = some (.string x2) ∧ W.cell? ⟨w.heap.size, 1, none⟩ = some (.int .i64 (m : Int)))) (by kernel_rfl) (HI.out _ (HB4.out.trans ((Below.refl _ _).drew.mono HB4.out.size))) (fun hHeld => ?_)
      refine wpAnyH_take (i := 0) (oi := _) (v := ?_) rfl (by kernel_rfl) (by kernel_rfl) (by kernel_rfl) (fun _ _ _ h => h) (Or.inl ⟨by rfl, ?_⟩) (by assumption) ?_
      rotate_left
      · intro w hSw
        try dsimp only at hSw
        go_simp
        all_goals with_reducible rfl
      simp only [List.getElem_toArray, List.getElem_cons_succ, List.getElem_cons_zero, Act.put, List.setIfInBounds_toArray, List.set_cons_zero, List.set_cons_succ]
      refine wpAnyH_take (i := 1) (oi := _) (v := ?_) rfl (by kernel_rfl) (by kernel_rfl) (by kernel_rfl) (fun _ _ _ h => h) (Or.inl ⟨by rfl, ?_⟩) (by assumption) ?_
      rotate_left
      · intro w hSw
        try dsimp only at hSw
        go_simp
        all_goals with_reducible rfl
      simp only [List.getElem_toArray, List.getElem_cons_succ, List.getElem_cons_zero, Act.put, List.setIfInBounds_toArray, List.set_cons_zero, List.set_cons_succ]
      refine wpAnyH_take (i := 2) (oi := _) (v := ?_) rfl (by kernel_rfl) (by kernel_rfl) (by kernel_rfl) (fun _ _ _ h => h) (Or.inl ⟨by rfl, ?_⟩) (by assumption) ?_
      rotate_left
      · intro w hSw
        try dsimp only at hSw
        go_simp
        all_goals with_reducible rfl
      simp only [List.getElem_toArray, List.getElem_cons_succ, List.getElem_cons_zero, Act.put, List.setIfInBounds_toArray, List.set_cons_zero, List.set_cons_succ]
      refine wpAnyH_take (i := 3) (oi := _) (v := ?_) rfl (by kernel_rfl) (by kernel_rfl) (by kernel_rfl) (fun _ _ _ h => h) (Or.inl ⟨by rfl, ?_⟩) (by assumption) ?_
      rotate_left
      · intro w hSw
        try dsimp only at hSw
        go_simp
        all_goals with_reducible rfl
      simp only [List.getElem_toArray, List.getElem_cons_succ, List.getElem_cons_zero, Act.put, List.setIfInBounds_toArray, List.set_cons_zero, List.set_cons_succ]
      refine wpAnyH_take (i := 4) (oi := _) (v := ?_) rfl (by kernel_rfl) (by kernel_rfl) (by kernel_rfl) (fun _ _ _ h => h) (Or.inl ⟨by rfl, ?_⟩) (by assumption) ?_
      rotate_left
      · intro w hSw
        try dsimp only at hSw
        go_simp
        all_goals with_reducible rfl
      simp only [List.getElem_toArray, List.getElem_cons_succ, List.getElem_cons_zero, Act.put, List.setIfInBounds_toArray, List.set_cons_zero, List.set_cons_succ]
      refine wpAnyH_take (i := 5) (oi := _) (v := ?_) rfl (by kernel_rfl) (by kernel_rfl) (by kernel_rfl) (fun _ _ _ h => h) (Or.inl ⟨by rfl, ?_⟩) (by assumption) ?_
      rotate_left
      · intro w hSw
        try dsimp only at hSw
        go_simp
        all_goals with_reducible rfl
      simp only [List.getElem_toArray, List.getElem_cons_succ, List.getElem_cons_zero, Act.put, List.setIfInBounds_toArray, List.set_cons_zero, List.set_cons_succ]
      refine wpAnyH_take (i := 6) (oi := _) (v := ?_) rfl (by kernel_rfl) (by kernel_rfl) (by kernel_rfl) (fun _ _ _ h => h) (Or.inl ⟨by rfl, ?_⟩) (by assumption) ?_
      rotate_left
      · intro w hSw
        try dsimp only at hSw
        go_simp
        all_goals with_reducible rfl
      simp only [List.getElem_toArray, List.getElem_cons_succ, List.getElem_cons_zero, Act.put, List.setIfInBounds_toArray, List.set_cons_zero, List.set_cons_succ]
      refine wpAnyH_take (i := 7) (oi := _) (v := ?_) rfl (by kernel_rfl) (by kernel_rfl) (by kernel_rfl) (fun _ _ _ h => h) (Or.inl ⟨by rfl, ?_⟩) (by assumption) ?_
      rotate_left
      · intro w hSw
        try dsimp only at hSw
        go_simp
        all_goals with_reducible rfl
      simp only [List.getElem_toArray, List.getElem_cons_succ, List.getElem_cons_zero, Act.put, List.setIfInBounds_toArray, List.set_cons_zero, List.set_cons_succ]
      refine wpAnyH_take (i := 8) (oi := _) (v := ?_) rfl (by kernel_rfl) (by kernel_rfl) (by kernel_rfl) (fun _ _ _ h => h) (Or.inl ⟨by rfl, ?_⟩) (by assumption) ?_
      rotate_left
      · intro w hSw
        try dsimp only at hSw
        go_simp
        all_goals with_reducible rfl
      simp only [List.getElem_toArray, List.getElem_cons_succ, List.getElem_cons_zero, Act.put, List.setIfInBounds_toArray, List.set_cons_zero, List.set_cons_succ]
      refine wpAnyH_ready (rs := [9]) (by kernel_rfl) (by simp) ?_
      refine AllReadyH.cons (o := _) rfl (fun K hK => ?_) AllReadyH.nil
      go_simp
      refine hK.out _ _ (HI.out _ (hHeld.1.alloc hHeld.1.size _)) (fun hHeld1 => ?_)
      clear hHeld
      clear hK K
      try simp only [List.getElem_toArray, List.getElem_cons_succ, List.getElem_cons_zero, Act.put, List.setIfInBounds_toArray, List.set_cons_zero, List.set_cons_succ]
      have hN5 := Blk.newAt W4.drew 55 #[.int .i64 0, .int .i64 0, .string ⟨#[]⟩] (g := W4.heap.size) rfl
      have f0 := hN5.froz 0
      have f1 := hN5.froz 1
      have f2 := hN5.froz 2
      have d0 := hN5.cell 0
      have d1 := hN5.cell 1
      have d2 := hN5.cell 2
      simp only [List.getElem?_toArray, List.getElem?_cons_zero, List.getElem?_cons_succ] at d0 d1 d2
      have HN5 := Lib.hid hN5
      clear hN5
      refine wpAnyH_ready (rs := [10]) (by kernel_rfl) (by simp) ?_
      refine AllReadyH.cons (o := _) rfl (fun K hK => ?_) AllReadyH.nil
      go_simp
      have HW5 := Lib.hid (show Below wr.heap.size wr (W4.alloc (.cells #[.int .i64 2, .int .i64 0, .string x2] 55)).drew from (HB4.out.alloc HB4.out.size _).trans ((Below.refl _ _).drew.mono (by have := HB4.out.size; simp; omega)))
      have HN6 := Lib.hid ((Blk.newAt W4 55 #[.int .i64 2, .int .i64 0, .string x2] (g := W4.heap.size) rfl).drewG)
      refine hK.out _ _ (HI.out _ HW5.out) (fun hHeld2 => ?_)
      clear hHeld1 f0 f1 f2 d0 d1 d2 HN5
      clear hK K
      try simp only [List.getElem_toArray, List.getElem_cons_succ, List.getElem_cons_zero, Act.put, List.setIfInBounds_toArray, List.set_cons_zero, List.set_cons_succ]
      refine wpAnyH_done (by kernel_rfl) ?_ _
      clear hHeld2
      generalize (W4.alloc (.cells #[.int .i64 2, .int .i64 0, .string x2] 55)).drew = W5 at *
      have HZ5 := Lib.hid (show wr.heap.size ≤ W4.heap.size from HB4.out.size)
      have n0 := HN6.out.cell 0
      have n1 := HN6.out.cell 1
      have n2 := HN6.out.cell 2
      simp only [List.getElem?_toArray, List.getElem?_cons_zero, List.getElem?_cons_succ] at n0 n1 n2
      obtain ⟨o0, o1, o2, o3, o4⟩ := HOLD.out W5 (HB.out.trans (HW5.out.mono HB.out.size))
      clear HB4 HZ4
      generalize W4.heap.size = n4 at *
      go_wp2_with fail
      go_loopw [12] (fun s wr6 => s = .int .i64 0 ∧ W5 = wr6) (fun _ _ => 0)
      case atStart => exact ⟨rfl, rfl⟩
      case round =>
        obtain ⟨rfl, rfl⟩ := hrel
        go_wp2_with fail
        go_quiet (fail)
        go_wp2_with fail
        go_quiet (fail)
        have hn4 := HN6.out.lt
        have hne4 : n4 ≠ W5.heap.size := by omega
        have hsz4 := HZ5.out
        have hw6 : W5.heap.size ≠ n4 := by omega
        have hN8 : ∀ q : Nat, Blk ((W5.drewN q).alloc (.cells #[] 55)) n4 55 #[.int .i64 2, .int .i64 0, .string x2] := fun q => (show Blk (W5.drewN q) n4 55 #[.int .i64 2, .int .i64 0, .string x2] from HN6.out).allocG _
        have a0 := fun q => (hN8 q).cell 0
        have a1 := fun q => (hN8 q).cell 1
        have a2 := fun q => (hN8 q).cell 2
        simp only [List.getElem?_toArray, List.getElem?_cons_zero, List.getElem?_cons_succ] at a0 a1 a2
        clear hN8 n0 n1 n2
        have HOW := Lib.hid (fun (W6 : World) => (show ((W6.alloc (.cells #[] 55)).alloc (.cells #[.int .i64 2, .int .i64 0, .string x2] 55)).ownsRow W6.heap.size 55 3 (.slice (some ⟨W6.heap.size, 0, none⟩) 0 0) 0 [] from (World.ownsRow_made W6 #[] 0 (Nat.le_refl _) (Nat.zero_le _) rfl).alloc _))
        have HB6 := Lib.hid (fun (q : Nat) => (show Below wr.heap.size wr (W5.drewN q) from ⟨HW5.out.os, HW5.out.tape, HW5.out.output, HW5.out.size, HW5.out.block⟩))
        go_wp2_with (at_builtin; refine wpList_append_own _ rfl _ _ 33 rfl W5.heap.size 55 i0 (.agg #[.int .i64 0, .int .i64 0, .string ⟨#[]⟩]) 3 32 Tryz.underlying33 hi hz0 hz1 hz2 rfl (by decide) _ 0 [] rfl (HOW.out _) ⟨W5.heap.size + 1, 0, none⟩ 1 1 (cellsV (2, 0, x2)) rfl rfl (cells_at _ _ _ (by simp)) (by simp [cellsV, Value.oneCell']) (by unfold maxLen; omega) (by omega) (by simp <;> omega) ?_; intro v' w7 hown' hgrow _; have HB7 := Lib.hid (show Below wr.heap.size wr w7 from (((HB6.out _).alloc (HB6.out _).size (.cells #[] 55)).alloc (by have := HW5.out.size; simp; omega) (.cells #[.int .i64 2, .int .i64 0, .string x2] 55)).grown hgrow (by have := HW5.out.size; simp; omega) (fun k e => Nat.le_trans HW5.out.size ((HOW.out _).lt k e).1)); have HN7 := Lib.hid hown'; obtain ⟨g7, c7, rfl, hc7, hc7m⟩ := own_one hown'; clear hown' hgrow)
        go_roundw
        case rel => exact .inr ⟨rfl, rfl, rfl, ⟨g7, c7, rfl, by
          have h := ownsRow_base HN7.out HW5.out.size
          have e : flatV [((2, 0, x2) : Val)] = [] ++ cellsV (2, 0, x2) := by simp [flatV]
          show w7.ownsRow wr.heap.size 55 3 _ (0 + 1) (flatV [((2, 0, x2) : Val)])
          rw [e]
          exact h⟩, rfl, K3.out.belowV HB7.out K3.out.lt, G3.out.belowV HB7.out G3.out.lt, L3.out.belowV HB7.out L3.out.lt, HB.out.trans (HB7.out.mono HB.out.size)⟩
        case measure => simp [RowKit.intOf]
    · have hvi := valsIn_of_owns hO.out
      obtain ⟨g', o', he, hgl, hva⟩ := hvi (by simp)
      simp only [Option.some.injEq, Addr.mk.injEq, and_true] at he
      obtain ⟨rfl, rfl⟩ := he
      obtain ⟨v0, v1, v2⟩ := hva 0 (by simp)
      simp only [List.getElem?_cons_zero, Option.getD_some, Nat.zero_mul, Nat.add_zero, Nat.zero_add] at v0 v1 v2
      have l0 := hL.cell 0
      have l1 := hL.cell 1
      have l2 := hL.cell 2
      simp only [List.getElem?_toArray, List.getElem?_cons_zero, List.getElem?_cons_succ] at l0 l1 l2
      clear hO hL hva
      have k0 := hK.cell 0
      have f0 := hG.froz 0
      have f1 := hG.froz 1
      have f2 := hG.froz 2
      have d0 := hG.cell 0
      have d1 := hG.cell 1
      have d2 := hG.cell 2
      simp only [List.getElem?_toArray, List.getElem?_cons_zero, List.getElem?_cons_succ] at k0 d0 d1 d2
      have hset : Blk (((wr.setCell ⟨w.heap.size + 1, 0, none⟩ (.int .i64 2)).setCell ⟨w.heap.size + 1, 1, none⟩ (.int .i64 0)).setCell ⟨w.heap.size + 1, 2, none⟩ (.string x2)) (w.heap.size + 1) 55 #[.int .i64 2, .int .i64 0, .string x2] := by
        simpa using ((hG.setG 0 (.int .i64 2)).setG 1 (.int .i64 0)).setG 2 (.string x2)
      have HSET := Lib.hid hset
      have HBB := Lib.hid hBB
      clear hset hBB hK hG
      go_wp2_with fail
      have r0 := HSET.out.cell 0
      have r1 := HSET.out.cell 1
      have r2 := HSET.out.cell 2
      simp only [List.getElem?_toArray, List.getElem?_cons_zero, List.getElem?_cons_succ] at r0 r1 r2
      rw [HRES.out]
      refine bodyPost_ret (v := valA (2, 0, x2)) (by simp [results, Tryz.results76, go_sem, r0, r1, r2, valA]) rfl ⟨rfl, ?_⟩
      exact ((HBB.out.setCell (p := ⟨w.heap.size + 1, 0, none⟩) (by simp) _).setCell (p := ⟨w.heap.size + 1, 1, none⟩) (by simp) _).setCell (p := ⟨w.heap.size + 1, 2, none⟩) (by simp) _

set_option maxRecDepth 100000 in
set_option maxHeartbeats 2000000 in
theorem tellO_6_text (m b off b2 off2 len qc d : Nat) (x1 : Int) (x2 : ByteArray) (hm : m < len) (w : World) (hb : b < w.heap.size) (hb2 : b2 < w.heap.size) (h0 : w.cell? ⟨b, off, none⟩ = some (.slice (some ⟨b2, off2, none⟩) len qc)) (h1 : w.cell? ⟨b, off + 1, none⟩ = some (.int .i64 1))
    (y0 : w.cell? ⟨b2, off2 + m * 3, none⟩ = some (.int .i64 2)) (y1 : w.cell? ⟨b2, off2 + m * 3 + 1, none⟩ = some (.int .i64 0)) (y2 : w.cell? ⟨b2, off2 + m * 3 + 2, none⟩ = some (.string x2)) :
    Calls Tryz.prog 76 #[.agg #[.int .i64 6, .int .i64 (m : Int)], .slice (some ⟨b, off, none⟩) 1 d] w (ValPost w (tellK 6 [((2, 0, x2), 1)])) := by
  have HRES : Hid (tellK 6 [((2, 0, x2), 1)] = (0, 0, ⟨#[]⟩)) := Lib.hid (by
    simp [tellK, smStep, mnTell, smTell, nul])
  generalize tellK 6 [((2, 0, x2), 1)] = res at HRES ⊢
  have b1 : Below w.heap.size w (w.alloc (.cells #[.int .i64 6, .int .i64 (m : Int)] 59)) := below_new _ _
  have b2' : Below w.heap.size w ((w.alloc (.cells #[.int .i64 6, .int .i64 (m : Int)] 59)).alloc (.cells #[.int .i64 0, .int .i64 0, .string ⟨#[]⟩] 55)) := b1.alloc b1.size _
  have b3 : Below w.heap.size w (((w.alloc (.cells #[.int .i64 6, .int .i64 (m : Int)] 59)).alloc (.cells #[.int .i64 0, .int .i64 0, .string ⟨#[]⟩] 55)).alloc (.cells #[.int .i64 0, .int .i64 0, .int .i64 0] 141)) := b2'.alloc b2'.size _
  have k3 := ((Blk.new w 59 #[.int .i64 6, .int .i64 (m : Int)]).allocG (.cells #[.int .i64 0, .int .i64 0, .string ⟨#[]⟩] 55)).allocG (.cells #[.int .i64 0, .int .i64 0, .int .i64 0] 141)
  have g3 := (Blk.newAt (w.alloc (.cells #[.int .i64 6, .int .i64 (m : Int)] 59)) 55 #[.int .i64 0, .int .i64 0, .string ⟨#[]⟩] (g := w.heap.size + 1) (by simp)).allocG (.cells #[.int .i64 0, .int .i64 0, .int .i64 0] 141)
  have l3 := Blk.newAt ((w.alloc (.cells #[.int .i64 6, .int .i64 (m : Int)] 59)).alloc (.cells #[.int .i64 0, .int .i64 0, .string ⟨#[]⟩] 55)) 141 #[.int .i64 0, .int .i64 0, .int .i64 0] (g := w.heap.size + 2) (by simp)
  have K3 := Lib.hid k3
  have G3 := Lib.hid g3
  have L3 := Lib.hid l3
  have HB := Lib.hid b3
  have hbb := hb
  have hsz : (((w.alloc (.cells #[.int .i64 6, .int .i64 (m : Int)] 59)).alloc (.cells #[.int .i64 0, .int .i64 0, .string ⟨#[]⟩] 55)).alloc (.cells #[.int .i64 0, .int .i64 0, .int .i64 0] 141)).heap.size = w.heap.size + 3 := by simp
  clear b1 b2' b3 k3 g3 l3
  go_enter Tryz.func76, Tryz.ntmps76
  generalize hW : ((w.alloc (.cells #[.int .i64 6, .int .i64 (m : Int)] 59)).alloc (.cells #[.int .i64 0, .int .i64 0, .string ⟨#[]⟩] 55)).alloc (.cells #[.int .i64 0, .int .i64 0, .int .i64 0] 141) = W3 at *
  have HOLD := Lib.hid (show ∀ W, Below w.heap.size w W → W.cell? ⟨b, off, none⟩ = some (.slice (some ⟨b2, off2, none⟩) len qc) ∧ W.cell? ⟨b, off + 1, none⟩ = some (.int .i64 1) ∧ W.cell? ⟨b2, off2 + m * 3, none⟩ = some (.int .i64 2) ∧ W.cell? ⟨b2, off2 + m * 3 + 1, none⟩ = some (.int .i64 0) ∧ W.cell? ⟨b2, off2 + m * 3 + 2, none⟩ = some (.string x2) from fun W h =>
    ⟨(h.cell (p := ⟨b, off, none⟩) hb).trans h0, (h.cell (p := ⟨b, off + 1, none⟩) hb).trans h1, (h.cell (p := ⟨b2, off2 + m * 3, none⟩) hb2).trans y0, (h.cell (p := ⟨b2, off2 + m * 3 + 1, none⟩) hb2).trans y1, (h.cell (p := ⟨b2, off2 + m * 3 + 2, none⟩) hb2).trans y2⟩)
  clear h0 h1 y0 y1 y2 hbb
  go_wp2_with fail
  go_loopw [5, 6, 7, 9, 10, 11, 12, 13] (fun a b c d e _ _ _ wr => (a = .int .i64 0 ∧ b = .int .i64 0 ∧ c = .int .i64 0 ∧ d = .slice none 0 0 ∧ e = .int .i64 0 ∧ wr = W3) ∨ (a = .int .i64 1 ∧ b = .int .i64 1 ∧ c = .int .i64 0 ∧ (∃ g cap, d = .slice (some ⟨g, 0, none⟩) 1 cap ∧ Hid (OwnsV wr W3.heap.size d [(2, 0, x2)])) ∧ e = .int .i64 1 ∧ Blk wr w.heap.size 59 #[.int .i64 6, .int .i64 (m : Int)] ∧ Blk wr (w.heap.size + 1) 55 #[.int .i64 0, .int .i64 0, .string ⟨#[]⟩] ∧ Blk wr (w.heap.size + 2) 141 #[.int .i64 ((0, 0, 0) : S3).1, .int .i64 ((0, 0, 0) : S3).2.1, .int .i64 ((0, 0, 0) : S3).2.2] ∧ Below w.heap.size w wr)) (fun _ _ _ _ e _ _ _ _ => 1 - (RowKit.intOf e).toNat)
  case atStart => exact .inl ⟨rfl, rfl, rfl, rfl, rfl, rfl⟩
  case round =>
    rcases hrel with ⟨rfl, rfl, rfl, rfl, rfl, rfl⟩ | ⟨rfl, rfl, rfl, ⟨g, cap, rfl, hO⟩, rfl, hK, hG, hL, hBB⟩
    · obtain ⟨i0, hi, hz0, hz1, hz2⟩ := info_parts infoV
      obtain ⟨o0, o1, o2, o3, o4⟩ := HOLD.out wr HB.out
      have k0 := K3.out.cell 0
      have k1 := K3.out.cell 1
      simp only [List.getElem?_toArray, List.getElem?_cons_zero, List.getElem?_cons_succ] at k0 k1
      have hm0 : (0 : Int) ≤ (m : Int) := by omega
      have hm1 : (m : Int) < (len : Int) := by omega
      go_wp2_with fail
      go_quiet (fail)
      go_wp2_with fail
      have HB4 : Hid (Below wr.heap.size wr (wr.drewN nq)) := Lib.hid ⟨rfl, rfl, rfl, Nat.le_refl _, fun _ _ => rfl⟩
      have HZ4 : Hid ((wr.drewN nq).heap.size = wr.heap.size) := Lib.hid rfl
      generalize wr.drewN nq = W4 at *
      have HI := Lib.hid (show ∀ W, Below wr.heap.size wr W → Below wr.heap.size wr W ∧ (W.cell? ⟨b, off, none⟩ = some (.slice (some ⟨b2, off2, none⟩) len qc) ∧ W.cell? ⟨b2, off2 + m * 3, none⟩ = some (.int .i64 2) ∧ W.cell? ⟨b2, off2 + m * 3 + 1, none⟩ = some (.int .i64 0) ∧ W.cell? ⟨b2, off2 + m * 3 + 2, none⟩ = some (.string x2) ∧ W.cell? ⟨w.heap.size, 1, none⟩ = some (.int .i64 (m : Int))) from fun W h => by
        obtain ⟨p0, _, p2, p3, p4⟩ := HOLD.out W (HB.out.trans (h.mono HB.out.size))
        have z1 := (K3.out.belowV h K3.out.lt).cell 1
        simp only [List.getElem?_toArray, List.getElem?_cons_zero, List.getElem?_cons_succ] at z1
        exact ⟨h, p0, p2, p3, p4, z1⟩)
      clear o0 o1 o2 o3 o4 k0 k1
      refine wp_region_held_drew (S := fun W : World => Below wr.heap.size wr W ∧ (W.cell? ⟨b, off, none⟩ = some (.slice (some ⟨b2, off2, none⟩) len qc) ∧ W.cell? ⟨b2, off2 + m * 3, none⟩ = some (.int .i64 2) ∧ W.cell? ⟨b2, off2 + m * 3 + 1, none⟩ = some (.int .i64 0) ∧ W.cell? ⟨b2, off2 + m * 3 + 2, none⟩ = some (.string x2) ∧ W.cell? ⟨w.heap.size, 1, none⟩ = some (.int .i64 (m : Int)))) (by kernel_rfl) (HI.out _ (HB4.out.trans ((Below.refl _ _).drew.mono HB4.out.size))) (fun hHeld => ?_)
      refine wpAnyH_take (i := 0) (oi := _) (v := ?_) rfl (by kernel_rfl) (by kernel_rfl) (by kernel_rfl) (fun _ _ _ h => h) (Or.inl ⟨by rfl, ?_⟩) (by assumption) ?_
      rotate_left
      · intro w hSw
        try dsimp only at hSw
        go_simp
        all_goals with_reducible rfl
      simp only [List.getElem_toArray, List.getElem_cons_succ, List.getElem_cons_zero, Act.put, List.setIfInBounds_toArray, List.set_cons_zero, List.set_cons_succ]
      refine wpAnyH_take (i := 1) (oi := _) (v := ?_) rfl (by kernel_rfl) (by kernel_rfl) (by kernel_rfl) (fun _ _ _ h => h) (Or.inl ⟨by rfl, ?_⟩) (by assumption) ?_
      rotate_left
      · intro w hSw
        try dsimp only at hSw
        go_simp
        all_goals with_reducible rfl
      simp only [List.getElem_toArray, List.getElem_cons_succ, List.getElem_cons_zero, Act.put, List.setIfInBounds_toArray, List.set_cons_zero, List.set_cons_succ]
      refine wpAnyH_take (i := 2) (oi := _) (v := ?_) rfl (by kernel_rfl) (by kernel_rfl) (by kernel_rfl) (fun _ _ _ h => h) (Or.inl ⟨by rfl, ?_⟩) (by assumption) ?_
      rotate_left
      · intro w hSw
        try dsimp only at hSw
        go_simp
        all_goals with_reducible rfl
      simp only [List.getElem_toArray, List.getElem_cons_succ, List.getElem_cons_zero, Act.put, List.setIfInBounds_toArray, List.set_cons_zero, List.set_cons_succ]
      refine wpAnyH_take (i := 3) (oi := _) (v := ?_) rfl (by kernel_rfl) (by kernel_rfl) (by kernel_rfl) (fun _ _ _ h => h) (Or.inl ⟨by rfl, ?_⟩) (by assumption) ?_
      rotate_left
      · intro w hSw
        try dsimp only at hSw
        go_simp
        all_goals with_reducible rfl
      simp only [List.getElem_toArray, List.getElem_cons_succ, List.getElem_cons_zero, Act.put, List.setIfInBounds_toArray, List.set_cons_zero, List.set_cons_succ]
      refine wpAnyH_take (i := 4) (oi := _) (v := ?_) rfl (by kernel_rfl) (by kernel_rfl) (by kernel_rfl) (fun _ _ _ h => h) (Or.inl ⟨by rfl, ?_⟩) (by assumption) ?_
      rotate_left
      · intro w hSw
        try dsimp only at hSw
        go_simp
        all_goals with_reducible rfl
      simp only [List.getElem_toArray, List.getElem_cons_succ, List.getElem_cons_zero, Act.put, List.setIfInBounds_toArray, List.set_cons_zero, List.set_cons_succ]
      refine wpAnyH_take (i := 5) (oi := _) (v := ?_) rfl (by kernel_rfl) (by kernel_rfl) (by kernel_rfl) (fun _ _ _ h => h) (Or.inl ⟨by rfl, ?_⟩) (by assumption) ?_
      rotate_left
      · intro w hSw
        try dsimp only at hSw
        go_simp
        all_goals with_reducible rfl
      simp only [List.getElem_toArray, List.getElem_cons_succ, List.getElem_cons_zero, Act.put, List.setIfInBounds_toArray, List.set_cons_zero, List.set_cons_succ]
      refine wpAnyH_take (i := 6) (oi := _) (v := ?_) rfl (by kernel_rfl) (by kernel_rfl) (by kernel_rfl) (fun _ _ _ h => h) (Or.inl ⟨by rfl, ?_⟩) (by assumption) ?_
      rotate_left
      · intro w hSw
        try dsimp only at hSw
        go_simp
        all_goals with_reducible rfl
      simp only [List.getElem_toArray, List.getElem_cons_succ, List.getElem_cons_zero, Act.put, List.setIfInBounds_toArray, List.set_cons_zero, List.set_cons_succ]
      refine wpAnyH_take (i := 7) (oi := _) (v := ?_) rfl (by kernel_rfl) (by kernel_rfl) (by kernel_rfl) (fun _ _ _ h => h) (Or.inl ⟨by rfl, ?_⟩) (by assumption) ?_
      rotate_left
      · intro w hSw
        try dsimp only at hSw
        go_simp
        all_goals with_reducible rfl
      simp only [List.getElem_toArray, List.getElem_cons_succ, List.getElem_cons_zero, Act.put, List.setIfInBounds_toArray, List.set_cons_zero, List.set_cons_succ]
      refine wpAnyH_take (i := 8) (oi := _) (v := ?_) rfl (by kernel_rfl) (by kernel_rfl) (by kernel_rfl) (fun _ _ _ h => h) (Or.inl ⟨by rfl, ?_⟩) (by assumption) ?_
      rotate_left
      · intro w hSw
        try dsimp only at hSw
        go_simp
        all_goals with_reducible rfl
      simp only [List.getElem_toArray, List.getElem_cons_succ, List.getElem_cons_zero, Act.put, List.setIfInBounds_toArray, List.set_cons_zero, List.set_cons_succ]
      refine wpAnyH_ready (rs := [9]) (by kernel_rfl) (by simp) ?_
      refine AllReadyH.cons (o := _) rfl (fun K hK => ?_) AllReadyH.nil
      go_simp
      refine hK.out _ _ (HI.out _ (hHeld.1.alloc hHeld.1.size _)) (fun hHeld1 => ?_)
      clear hHeld
      clear hK K
      try simp only [List.getElem_toArray, List.getElem_cons_succ, List.getElem_cons_zero, Act.put, List.setIfInBounds_toArray, List.set_cons_zero, List.set_cons_succ]
      have hN5 := Blk.newAt W4.drew 55 #[.int .i64 0, .int .i64 0, .string ⟨#[]⟩] (g := W4.heap.size) rfl
      have f0 := hN5.froz 0
      have f1 := hN5.froz 1
      have f2 := hN5.froz 2
      have d0 := hN5.cell 0
      have d1 := hN5.cell 1
      have d2 := hN5.cell 2
      simp only [List.getElem?_toArray, List.getElem?_cons_zero, List.getElem?_cons_succ] at d0 d1 d2
      have HN5 := Lib.hid hN5
      clear hN5
      refine wpAnyH_ready (rs := [10]) (by kernel_rfl) (by simp) ?_
      refine AllReadyH.cons (o := _) rfl (fun K hK => ?_) AllReadyH.nil
      go_simp
      have HW5 := Lib.hid (show Below wr.heap.size wr (W4.alloc (.cells #[.int .i64 2, .int .i64 0, .string x2] 55)).drew from (HB4.out.alloc HB4.out.size _).trans ((Below.refl _ _).drew.mono (by have := HB4.out.size; simp; omega)))
      have HN6 := Lib.hid ((Blk.newAt W4 55 #[.int .i64 2, .int .i64 0, .string x2] (g := W4.heap.size) rfl).drewG)
      refine hK.out _ _ (HI.out _ HW5.out) (fun hHeld2 => ?_)
      clear hHeld1 f0 f1 f2 d0 d1 d2 HN5
      clear hK K
      try simp only [List.getElem_toArray, List.getElem_cons_succ, List.getElem_cons_zero, Act.put, List.setIfInBounds_toArray, List.set_cons_zero, List.set_cons_succ]
      refine wpAnyH_done (by kernel_rfl) ?_ _
      clear hHeld2
      generalize (W4.alloc (.cells #[.int .i64 2, .int .i64 0, .string x2] 55)).drew = W5 at *
      have HZ5 := Lib.hid (show wr.heap.size ≤ W4.heap.size from HB4.out.size)
      have n0 := HN6.out.cell 0
      have n1 := HN6.out.cell 1
      have n2 := HN6.out.cell 2
      simp only [List.getElem?_toArray, List.getElem?_cons_zero, List.getElem?_cons_succ] at n0 n1 n2
      obtain ⟨o0, o1, o2, o3, o4⟩ := HOLD.out W5 (HB.out.trans (HW5.out.mono HB.out.size))
      clear HB4 HZ4
      generalize W4.heap.size = n4 at *
      go_wp2_with fail
      go_loopw [12] (fun s wr6 => s = .int .i64 0 ∧ W5 = wr6) (fun _ _ => 0)
      case atStart => exact ⟨rfl, rfl⟩
      case round =>
        obtain ⟨rfl, rfl⟩ := hrel
        go_wp2_with fail
        go_quiet (fail)
        go_wp2_with fail
        go_quiet (fail)
        have hn4 := HN6.out.lt
        have hne4 : n4 ≠ W5.heap.size := by omega
        have hsz4 := HZ5.out
        have hw6 : W5.heap.size ≠ n4 := by omega
        have hN8 : ∀ q : Nat, Blk ((W5.drewN q).alloc (.cells #[] 55)) n4 55 #[.int .i64 2, .int .i64 0, .string x2] := fun q => (show Blk (W5.drewN q) n4 55 #[.int .i64 2, .int .i64 0, .string x2] from HN6.out).allocG _
        have a0 := fun q => (hN8 q).cell 0
        have a1 := fun q => (hN8 q).cell 1
        have a2 := fun q => (hN8 q).cell 2
        simp only [List.getElem?_toArray, List.getElem?_cons_zero, List.getElem?_cons_succ] at a0 a1 a2
        clear hN8 n0 n1 n2
        have HOW := Lib.hid (fun (W6 : World) => (show ((W6.alloc (.cells #[] 55)).alloc (.cells #[.int .i64 2, .int .i64 0, .string x2] 55)).ownsRow W6.heap.size 55 3 (.slice (some ⟨W6.heap.size, 0, none⟩) 0 0) 0 [] from (World.ownsRow_made W6 #[] 0 (Nat.le_refl _) (Nat.zero_le _) rfl).alloc _))
        have HB6 := Lib.hid (fun (q : Nat) => (show Below wr.heap.size wr (W5.drewN q) from ⟨HW5.out.os, HW5.out.tape, HW5.out.output, HW5.out.size, HW5.out.block⟩))
        go_wp2_with (at_builtin; refine wpList_append_own _ rfl _ _ 33 rfl W5.heap.size 55 i0 (.agg #[.int .i64 0, .int .i64 0, .string ⟨#[]⟩]) 3 32 Tryz.underlying33 hi hz0 hz1 hz2 rfl (by decide) _ 0 [] rfl (HOW.out _) ⟨W5.heap.size + 1, 0, none⟩ 1 1 (cellsV (2, 0, x2)) rfl rfl (cells_at _ _ _ (by simp)) (by simp [cellsV, Value.oneCell']) (by unfold maxLen; omega) (by omega) (by simp <;> omega) ?_; intro v' w7 hown' hgrow _; have HB7 := Lib.hid (show Below wr.heap.size wr w7 from (((HB6.out _).alloc (HB6.out _).size (.cells #[] 55)).alloc (by have := HW5.out.size; simp; omega) (.cells #[.int .i64 2, .int .i64 0, .string x2] 55)).grown hgrow (by have := HW5.out.size; simp; omega) (fun k e => Nat.le_trans HW5.out.size ((HOW.out _).lt k e).1)); have HN7 := Lib.hid hown'; obtain ⟨g7, c7, rfl, hc7, hc7m⟩ := own_one hown'; clear hown' hgrow)
        go_roundw
        case rel => exact .inr ⟨rfl, rfl, rfl, ⟨g7, c7, rfl, by
          have h := ownsRow_base HN7.out HW5.out.size
          have e : flatV [((2, 0, x2) : Val)] = [] ++ cellsV (2, 0, x2) := by simp [flatV]
          show w7.ownsRow wr.heap.size 55 3 _ (0 + 1) (flatV [((2, 0, x2) : Val)])
          rw [e]
          exact h⟩, rfl, K3.out.belowV HB7.out K3.out.lt, G3.out.belowV HB7.out G3.out.lt, L3.out.belowV HB7.out L3.out.lt, HB.out.trans (HB7.out.mono HB.out.size)⟩
        case measure => simp [RowKit.intOf]
    · have hvi := valsIn_of_owns hO.out
      obtain ⟨g', o', he, hgl, hva⟩ := hvi (by simp)
      simp only [Option.some.injEq, Addr.mk.injEq, and_true] at he
      obtain ⟨rfl, rfl⟩ := he
      obtain ⟨v0, v1, v2⟩ := hva 0 (by simp)
      simp only [List.getElem?_cons_zero, Option.getD_some, Nat.zero_mul, Nat.add_zero, Nat.zero_add] at v0 v1 v2
      have l0 := hL.cell 0
      have l1 := hL.cell 1
      have l2 := hL.cell 2
      simp only [List.getElem?_toArray, List.getElem?_cons_zero, List.getElem?_cons_succ] at l0 l1 l2
      clear hO hL hva
      have k0 := hK.cell 0
      have f0 := hG.froz 0
      have f1 := hG.froz 1
      have f2 := hG.froz 2
      have d0 := hG.cell 0
      have d1 := hG.cell 1
      have d2 := hG.cell 2
      simp only [List.getElem?_toArray, List.getElem?_cons_zero, List.getElem?_cons_succ] at k0 d0 d1 d2
      have hset : Blk (((wr.setCell ⟨w.heap.size + 1, 0, none⟩ (.int .i64 0)).setCell ⟨w.heap.size + 1, 1, none⟩ (.int .i64 0)).setCell ⟨w.heap.size + 1, 2, none⟩ (.string ⟨#[]⟩)) (w.heap.size + 1) 55 #[.int .i64 0, .int .i64 0, .string ⟨#[]⟩] := by
        simpa using ((hG.setG 0 (.int .i64 0)).setG 1 (.int .i64 0)).setG 2 (.string ⟨#[]⟩)
      have HSET := Lib.hid hset
      have HBB := Lib.hid hBB
      clear hset hBB hK hG
      go_wp2_with fail
      have r0 := HSET.out.cell 0
      have r1 := HSET.out.cell 1
      have r2 := HSET.out.cell 2
      simp only [List.getElem?_toArray, List.getElem?_cons_zero, List.getElem?_cons_succ] at r0 r1 r2
      rw [HRES.out]
      refine bodyPost_ret (v := valA (0, 0, ⟨#[]⟩)) (by simp [results, Tryz.results76, go_sem, r0, r1, r2, valA]) rfl ⟨rfl, ?_⟩
      exact ((HBB.out.setCell (p := ⟨w.heap.size + 1, 0, none⟩) (by simp) _).setCell (p := ⟨w.heap.size + 1, 1, none⟩) (by simp) _).setCell (p := ⟨w.heap.size + 1, 2, none⟩) (by simp) _

set_option maxRecDepth 100000 in
set_option maxHeartbeats 2000000 in
theorem tellO_7_text (m b off b2 off2 len qc d : Nat) (x1 : Int) (x2 : ByteArray) (hm : m < len) (w : World) (hb : b < w.heap.size) (hb2 : b2 < w.heap.size) (h0 : w.cell? ⟨b, off, none⟩ = some (.slice (some ⟨b2, off2, none⟩) len qc)) (h1 : w.cell? ⟨b, off + 1, none⟩ = some (.int .i64 1))
    (y0 : w.cell? ⟨b2, off2 + m * 3, none⟩ = some (.int .i64 2)) (y1 : w.cell? ⟨b2, off2 + m * 3 + 1, none⟩ = some (.int .i64 0)) (y2 : w.cell? ⟨b2, off2 + m * 3 + 2, none⟩ = some (.string x2)) :
    Calls Tryz.prog 76 #[.agg #[.int .i64 7, .int .i64 (m : Int)], .slice (some ⟨b, off, none⟩) 1 d] w (ValPost w (tellK 7 [((2, 0, x2), 1)])) := by
  have HRES : Hid (tellK 7 [((2, 0, x2), 1)] = (1, 1, ⟨#[]⟩)) := Lib.hid (by
    simp [tellK, seenStep, nul, numV_1])
  generalize tellK 7 [((2, 0, x2), 1)] = res at HRES ⊢
  have b1 : Below w.heap.size w (w.alloc (.cells #[.int .i64 7, .int .i64 (m : Int)] 59)) := below_new _ _
  have b2' : Below w.heap.size w ((w.alloc (.cells #[.int .i64 7, .int .i64 (m : Int)] 59)).alloc (.cells #[.int .i64 0, .int .i64 0, .string ⟨#[]⟩] 55)) := b1.alloc b1.size _
  have b3 : Below w.heap.size w (((w.alloc (.cells #[.int .i64 7, .int .i64 (m : Int)] 59)).alloc (.cells #[.int .i64 0, .int .i64 0, .string ⟨#[]⟩] 55)).alloc (.cells #[.int .i64 0, .int .i64 0, .int .i64 0] 141)) := b2'.alloc b2'.size _
  have k3 := ((Blk.new w 59 #[.int .i64 7, .int .i64 (m : Int)]).allocG (.cells #[.int .i64 0, .int .i64 0, .string ⟨#[]⟩] 55)).allocG (.cells #[.int .i64 0, .int .i64 0, .int .i64 0] 141)
  have g3 := (Blk.newAt (w.alloc (.cells #[.int .i64 7, .int .i64 (m : Int)] 59)) 55 #[.int .i64 0, .int .i64 0, .string ⟨#[]⟩] (g := w.heap.size + 1) (by simp)).allocG (.cells #[.int .i64 0, .int .i64 0, .int .i64 0] 141)
  have l3 := Blk.newAt ((w.alloc (.cells #[.int .i64 7, .int .i64 (m : Int)] 59)).alloc (.cells #[.int .i64 0, .int .i64 0, .string ⟨#[]⟩] 55)) 141 #[.int .i64 0, .int .i64 0, .int .i64 0] (g := w.heap.size + 2) (by simp)
  have K3 := Lib.hid k3
  have G3 := Lib.hid g3
  have L3 := Lib.hid l3
  have HB := Lib.hid b3
  have hbb := hb
  have hsz : (((w.alloc (.cells #[.int .i64 7, .int .i64 (m : Int)] 59)).alloc (.cells #[.int .i64 0, .int .i64 0, .string ⟨#[]⟩] 55)).alloc (.cells #[.int .i64 0, .int .i64 0, .int .i64 0] 141)).heap.size = w.heap.size + 3 := by simp
  clear b1 b2' b3 k3 g3 l3
  go_enter Tryz.func76, Tryz.ntmps76
  generalize hW : ((w.alloc (.cells #[.int .i64 7, .int .i64 (m : Int)] 59)).alloc (.cells #[.int .i64 0, .int .i64 0, .string ⟨#[]⟩] 55)).alloc (.cells #[.int .i64 0, .int .i64 0, .int .i64 0] 141) = W3 at *
  have HOLD := Lib.hid (show ∀ W, Below w.heap.size w W → W.cell? ⟨b, off, none⟩ = some (.slice (some ⟨b2, off2, none⟩) len qc) ∧ W.cell? ⟨b, off + 1, none⟩ = some (.int .i64 1) ∧ W.cell? ⟨b2, off2 + m * 3, none⟩ = some (.int .i64 2) ∧ W.cell? ⟨b2, off2 + m * 3 + 1, none⟩ = some (.int .i64 0) ∧ W.cell? ⟨b2, off2 + m * 3 + 2, none⟩ = some (.string x2) from fun W h =>
    ⟨(h.cell (p := ⟨b, off, none⟩) hb).trans h0, (h.cell (p := ⟨b, off + 1, none⟩) hb).trans h1, (h.cell (p := ⟨b2, off2 + m * 3, none⟩) hb2).trans y0, (h.cell (p := ⟨b2, off2 + m * 3 + 1, none⟩) hb2).trans y1, (h.cell (p := ⟨b2, off2 + m * 3 + 2, none⟩) hb2).trans y2⟩)
  clear h0 h1 y0 y1 y2 hbb
  go_wp2_with fail
  go_loopw [5, 6, 7, 9, 10, 11, 12, 13] (fun a b c d e _ _ _ wr => (a = .int .i64 0 ∧ b = .int .i64 0 ∧ c = .int .i64 0 ∧ d = .slice none 0 0 ∧ e = .int .i64 0 ∧ wr = W3) ∨ (a = .int .i64 1 ∧ b = .int .i64 1 ∧ c = .int .i64 0 ∧ (∃ g cap, d = .slice (some ⟨g, 0, none⟩) 1 cap ∧ Hid (OwnsV wr W3.heap.size d [(2, 0, x2)])) ∧ e = .int .i64 1 ∧ Blk wr w.heap.size 59 #[.int .i64 7, .int .i64 (m : Int)] ∧ Blk wr (w.heap.size + 1) 55 #[.int .i64 0, .int .i64 0, .string ⟨#[]⟩] ∧ Blk wr (w.heap.size + 2) 141 #[.int .i64 ((0, 0, 0) : S3).1, .int .i64 ((0, 0, 0) : S3).2.1, .int .i64 ((0, 0, 0) : S3).2.2] ∧ Below w.heap.size w wr)) (fun _ _ _ _ e _ _ _ _ => 1 - (RowKit.intOf e).toNat)
  case atStart => exact .inl ⟨rfl, rfl, rfl, rfl, rfl, rfl⟩
  case round =>
    rcases hrel with ⟨rfl, rfl, rfl, rfl, rfl, rfl⟩ | ⟨rfl, rfl, rfl, ⟨g, cap, rfl, hO⟩, rfl, hK, hG, hL, hBB⟩
    · obtain ⟨i0, hi, hz0, hz1, hz2⟩ := info_parts infoV
      obtain ⟨o0, o1, o2, o3, o4⟩ := HOLD.out wr HB.out
      have k0 := K3.out.cell 0
      have k1 := K3.out.cell 1
      simp only [List.getElem?_toArray, List.getElem?_cons_zero, List.getElem?_cons_succ] at k0 k1
      have hm0 : (0 : Int) ≤ (m : Int) := by omega
      have hm1 : (m : Int) < (len : Int) := by omega
      go_wp2_with fail
      go_quiet (fail)
      go_wp2_with fail
      have HB4 : Hid (Below wr.heap.size wr (wr.drewN nq)) := Lib.hid ⟨rfl, rfl, rfl, Nat.le_refl _, fun _ _ => rfl⟩
      have HZ4 : Hid ((wr.drewN nq).heap.size = wr.heap.size) := Lib.hid rfl
      generalize wr.drewN nq = W4 at *
      have HI := Lib.hid (show ∀ W, Below wr.heap.size wr W → Below wr.heap.size wr W ∧ (W.cell? ⟨b, off, none⟩ = some (.slice (some ⟨b2, off2, none⟩) len qc) ∧ W.cell? ⟨b2, off2 + m * 3, none⟩ = some (.int .i64 2) ∧ W.cell? ⟨b2, off2 + m * 3 + 1, none⟩ = some (.int .i64 0) ∧ W.cell? ⟨b2, off2 + m * 3 + 2, none⟩ = some (.string x2) ∧ W.cell? ⟨w.heap.size, 1, none⟩ = some (.int .i64 (m : Int))) from fun W h => by
        obtain ⟨p0, _, p2, p3, p4⟩ := HOLD.out W (HB.out.trans (h.mono HB.out.size))
        have z1 := (K3.out.belowV h K3.out.lt).cell 1
        simp only [List.getElem?_toArray, List.getElem?_cons_zero, List.getElem?_cons_succ] at z1
        exact ⟨h, p0, p2, p3, p4, z1⟩)
      clear o0 o1 o2 o3 o4 k0 k1
      refine wp_region_held_drew (S := fun W : World => Below wr.heap.size wr W ∧ (W.cell? ⟨b, off, none⟩ = some (.slice (some ⟨b2, off2, none⟩) len qc) ∧ W.cell? ⟨b2, off2 + m * 3, none⟩ = some (.int .i64 2) ∧ W.cell? ⟨b2, off2 + m * 3 + 1, none⟩ = some (.int .i64 0) ∧ W.cell? ⟨b2, off2 + m * 3 + 2, none⟩ = some (.string x2) ∧ W.cell? ⟨w.heap.size, 1, none⟩ = some (.int .i64 (m : Int)))) (by kernel_rfl) (HI.out _ (HB4.out.trans ((Below.refl _ _).drew.mono HB4.out.size))) (fun hHeld => ?_)
      refine wpAnyH_take (i := 0) (oi := _) (v := ?_) rfl (by kernel_rfl) (by kernel_rfl) (by kernel_rfl) (fun _ _ _ h => h) (Or.inl ⟨by rfl, ?_⟩) (by assumption) ?_
      rotate_left
      · intro w hSw
        try dsimp only at hSw
        go_simp
        all_goals with_reducible rfl
      simp only [List.getElem_toArray, List.getElem_cons_succ, List.getElem_cons_zero, Act.put, List.setIfInBounds_toArray, List.set_cons_zero, List.set_cons_succ]
      refine wpAnyH_take (i := 1) (oi := _) (v := ?_) rfl (by kernel_rfl) (by kernel_rfl) (by kernel_rfl) (fun _ _ _ h => h) (Or.inl ⟨by rfl, ?_⟩) (by assumption) ?_
      rotate_left
      · intro w hSw
        try dsimp only at hSw
        go_simp
        all_goals with_reducible rfl
      simp only [List.getElem_toArray, List.getElem_cons_succ, List.getElem_cons_zero, Act.put, List.setIfInBounds_toArray, List.set_cons_zero, List.set_cons_succ]
      refine wpAnyH_take (i := 2) (oi := _) (v := ?_) rfl (by kernel_rfl) (by kernel_rfl) (by kernel_rfl) (fun _ _ _ h => h) (Or.inl ⟨by rfl, ?_⟩) (by assumption) ?_
      rotate_left
      · intro w hSw
        try dsimp only at hSw
        go_simp
        all_goals with_reducible rfl
      simp only [List.getElem_toArray, List.getElem_cons_succ, List.getElem_cons_zero, Act.put, List.setIfInBounds_toArray, List.set_cons_zero, List.set_cons_succ]
      refine wpAnyH_take (i := 3) (oi := _) (v := ?_) rfl (by kernel_rfl) (by kernel_rfl) (by kernel_rfl) (fun _ _ _ h => h) (Or.inl ⟨by rfl, ?_⟩) (by assumption) ?_
      rotate_left
      · intro w hSw
        try dsimp only at hSw
        go_simp
        all_goals with_reducible rfl
      simp only [List.getElem_toArray, List.getElem_cons_succ, List.getElem_cons_zero, Act.put, List.setIfInBounds_toArray, List.set_cons_zero, List.set_cons_succ]
      refine wpAnyH_take (i := 4) (oi := _) (v := ?_) rfl (by kernel_rfl) (by kernel_rfl) (by kernel_rfl) (fun _ _ _ h => h) (Or.inl ⟨by rfl, ?_⟩) (by assumption) ?_
      rotate_left
      · intro w hSw
        try dsimp only at hSw
        go_simp
        all_goals with_reducible rfl
      simp only [List.getElem_toArray, List.getElem_cons_succ, List.getElem_cons_zero, Act.put, List.setIfInBounds_toArray, List.set_cons_zero, List.set_cons_succ]
      refine wpAnyH_take (i := 5) (oi := _) (v := ?_) rfl (by kernel_rfl) (by kernel_rfl) (by kernel_rfl) (fun _ _ _ h => h) (Or.inl ⟨by rfl, ?_⟩) (by assumption) ?_
      rotate_left
      · intro w hSw
        try dsimp only at hSw
        go_simp
        all_goals with_reducible rfl
      simp only [List.getElem_toArray, List.getElem_cons_succ, List.getElem_cons_zero, Act.put, List.setIfInBounds_toArray, List.set_cons_zero, List.set_cons_succ]
      refine wpAnyH_take (i := 6) (oi := _) (v := ?_) rfl (by kernel_rfl) (by kernel_rfl) (by kernel_rfl) (fun _ _ _ h => h) (Or.inl ⟨by rfl, ?_⟩) (by assumption) ?_
      rotate_left
      · intro w hSw
        try dsimp only at hSw
        go_simp
        all_goals with_reducible rfl
      simp only [List.getElem_toArray, List.getElem_cons_succ, List.getElem_cons_zero, Act.put, List.setIfInBounds_toArray, List.set_cons_zero, List.set_cons_succ]
      refine wpAnyH_take (i := 7) (oi := _) (v := ?_) rfl (by kernel_rfl) (by kernel_rfl) (by kernel_rfl) (fun _ _ _ h => h) (Or.inl ⟨by rfl, ?_⟩) (by assumption) ?_
      rotate_left
      · intro w hSw
        try dsimp only at hSw
        go_simp
        all_goals with_reducible rfl
      simp only [List.getElem_toArray, List.getElem_cons_succ, List.getElem_cons_zero, Act.put, List.setIfInBounds_toArray, List.set_cons_zero, List.set_cons_succ]
      refine wpAnyH_take (i := 8) (oi := _) (v := ?_) rfl (by kernel_rfl) (by kernel_rfl) (by kernel_rfl) (fun _ _ _ h => h) (Or.inl ⟨by rfl, ?_⟩) (by assumption) ?_
      rotate_left
      · intro w hSw
        try dsimp only at hSw
        go_simp
        all_goals with_reducible rfl
      simp only [List.getElem_toArray, List.getElem_cons_succ, List.getElem_cons_zero, Act.put, List.setIfInBounds_toArray, List.set_cons_zero, List.set_cons_succ]
      refine wpAnyH_ready (rs := [9]) (by kernel_rfl) (by simp) ?_
      refine AllReadyH.cons (o := _) rfl (fun K hK => ?_) AllReadyH.nil
      go_simp
      refine hK.out _ _ (HI.out _ (hHeld.1.alloc hHeld.1.size _)) (fun hHeld1 => ?_)
      clear hHeld
      clear hK K
      try simp only [List.getElem_toArray, List.getElem_cons_succ, List.getElem_cons_zero, Act.put, List.setIfInBounds_toArray, List.set_cons_zero, List.set_cons_succ]
      have hN5 := Blk.newAt W4.drew 55 #[.int .i64 0, .int .i64 0, .string ⟨#[]⟩] (g := W4.heap.size) rfl
      have f0 := hN5.froz 0
      have f1 := hN5.froz 1
      have f2 := hN5.froz 2
      have d0 := hN5.cell 0
      have d1 := hN5.cell 1
      have d2 := hN5.cell 2
      simp only [List.getElem?_toArray, List.getElem?_cons_zero, List.getElem?_cons_succ] at d0 d1 d2
      have HN5 := Lib.hid hN5
      clear hN5
      refine wpAnyH_ready (rs := [10]) (by kernel_rfl) (by simp) ?_
      refine AllReadyH.cons (o := _) rfl (fun K hK => ?_) AllReadyH.nil
      go_simp
      have HW5 := Lib.hid (show Below wr.heap.size wr (W4.alloc (.cells #[.int .i64 2, .int .i64 0, .string x2] 55)).drew from (HB4.out.alloc HB4.out.size _).trans ((Below.refl _ _).drew.mono (by have := HB4.out.size; simp; omega)))
      have HN6 := Lib.hid ((Blk.newAt W4 55 #[.int .i64 2, .int .i64 0, .string x2] (g := W4.heap.size) rfl).drewG)
      refine hK.out _ _ (HI.out _ HW5.out) (fun hHeld2 => ?_)
      clear hHeld1 f0 f1 f2 d0 d1 d2 HN5
      clear hK K
      try simp only [List.getElem_toArray, List.getElem_cons_succ, List.getElem_cons_zero, Act.put, List.setIfInBounds_toArray, List.set_cons_zero, List.set_cons_succ]
      refine wpAnyH_done (by kernel_rfl) ?_ _
      clear hHeld2
      generalize (W4.alloc (.cells #[.int .i64 2, .int .i64 0, .string x2] 55)).drew = W5 at *
      have HZ5 := Lib.hid (show wr.heap.size ≤ W4.heap.size from HB4.out.size)
      have n0 := HN6.out.cell 0
      have n1 := HN6.out.cell 1
      have n2 := HN6.out.cell 2
      simp only [List.getElem?_toArray, List.getElem?_cons_zero, List.getElem?_cons_succ] at n0 n1 n2
      obtain ⟨o0, o1, o2, o3, o4⟩ := HOLD.out W5 (HB.out.trans (HW5.out.mono HB.out.size))
      clear HB4 HZ4
      generalize W4.heap.size = n4 at *
      go_wp2_with fail
      go_loopw [12] (fun s wr6 => s = .int .i64 0 ∧ W5 = wr6) (fun _ _ => 0)
      case atStart => exact ⟨rfl, rfl⟩
      case round =>
        obtain ⟨rfl, rfl⟩ := hrel
        go_wp2_with fail
        go_quiet (fail)
        go_wp2_with fail
        go_quiet (fail)
        have hn4 := HN6.out.lt
        have hne4 : n4 ≠ W5.heap.size := by omega
        have hsz4 := HZ5.out
        have hw6 : W5.heap.size ≠ n4 := by omega
        have hN8 : ∀ q : Nat, Blk ((W5.drewN q).alloc (.cells #[] 55)) n4 55 #[.int .i64 2, .int .i64 0, .string x2] := fun q => (show Blk (W5.drewN q) n4 55 #[.int .i64 2, .int .i64 0, .string x2] from HN6.out).allocG _
        have a0 := fun q => (hN8 q).cell 0
        have a1 := fun q => (hN8 q).cell 1
        have a2 := fun q => (hN8 q).cell 2
        simp only [List.getElem?_toArray, List.getElem?_cons_zero, List.getElem?_cons_succ] at a0 a1 a2
        clear hN8 n0 n1 n2
        have HOW := Lib.hid (fun (W6 : World) => (show ((W6.alloc (.cells #[] 55)).alloc (.cells #[.int .i64 2, .int .i64 0, .string x2] 55)).ownsRow W6.heap.size 55 3 (.slice (some ⟨W6.heap.size, 0, none⟩) 0 0) 0 [] from (World.ownsRow_made W6 #[] 0 (Nat.le_refl _) (Nat.zero_le _) rfl).alloc _))
        have HB6 := Lib.hid (fun (q : Nat) => (show Below wr.heap.size wr (W5.drewN q) from ⟨HW5.out.os, HW5.out.tape, HW5.out.output, HW5.out.size, HW5.out.block⟩))
        go_wp2_with (at_builtin; refine wpList_append_own _ rfl _ _ 33 rfl W5.heap.size 55 i0 (.agg #[.int .i64 0, .int .i64 0, .string ⟨#[]⟩]) 3 32 Tryz.underlying33 hi hz0 hz1 hz2 rfl (by decide) _ 0 [] rfl (HOW.out _) ⟨W5.heap.size + 1, 0, none⟩ 1 1 (cellsV (2, 0, x2)) rfl rfl (cells_at _ _ _ (by simp)) (by simp [cellsV, Value.oneCell']) (by unfold maxLen; omega) (by omega) (by simp <;> omega) ?_; intro v' w7 hown' hgrow _; have HB7 := Lib.hid (show Below wr.heap.size wr w7 from (((HB6.out _).alloc (HB6.out _).size (.cells #[] 55)).alloc (by have := HW5.out.size; simp; omega) (.cells #[.int .i64 2, .int .i64 0, .string x2] 55)).grown hgrow (by have := HW5.out.size; simp; omega) (fun k e => Nat.le_trans HW5.out.size ((HOW.out _).lt k e).1)); have HN7 := Lib.hid hown'; obtain ⟨g7, c7, rfl, hc7, hc7m⟩ := own_one hown'; clear hown' hgrow)
        go_roundw
        case rel => exact .inr ⟨rfl, rfl, rfl, ⟨g7, c7, rfl, by
          have h := ownsRow_base HN7.out HW5.out.size
          have e : flatV [((2, 0, x2) : Val)] = [] ++ cellsV (2, 0, x2) := by simp [flatV]
          show w7.ownsRow wr.heap.size 55 3 _ (0 + 1) (flatV [((2, 0, x2) : Val)])
          rw [e]
          exact h⟩, rfl, K3.out.belowV HB7.out K3.out.lt, G3.out.belowV HB7.out G3.out.lt, L3.out.belowV HB7.out L3.out.lt, HB.out.trans (HB7.out.mono HB.out.size)⟩
        case measure => simp [RowKit.intOf]
    · have hvi := valsIn_of_owns hO.out
      obtain ⟨g', o', he, hgl, hva⟩ := hvi (by simp)
      simp only [Option.some.injEq, Addr.mk.injEq, and_true] at he
      obtain ⟨rfl, rfl⟩ := he
      obtain ⟨v0, v1, v2⟩ := hva 0 (by simp)
      simp only [List.getElem?_cons_zero, Option.getD_some, Nat.zero_mul, Nat.add_zero, Nat.zero_add] at v0 v1 v2
      have l0 := hL.cell 0
      have l1 := hL.cell 1
      have l2 := hL.cell 2
      simp only [List.getElem?_toArray, List.getElem?_cons_zero, List.getElem?_cons_succ] at l0 l1 l2
      clear hO hL hva
      have k0 := hK.cell 0
      have f0 := hG.froz 0
      have f1 := hG.froz 1
      have f2 := hG.froz 2
      have d0 := hG.cell 0
      have d1 := hG.cell 1
      have d2 := hG.cell 2
      simp only [List.getElem?_toArray, List.getElem?_cons_zero, List.getElem?_cons_succ] at k0 d0 d1 d2
      have hset : Blk (((wr.setCell ⟨w.heap.size + 1, 0, none⟩ (.int .i64 1)).setCell ⟨w.heap.size + 1, 1, none⟩ (.int .i64 1)).setCell ⟨w.heap.size + 1, 2, none⟩ (.string ⟨#[]⟩)) (w.heap.size + 1) 55 #[.int .i64 1, .int .i64 1, .string ⟨#[]⟩] := by
        simpa using ((hG.setG 0 (.int .i64 1)).setG 1 (.int .i64 1)).setG 2 (.string ⟨#[]⟩)
      have HSET := Lib.hid hset
      have HBB := Lib.hid hBB
      clear hset hBB hK hG
      go_wp2_with fail
      have r0 := HSET.out.cell 0
      have r1 := HSET.out.cell 1
      have r2 := HSET.out.cell 2
      simp only [List.getElem?_toArray, List.getElem?_cons_zero, List.getElem?_cons_succ] at r0 r1 r2
      rw [HRES.out]
      refine bodyPost_ret (v := valA (1, 1, ⟨#[]⟩)) (by simp [results, Tryz.results76, go_sem, r0, r1, r2, valA]) rfl ⟨rfl, ?_⟩
      exact ((HBB.out.setCell (p := ⟨w.heap.size + 1, 0, none⟩) (by simp) _).setCell (p := ⟨w.heap.size + 1, 1, none⟩) (by simp) _).setCell (p := ⟨w.heap.size + 1, 2, none⟩) (by simp) _

end Go.Proofs.YtfoknllnknjccaaGreat

/-!
  What the document tells of one row.
-/
namespace Go.Proofs.YtfoknllnknjccaaGreat
open Go.RowKit
set_option linter.unusedSimpArgs false
set_option linter.unusedVariables false

set_option maxRecDepth 100000 in
set_option maxHeartbeats 2000000 in
theorem tellO_1 (m b off d : Nat) (x : Val) (w : World) (hb : b < w.heap.size) (h1 : w.cell? ⟨b, off + 1, none⟩ = some (.int .i64 1)) :
    Calls Tryz.prog 76 #[.agg #[.int .i64 1, .int .i64 (m : Int)], .slice (some ⟨b, off, none⟩) 1 d] w (ValPost w (tellK 1 [(x, 1)])) := by
  have HRES : Hid (tellK 1 [(x, 1)] = (1, 1, ⟨#[]⟩)) := Lib.hid (by
    simp [tellK, cntStep, w_1, numV_1])
  generalize tellK 1 [(x, 1)] = res at HRES ⊢
  have b1 : Below w.heap.size w (w.alloc (.cells #[.int .i64 1, .int .i64 (m : Int)] 59)) := below_new _ _
  have b2' : Below w.heap.size w ((w.alloc (.cells #[.int .i64 1, .int .i64 (m : Int)] 59)).alloc (.cells #[.int .i64 0, .int .i64 0, .string ⟨#[]⟩] 55)) := b1.alloc b1.size _
  have b3 : Below w.heap.size w (((w.alloc (.cells #[.int .i64 1, .int .i64 (m : Int)] 59)).alloc (.cells #[.int .i64 0, .int .i64 0, .string ⟨#[]⟩] 55)).alloc (.cells #[.int .i64 0, .int .i64 0, .int .i64 0] 141)) := b2'.alloc b2'.size _
  have k3 := ((Blk.new w 59 #[.int .i64 1, .int .i64 (m : Int)]).allocG (.cells #[.int .i64 0, .int .i64 0, .string ⟨#[]⟩] 55)).allocG (.cells #[.int .i64 0, .int .i64 0, .int .i64 0] 141)
  have g3 := (Blk.newAt (w.alloc (.cells #[.int .i64 1, .int .i64 (m : Int)] 59)) 55 #[.int .i64 0, .int .i64 0, .string ⟨#[]⟩] (g := w.heap.size + 1) (by simp)).allocG (.cells #[.int .i64 0, .int .i64 0, .int .i64 0] 141)
  have l3 := Blk.newAt ((w.alloc (.cells #[.int .i64 1, .int .i64 (m : Int)] 59)).alloc (.cells #[.int .i64 0, .int .i64 0, .string ⟨#[]⟩] 55)) 141 #[.int .i64 0, .int .i64 0, .int .i64 0] (g := w.heap.size + 2) (by simp)
  have K3 := Lib.hid k3
  have G3 := Lib.hid g3
  have L3 := Lib.hid l3
  have HB := Lib.hid b3
  have hbb := hb
  have hsz : (((w.alloc (.cells #[.int .i64 1, .int .i64 (m : Int)] 59)).alloc (.cells #[.int .i64 0, .int .i64 0, .string ⟨#[]⟩] 55)).alloc (.cells #[.int .i64 0, .int .i64 0, .int .i64 0] 141)).heap.size = w.heap.size + 3 := by simp
  clear b1 b2' b3 k3 g3 l3
  go_enter Tryz.func76, Tryz.ntmps76
  generalize hW : ((w.alloc (.cells #[.int .i64 1, .int .i64 (m : Int)] 59)).alloc (.cells #[.int .i64 0, .int .i64 0, .string ⟨#[]⟩] 55)).alloc (.cells #[.int .i64 0, .int .i64 0, .int .i64 0] 141) = W3 at *
  have HOLD := Lib.hid (show ∀ W, Below w.heap.size w W → W.cell? ⟨b, off + 1, none⟩ = some (.int .i64 1) from fun W h => (h.cell (p := ⟨b, off + 1, none⟩) hb).trans h1)
  clear h1 hbb
  go_wp2_with fail
  go_loopw [5, 6, 7, 9, 10, 11, 12, 13] (fun a b c d e _ _ _ wr => (a = .int .i64 0 ∧ b = .int .i64 0 ∧ c = .int .i64 0 ∧ d = .slice none 0 0 ∧ e = .int .i64 0 ∧ wr = W3) ∨ (a = .int .i64 1 ∧ b = .int .i64 0 ∧ c = .int .i64 0 ∧ d = .slice none 0 0 ∧ e = .int .i64 1 ∧ Below W3.heap.size W3 wr)) (fun _ _ _ _ e _ _ _ _ => 1 - (RowKit.intOf e).toNat)
  case atStart => exact .inl ⟨rfl, rfl, rfl, rfl, rfl, rfl⟩
  case round =>
    rcases hrel with ⟨rfl, rfl, rfl, rfl, rfl, rfl⟩ | ⟨rfl, rfl, rfl, rfl, rfl, hBr⟩
    · obtain ⟨i0, hi, hz0, hz1, hz2⟩ := info_parts infoV
      have o1 := HOLD.out wr HB.out
      have k0 := K3.out.cell 0
      have k1 := K3.out.cell 1
      simp only [List.getElem?_toArray, List.getElem?_cons_zero, List.getElem?_cons_succ] at k0 k1
      have hm0 : (0 : Int) ≤ (m : Int) := by omega
      go_wp2_with fail
      go_quiet (fail)
      go_wp2_with fail
      go_roundw
      case rel => exact .inr ⟨rfl, rfl, rfl, rfl, rfl, ⟨rfl, rfl, rfl, Nat.le_refl _, fun _ _ => rfl⟩⟩
      case measure => simp [RowKit.intOf]
    · have hK := K3.out.belowV hBr K3.out.lt
      have hG := G3.out.belowV hBr G3.out.lt
      have hBB : Below w.heap.size w wr := HB.out.trans (hBr.mono HB.out.size)
      have k0 := hK.cell 0
      have f0 := hG.froz 0
      have f1 := hG.froz 1
      have f2 := hG.froz 2
      have d0 := hG.cell 0
      have d1 := hG.cell 1
      have d2 := hG.cell 2
      simp only [List.getElem?_toArray, List.getElem?_cons_zero, List.getElem?_cons_succ] at k0 d0 d1 d2
      have hset : Blk (((wr.setCell ⟨w.heap.size + 1, 0, none⟩ (.int .i64 1)).setCell ⟨w.heap.size + 1, 1, none⟩ (.int .i64 1)).setCell ⟨w.heap.size + 1, 2, none⟩ (.string ⟨#[]⟩)) (w.heap.size + 1) 55 #[.int .i64 1, .int .i64 1, .string ⟨#[]⟩] := by
        simpa using ((hG.setG 0 (.int .i64 1)).setG 1 (.int .i64 1)).setG 2 (.string ⟨#[]⟩)
      have HSET := Lib.hid hset
      have HBB := Lib.hid hBB
      clear hset hBB hK hG
      go_wp2_with fail
      have r0 := HSET.out.cell 0
      have r1 := HSET.out.cell 1
      have r2 := HSET.out.cell 2
      simp only [List.getElem?_toArray, List.getElem?_cons_zero, List.getElem?_cons_succ] at r0 r1 r2
      rw [HRES.out]
      refine bodyPost_ret (v := valA (1, 1, ⟨#[]⟩)) (by simp [results, Tryz.results76, go_sem, r0, r1, r2, valA]) rfl ⟨rfl, ?_⟩
      exact ((HBB.out.setCell (p := ⟨w.heap.size + 1, 0, none⟩) (by simp) _).setCell (p := ⟨w.heap.size + 1, 1, none⟩) (by simp) _).setCell (p := ⟨w.heap.size + 1, 2, none⟩) (by simp) _


end Go.Proofs.YtfoknllnknjccaaGreat

