/-
  What the document tells of no rows.
  What the document's Of is of no rows.
-/
import Derived.Test.YtfoknllnknjccaaGreatToldV
import Derived.Test.YtfoknllnknjccaaGreatAgL
import Derived.Test.YtfoknllnknjccaaGreatWhole
import Derived.Test.YtfoknllnknjccaaGreatRes5
namespace Go.Proofs.YtfoknllnknjccaaGreat
open Go.RowKit

set_option maxRecDepth 100000 in
theorem tellNil1 (m : Int) (w : World) : Calls Tryz.prog 76 #[.agg #[.int .i64 1, .int .i64 m], .slice none 0 0] w (ValPost w (1, 0, ⟨#[]⟩)) := by
  have b1 : Below w.heap.size w (w.alloc (.cells #[.int .i64 1, .int .i64 m] 59)) := below_new _ _
  have b2 : Below w.heap.size w ((w.alloc (.cells #[.int .i64 1, .int .i64 m] 59)).alloc (.cells #[.int .i64 0, .int .i64 0, .string ⟨#[]⟩] 55)) := b1.alloc b1.size _
  have b3 : Below w.heap.size w (((w.alloc (.cells #[.int .i64 1, .int .i64 m] 59)).alloc (.cells #[.int .i64 0, .int .i64 0, .string ⟨#[]⟩] 55)).alloc (.cells #[.int .i64 0, .int .i64 0, .int .i64 0] 141)) := b2.alloc b2.size _
  have k3 := ((Blk.new w 59 #[.int .i64 1, .int .i64 m]).allocG (.cells #[.int .i64 0, .int .i64 0, .string ⟨#[]⟩] 55)).allocG (.cells #[.int .i64 0, .int .i64 0, .int .i64 0] 141)
  have g3 := (Blk.newAt (w.alloc (.cells #[.int .i64 1, .int .i64 m] 59)) 55 #[.int .i64 0, .int .i64 0, .string ⟨#[]⟩] (g := w.heap.size + 1) (by simp)).allocG (.cells #[.int .i64 0, .int .i64 0, .int .i64 0] 141)
  have c0 := k3.cell 0
  have f0 := g3.froz 0
  have f1 := g3.froz 1
  have f2 := g3.froz 2
  have d0 := g3.cell 0
  have d1 := g3.cell 1
  have d2 := g3.cell 2
  simp only [List.getElem?_toArray, List.getElem?_cons_zero, List.getElem?_cons_succ] at c0 d0 d1 d2
  have kf : Blk ((((((w.alloc (.cells #[.int .i64 1, .int .i64 m] 59)).alloc (.cells #[.int .i64 0, .int .i64 0, .string ⟨#[]⟩] 55)).alloc (.cells #[.int .i64 0, .int .i64 0, .int .i64 0] 141)).setCell ⟨w.heap.size + 1, 0, none⟩ (.int .i64 1)).setCell ⟨w.heap.size + 1, 1, none⟩ (.int .i64 0)).setCell ⟨w.heap.size + 1, 2, none⟩ (.string ⟨#[]⟩)) (w.heap.size + 1) 55 #[.int .i64 1, .int .i64 0, .string ⟨#[]⟩] := by
    simpa using ((g3.setG 0 (.int .i64 1)).setG 1 (.int .i64 0)).setG 2 (.string ⟨#[]⟩)
  have KF := Lib.hid kf
  have HB := Lib.hid b3
  clear b1 b2 b3 k3 g3 kf
  go_enter Tryz.func76, Tryz.ntmps76
  generalize hW : ((w.alloc (.cells #[.int .i64 1, .int .i64 m] 59)).alloc (.cells #[.int .i64 0, .int .i64 0, .string ⟨#[]⟩] 55)).alloc (.cells #[.int .i64 0, .int .i64 0, .int .i64 0] 141) = W2 at *
  go_wp2_with fail
  go_loopw [5, 6, 7, 9, 10, 11, 12, 13] (fun a b c d e _ _ _ wr => a = .int .i64 0 ∧ b = .int .i64 0 ∧ c = .int .i64 0 ∧ d = .slice none 0 0 ∧ e = .int .i64 0 ∧ wr = W2) (fun _ _ _ _ _ _ _ _ _ => 0)
  case atStart => exact ⟨rfl, rfl, rfl, rfl, rfl, rfl⟩
  case round =>
    obtain ⟨rfl, rfl, rfl, rfl, rfl, rfl⟩ := hrel
    go_wp2_with fail
    have r0 := KF.out.cell 0
    have r1 := KF.out.cell 1
    have r2 := KF.out.cell 2
    simp only [List.getElem?_toArray, List.getElem?_cons_zero, List.getElem?_cons_succ] at r0 r1 r2
    refine bodyPost_ret (v := valA (1, 0, ⟨#[]⟩)) (by simp [results, Tryz.results76, go_sem, r0, r1, r2, valA]) rfl ⟨rfl, ?_⟩
    exact ((HB.out.setCell (p := ⟨w.heap.size + 1, 0, none⟩) (by simp) _).setCell (p := ⟨w.heap.size + 1, 1, none⟩) (by simp) _).setCell (p := ⟨w.heap.size + 1, 2, none⟩) (by simp) _

set_option maxRecDepth 100000 in
theorem tellNil2 (m : Int) (w : World) : Calls Tryz.prog 76 #[.agg #[.int .i64 2, .int .i64 m], .slice none 0 0] w (ValPost w (1, 0, ⟨#[]⟩)) := by
  have b1 : Below w.heap.size w (w.alloc (.cells #[.int .i64 2, .int .i64 m] 59)) := below_new _ _
  have b2 : Below w.heap.size w ((w.alloc (.cells #[.int .i64 2, .int .i64 m] 59)).alloc (.cells #[.int .i64 0, .int .i64 0, .string ⟨#[]⟩] 55)) := b1.alloc b1.size _
  have b3 : Below w.heap.size w (((w.alloc (.cells #[.int .i64 2, .int .i64 m] 59)).alloc (.cells #[.int .i64 0, .int .i64 0, .string ⟨#[]⟩] 55)).alloc (.cells #[.int .i64 0, .int .i64 0, .int .i64 0] 141)) := b2.alloc b2.size _
  have k3 := ((Blk.new w 59 #[.int .i64 2, .int .i64 m]).allocG (.cells #[.int .i64 0, .int .i64 0, .string ⟨#[]⟩] 55)).allocG (.cells #[.int .i64 0, .int .i64 0, .int .i64 0] 141)
  have g3 := (Blk.newAt (w.alloc (.cells #[.int .i64 2, .int .i64 m] 59)) 55 #[.int .i64 0, .int .i64 0, .string ⟨#[]⟩] (g := w.heap.size + 1) (by simp)).allocG (.cells #[.int .i64 0, .int .i64 0, .int .i64 0] 141)
  have c0 := k3.cell 0
  have f0 := g3.froz 0
  have f1 := g3.froz 1
  have f2 := g3.froz 2
  have d0 := g3.cell 0
  have d1 := g3.cell 1
  have d2 := g3.cell 2
  simp only [List.getElem?_toArray, List.getElem?_cons_zero, List.getElem?_cons_succ] at c0 d0 d1 d2
  have kf : Blk ((((((w.alloc (.cells #[.int .i64 2, .int .i64 m] 59)).alloc (.cells #[.int .i64 0, .int .i64 0, .string ⟨#[]⟩] 55)).alloc (.cells #[.int .i64 0, .int .i64 0, .int .i64 0] 141)).setCell ⟨w.heap.size + 1, 0, none⟩ (.int .i64 1)).setCell ⟨w.heap.size + 1, 1, none⟩ (.int .i64 0)).setCell ⟨w.heap.size + 1, 2, none⟩ (.string ⟨#[]⟩)) (w.heap.size + 1) 55 #[.int .i64 1, .int .i64 0, .string ⟨#[]⟩] := by
    simpa using ((g3.setG 0 (.int .i64 1)).setG 1 (.int .i64 0)).setG 2 (.string ⟨#[]⟩)
  have KF := Lib.hid kf
  have HB := Lib.hid b3
  clear b1 b2 b3 k3 g3 kf
  go_enter Tryz.func76, Tryz.ntmps76
  generalize hW : ((w.alloc (.cells #[.int .i64 2, .int .i64 m] 59)).alloc (.cells #[.int .i64 0, .int .i64 0, .string ⟨#[]⟩] 55)).alloc (.cells #[.int .i64 0, .int .i64 0, .int .i64 0] 141) = W2 at *
  go_wp2_with fail
  go_loopw [5, 6, 7, 9, 10, 11, 12, 13] (fun a b c d e _ _ _ wr => a = .int .i64 0 ∧ b = .int .i64 0 ∧ c = .int .i64 0 ∧ d = .slice none 0 0 ∧ e = .int .i64 0 ∧ wr = W2) (fun _ _ _ _ _ _ _ _ _ => 0)
  case atStart => exact ⟨rfl, rfl, rfl, rfl, rfl, rfl⟩
  case round =>
    obtain ⟨rfl, rfl, rfl, rfl, rfl, rfl⟩ := hrel
    go_wp2_with fail
    have r0 := KF.out.cell 0
    have r1 := KF.out.cell 1
    have r2 := KF.out.cell 2
    simp only [List.getElem?_toArray, List.getElem?_cons_zero, List.getElem?_cons_succ] at r0 r1 r2
    refine bodyPost_ret (v := valA (1, 0, ⟨#[]⟩)) (by simp [results, Tryz.results76, go_sem, r0, r1, r2, valA]) rfl ⟨rfl, ?_⟩
    exact ((HB.out.setCell (p := ⟨w.heap.size + 1, 0, none⟩) (by simp) _).setCell (p := ⟨w.heap.size + 1, 1, none⟩) (by simp) _).setCell (p := ⟨w.heap.size + 1, 2, none⟩) (by simp) _

set_option maxRecDepth 100000 in
theorem tellNil3 (m : Int) (w : World) : Calls Tryz.prog 76 #[.agg #[.int .i64 3, .int .i64 m], .slice none 0 0] w (ValPost w (0, 0, ⟨#[]⟩)) := by
  have b1 : Below w.heap.size w (w.alloc (.cells #[.int .i64 3, .int .i64 m] 59)) := below_new _ _
  have b2 : Below w.heap.size w ((w.alloc (.cells #[.int .i64 3, .int .i64 m] 59)).alloc (.cells #[.int .i64 0, .int .i64 0, .string ⟨#[]⟩] 55)) := b1.alloc b1.size _
  have b3 : Below w.heap.size w (((w.alloc (.cells #[.int .i64 3, .int .i64 m] 59)).alloc (.cells #[.int .i64 0, .int .i64 0, .string ⟨#[]⟩] 55)).alloc (.cells #[.int .i64 0, .int .i64 0, .int .i64 0] 141)) := b2.alloc b2.size _
  have k3 := ((Blk.new w 59 #[.int .i64 3, .int .i64 m]).allocG (.cells #[.int .i64 0, .int .i64 0, .string ⟨#[]⟩] 55)).allocG (.cells #[.int .i64 0, .int .i64 0, .int .i64 0] 141)
  have g3 := (Blk.newAt (w.alloc (.cells #[.int .i64 3, .int .i64 m] 59)) 55 #[.int .i64 0, .int .i64 0, .string ⟨#[]⟩] (g := w.heap.size + 1) (by simp)).allocG (.cells #[.int .i64 0, .int .i64 0, .int .i64 0] 141)
  have c0 := k3.cell 0
  have f0 := g3.froz 0
  have f1 := g3.froz 1
  have f2 := g3.froz 2
  have d0 := g3.cell 0
  have d1 := g3.cell 1
  have d2 := g3.cell 2
  simp only [List.getElem?_toArray, List.getElem?_cons_zero, List.getElem?_cons_succ] at c0 d0 d1 d2
  have kf : Blk ((((((w.alloc (.cells #[.int .i64 3, .int .i64 m] 59)).alloc (.cells #[.int .i64 0, .int .i64 0, .string ⟨#[]⟩] 55)).alloc (.cells #[.int .i64 0, .int .i64 0, .int .i64 0] 141)).setCell ⟨w.heap.size + 1, 0, none⟩ (.int .i64 0)).setCell ⟨w.heap.size + 1, 1, none⟩ (.int .i64 0)).setCell ⟨w.heap.size + 1, 2, none⟩ (.string ⟨#[]⟩)) (w.heap.size + 1) 55 #[.int .i64 0, .int .i64 0, .string ⟨#[]⟩] := by
    simpa using ((g3.setG 0 (.int .i64 0)).setG 1 (.int .i64 0)).setG 2 (.string ⟨#[]⟩)
  have KF := Lib.hid kf
  have HB := Lib.hid b3
  clear b1 b2 b3 k3 g3 kf
  go_enter Tryz.func76, Tryz.ntmps76
  generalize hW : ((w.alloc (.cells #[.int .i64 3, .int .i64 m] 59)).alloc (.cells #[.int .i64 0, .int .i64 0, .string ⟨#[]⟩] 55)).alloc (.cells #[.int .i64 0, .int .i64 0, .int .i64 0] 141) = W2 at *
  go_wp2_with fail
  go_loopw [5, 6, 7, 9, 10, 11, 12, 13] (fun a b c d e _ _ _ wr => a = .int .i64 0 ∧ b = .int .i64 0 ∧ c = .int .i64 0 ∧ d = .slice none 0 0 ∧ e = .int .i64 0 ∧ wr = W2) (fun _ _ _ _ _ _ _ _ _ => 0)
  case atStart => exact ⟨rfl, rfl, rfl, rfl, rfl, rfl⟩
  case round =>
    obtain ⟨rfl, rfl, rfl, rfl, rfl, rfl⟩ := hrel
    go_wp2_with fail
    have r0 := KF.out.cell 0
    have r1 := KF.out.cell 1
    have r2 := KF.out.cell 2
    simp only [List.getElem?_toArray, List.getElem?_cons_zero, List.getElem?_cons_succ] at r0 r1 r2
    refine bodyPost_ret (v := valA (0, 0, ⟨#[]⟩)) (by simp [results, Tryz.results76, go_sem, r0, r1, r2, valA]) rfl ⟨rfl, ?_⟩
    exact ((HB.out.setCell (p := ⟨w.heap.size + 1, 0, none⟩) (by simp) _).setCell (p := ⟨w.heap.size + 1, 1, none⟩) (by simp) _).setCell (p := ⟨w.heap.size + 1, 2, none⟩) (by simp) _

set_option maxRecDepth 100000 in
theorem tellNil4 (m : Int) (w : World) : Calls Tryz.prog 76 #[.agg #[.int .i64 4, .int .i64 m], .slice none 0 0] w (ValPost w (0, 0, ⟨#[]⟩)) := by
  have b1 : Below w.heap.size w (w.alloc (.cells #[.int .i64 4, .int .i64 m] 59)) := below_new _ _
  have b2 : Below w.heap.size w ((w.alloc (.cells #[.int .i64 4, .int .i64 m] 59)).alloc (.cells #[.int .i64 0, .int .i64 0, .string ⟨#[]⟩] 55)) := b1.alloc b1.size _
  have b3 : Below w.heap.size w (((w.alloc (.cells #[.int .i64 4, .int .i64 m] 59)).alloc (.cells #[.int .i64 0, .int .i64 0, .string ⟨#[]⟩] 55)).alloc (.cells #[.int .i64 0, .int .i64 0, .int .i64 0] 141)) := b2.alloc b2.size _
  have k3 := ((Blk.new w 59 #[.int .i64 4, .int .i64 m]).allocG (.cells #[.int .i64 0, .int .i64 0, .string ⟨#[]⟩] 55)).allocG (.cells #[.int .i64 0, .int .i64 0, .int .i64 0] 141)
  have g3 := (Blk.newAt (w.alloc (.cells #[.int .i64 4, .int .i64 m] 59)) 55 #[.int .i64 0, .int .i64 0, .string ⟨#[]⟩] (g := w.heap.size + 1) (by simp)).allocG (.cells #[.int .i64 0, .int .i64 0, .int .i64 0] 141)
  have c0 := k3.cell 0
  have f0 := g3.froz 0
  have f1 := g3.froz 1
  have f2 := g3.froz 2
  have d0 := g3.cell 0
  have d1 := g3.cell 1
  have d2 := g3.cell 2
  simp only [List.getElem?_toArray, List.getElem?_cons_zero, List.getElem?_cons_succ] at c0 d0 d1 d2
  have kf : Blk ((((((w.alloc (.cells #[.int .i64 4, .int .i64 m] 59)).alloc (.cells #[.int .i64 0, .int .i64 0, .string ⟨#[]⟩] 55)).alloc (.cells #[.int .i64 0, .int .i64 0, .int .i64 0] 141)).setCell ⟨w.heap.size + 1, 0, none⟩ (.int .i64 0)).setCell ⟨w.heap.size + 1, 1, none⟩ (.int .i64 0)).setCell ⟨w.heap.size + 1, 2, none⟩ (.string ⟨#[]⟩)) (w.heap.size + 1) 55 #[.int .i64 0, .int .i64 0, .string ⟨#[]⟩] := by
    simpa using ((g3.setG 0 (.int .i64 0)).setG 1 (.int .i64 0)).setG 2 (.string ⟨#[]⟩)
  have KF := Lib.hid kf
  have HB := Lib.hid b3
  clear b1 b2 b3 k3 g3 kf
  go_enter Tryz.func76, Tryz.ntmps76
  generalize hW : ((w.alloc (.cells #[.int .i64 4, .int .i64 m] 59)).alloc (.cells #[.int .i64 0, .int .i64 0, .string ⟨#[]⟩] 55)).alloc (.cells #[.int .i64 0, .int .i64 0, .int .i64 0] 141) = W2 at *
  go_wp2_with fail
  go_loopw [5, 6, 7, 9, 10, 11, 12, 13] (fun a b c d e _ _ _ wr => a = .int .i64 0 ∧ b = .int .i64 0 ∧ c = .int .i64 0 ∧ d = .slice none 0 0 ∧ e = .int .i64 0 ∧ wr = W2) (fun _ _ _ _ _ _ _ _ _ => 0)
  case atStart => exact ⟨rfl, rfl, rfl, rfl, rfl, rfl⟩
  case round =>
    obtain ⟨rfl, rfl, rfl, rfl, rfl, rfl⟩ := hrel
    go_wp2_with fail
    have r0 := KF.out.cell 0
    have r1 := KF.out.cell 1
    have r2 := KF.out.cell 2
    simp only [List.getElem?_toArray, List.getElem?_cons_zero, List.getElem?_cons_succ] at r0 r1 r2
    refine bodyPost_ret (v := valA (0, 0, ⟨#[]⟩)) (by simp [results, Tryz.results76, go_sem, r0, r1, r2, valA]) rfl ⟨rfl, ?_⟩
    exact ((HB.out.setCell (p := ⟨w.heap.size + 1, 0, none⟩) (by simp) _).setCell (p := ⟨w.heap.size + 1, 1, none⟩) (by simp) _).setCell (p := ⟨w.heap.size + 1, 2, none⟩) (by simp) _

set_option maxRecDepth 100000 in
theorem tellNil5 (m : Int) (w : World) : Calls Tryz.prog 76 #[.agg #[.int .i64 5, .int .i64 m], .slice none 0 0] w (ValPost w (0, 0, ⟨#[]⟩)) := by
  have b1 : Below w.heap.size w (w.alloc (.cells #[.int .i64 5, .int .i64 m] 59)) := below_new _ _
  have b2 : Below w.heap.size w ((w.alloc (.cells #[.int .i64 5, .int .i64 m] 59)).alloc (.cells #[.int .i64 0, .int .i64 0, .string ⟨#[]⟩] 55)) := b1.alloc b1.size _
  have b3 : Below w.heap.size w (((w.alloc (.cells #[.int .i64 5, .int .i64 m] 59)).alloc (.cells #[.int .i64 0, .int .i64 0, .string ⟨#[]⟩] 55)).alloc (.cells #[.int .i64 0, .int .i64 0, .int .i64 0] 141)) := b2.alloc b2.size _
  have k3 := ((Blk.new w 59 #[.int .i64 5, .int .i64 m]).allocG (.cells #[.int .i64 0, .int .i64 0, .string ⟨#[]⟩] 55)).allocG (.cells #[.int .i64 0, .int .i64 0, .int .i64 0] 141)
  have g3 := (Blk.newAt (w.alloc (.cells #[.int .i64 5, .int .i64 m] 59)) 55 #[.int .i64 0, .int .i64 0, .string ⟨#[]⟩] (g := w.heap.size + 1) (by simp)).allocG (.cells #[.int .i64 0, .int .i64 0, .int .i64 0] 141)
  have c0 := k3.cell 0
  have f0 := g3.froz 0
  have f1 := g3.froz 1
  have f2 := g3.froz 2
  have d0 := g3.cell 0
  have d1 := g3.cell 1
  have d2 := g3.cell 2
  simp only [List.getElem?_toArray, List.getElem?_cons_zero, List.getElem?_cons_succ] at c0 d0 d1 d2
  have kf : Blk ((((((w.alloc (.cells #[.int .i64 5, .int .i64 m] 59)).alloc (.cells #[.int .i64 0, .int .i64 0, .string ⟨#[]⟩] 55)).alloc (.cells #[.int .i64 0, .int .i64 0, .int .i64 0] 141)).setCell ⟨w.heap.size + 1, 0, none⟩ (.int .i64 0)).setCell ⟨w.heap.size + 1, 1, none⟩ (.int .i64 0)).setCell ⟨w.heap.size + 1, 2, none⟩ (.string ⟨#[]⟩)) (w.heap.size + 1) 55 #[.int .i64 0, .int .i64 0, .string ⟨#[]⟩] := by
    simpa using ((g3.setG 0 (.int .i64 0)).setG 1 (.int .i64 0)).setG 2 (.string ⟨#[]⟩)
  have KF := Lib.hid kf
  have HB := Lib.hid b3
  clear b1 b2 b3 k3 g3 kf
  go_enter Tryz.func76, Tryz.ntmps76
  generalize hW : ((w.alloc (.cells #[.int .i64 5, .int .i64 m] 59)).alloc (.cells #[.int .i64 0, .int .i64 0, .string ⟨#[]⟩] 55)).alloc (.cells #[.int .i64 0, .int .i64 0, .int .i64 0] 141) = W2 at *
  go_wp2_with fail
  go_loopw [5, 6, 7, 9, 10, 11, 12, 13] (fun a b c d e _ _ _ wr => a = .int .i64 0 ∧ b = .int .i64 0 ∧ c = .int .i64 0 ∧ d = .slice none 0 0 ∧ e = .int .i64 0 ∧ wr = W2) (fun _ _ _ _ _ _ _ _ _ => 0)
  case atStart => exact ⟨rfl, rfl, rfl, rfl, rfl, rfl⟩
  case round =>
    obtain ⟨rfl, rfl, rfl, rfl, rfl, rfl⟩ := hrel
    go_wp2_with fail
    have r0 := KF.out.cell 0
    have r1 := KF.out.cell 1
    have r2 := KF.out.cell 2
    simp only [List.getElem?_toArray, List.getElem?_cons_zero, List.getElem?_cons_succ] at r0 r1 r2
    refine bodyPost_ret (v := valA (0, 0, ⟨#[]⟩)) (by simp [results, Tryz.results76, go_sem, r0, r1, r2, valA]) rfl ⟨rfl, ?_⟩
    exact ((HB.out.setCell (p := ⟨w.heap.size + 1, 0, none⟩) (by simp) _).setCell (p := ⟨w.heap.size + 1, 1, none⟩) (by simp) _).setCell (p := ⟨w.heap.size + 1, 2, none⟩) (by simp) _

set_option maxRecDepth 100000 in
theorem tellNil6 (m : Int) (w : World) : Calls Tryz.prog 76 #[.agg #[.int .i64 6, .int .i64 m], .slice none 0 0] w (ValPost w (0, 0, ⟨#[]⟩)) := by
  have b1 : Below w.heap.size w (w.alloc (.cells #[.int .i64 6, .int .i64 m] 59)) := below_new _ _
  have b2 : Below w.heap.size w ((w.alloc (.cells #[.int .i64 6, .int .i64 m] 59)).alloc (.cells #[.int .i64 0, .int .i64 0, .string ⟨#[]⟩] 55)) := b1.alloc b1.size _
  have b3 : Below w.heap.size w (((w.alloc (.cells #[.int .i64 6, .int .i64 m] 59)).alloc (.cells #[.int .i64 0, .int .i64 0, .string ⟨#[]⟩] 55)).alloc (.cells #[.int .i64 0, .int .i64 0, .int .i64 0] 141)) := b2.alloc b2.size _
  have k3 := ((Blk.new w 59 #[.int .i64 6, .int .i64 m]).allocG (.cells #[.int .i64 0, .int .i64 0, .string ⟨#[]⟩] 55)).allocG (.cells #[.int .i64 0, .int .i64 0, .int .i64 0] 141)
  have g3 := (Blk.newAt (w.alloc (.cells #[.int .i64 6, .int .i64 m] 59)) 55 #[.int .i64 0, .int .i64 0, .string ⟨#[]⟩] (g := w.heap.size + 1) (by simp)).allocG (.cells #[.int .i64 0, .int .i64 0, .int .i64 0] 141)
  have c0 := k3.cell 0
  have f0 := g3.froz 0
  have f1 := g3.froz 1
  have f2 := g3.froz 2
  have d0 := g3.cell 0
  have d1 := g3.cell 1
  have d2 := g3.cell 2
  simp only [List.getElem?_toArray, List.getElem?_cons_zero, List.getElem?_cons_succ] at c0 d0 d1 d2
  have kf : Blk ((((((w.alloc (.cells #[.int .i64 6, .int .i64 m] 59)).alloc (.cells #[.int .i64 0, .int .i64 0, .string ⟨#[]⟩] 55)).alloc (.cells #[.int .i64 0, .int .i64 0, .int .i64 0] 141)).setCell ⟨w.heap.size + 1, 0, none⟩ (.int .i64 0)).setCell ⟨w.heap.size + 1, 1, none⟩ (.int .i64 0)).setCell ⟨w.heap.size + 1, 2, none⟩ (.string ⟨#[]⟩)) (w.heap.size + 1) 55 #[.int .i64 0, .int .i64 0, .string ⟨#[]⟩] := by
    simpa using ((g3.setG 0 (.int .i64 0)).setG 1 (.int .i64 0)).setG 2 (.string ⟨#[]⟩)
  have KF := Lib.hid kf
  have HB := Lib.hid b3
  clear b1 b2 b3 k3 g3 kf
  go_enter Tryz.func76, Tryz.ntmps76
  generalize hW : ((w.alloc (.cells #[.int .i64 6, .int .i64 m] 59)).alloc (.cells #[.int .i64 0, .int .i64 0, .string ⟨#[]⟩] 55)).alloc (.cells #[.int .i64 0, .int .i64 0, .int .i64 0] 141) = W2 at *
  go_wp2_with fail
  go_loopw [5, 6, 7, 9, 10, 11, 12, 13] (fun a b c d e _ _ _ wr => a = .int .i64 0 ∧ b = .int .i64 0 ∧ c = .int .i64 0 ∧ d = .slice none 0 0 ∧ e = .int .i64 0 ∧ wr = W2) (fun _ _ _ _ _ _ _ _ _ => 0)
  case atStart => exact ⟨rfl, rfl, rfl, rfl, rfl, rfl⟩
  case round =>
    obtain ⟨rfl, rfl, rfl, rfl, rfl, rfl⟩ := hrel
    go_wp2_with fail
    have r0 := KF.out.cell 0
    have r1 := KF.out.cell 1
    have r2 := KF.out.cell 2
    simp only [List.getElem?_toArray, List.getElem?_cons_zero, List.getElem?_cons_succ] at r0 r1 r2
    refine bodyPost_ret (v := valA (0, 0, ⟨#[]⟩)) (by simp [results, Tryz.results76, go_sem, r0, r1, r2, valA]) rfl ⟨rfl, ?_⟩
    exact ((HB.out.setCell (p := ⟨w.heap.size + 1, 0, none⟩) (by simp) _).setCell (p := ⟨w.heap.size + 1, 1, none⟩) (by simp) _).setCell (p := ⟨w.heap.size + 1, 2, none⟩) (by simp) _

set_option maxRecDepth 100000 in
theorem tellNil7 (m : Int) (w : World) : Calls Tryz.prog 76 #[.agg #[.int .i64 7, .int .i64 m], .slice none 0 0] w (ValPost w (1, 0, ⟨#[]⟩)) := by
  have b1 : Below w.heap.size w (w.alloc (.cells #[.int .i64 7, .int .i64 m] 59)) := below_new _ _
  have b2 : Below w.heap.size w ((w.alloc (.cells #[.int .i64 7, .int .i64 m] 59)).alloc (.cells #[.int .i64 0, .int .i64 0, .string ⟨#[]⟩] 55)) := b1.alloc b1.size _
  have b3 : Below w.heap.size w (((w.alloc (.cells #[.int .i64 7, .int .i64 m] 59)).alloc (.cells #[.int .i64 0, .int .i64 0, .string ⟨#[]⟩] 55)).alloc (.cells #[.int .i64 0, .int .i64 0, .int .i64 0] 141)) := b2.alloc b2.size _
  have k3 := ((Blk.new w 59 #[.int .i64 7, .int .i64 m]).allocG (.cells #[.int .i64 0, .int .i64 0, .string ⟨#[]⟩] 55)).allocG (.cells #[.int .i64 0, .int .i64 0, .int .i64 0] 141)
  have g3 := (Blk.newAt (w.alloc (.cells #[.int .i64 7, .int .i64 m] 59)) 55 #[.int .i64 0, .int .i64 0, .string ⟨#[]⟩] (g := w.heap.size + 1) (by simp)).allocG (.cells #[.int .i64 0, .int .i64 0, .int .i64 0] 141)
  have c0 := k3.cell 0
  have f0 := g3.froz 0
  have f1 := g3.froz 1
  have f2 := g3.froz 2
  have d0 := g3.cell 0
  have d1 := g3.cell 1
  have d2 := g3.cell 2
  simp only [List.getElem?_toArray, List.getElem?_cons_zero, List.getElem?_cons_succ] at c0 d0 d1 d2
  have kf : Blk ((((((w.alloc (.cells #[.int .i64 7, .int .i64 m] 59)).alloc (.cells #[.int .i64 0, .int .i64 0, .string ⟨#[]⟩] 55)).alloc (.cells #[.int .i64 0, .int .i64 0, .int .i64 0] 141)).setCell ⟨w.heap.size + 1, 0, none⟩ (.int .i64 1)).setCell ⟨w.heap.size + 1, 1, none⟩ (.int .i64 0)).setCell ⟨w.heap.size + 1, 2, none⟩ (.string ⟨#[]⟩)) (w.heap.size + 1) 55 #[.int .i64 1, .int .i64 0, .string ⟨#[]⟩] := by
    simpa using ((g3.setG 0 (.int .i64 1)).setG 1 (.int .i64 0)).setG 2 (.string ⟨#[]⟩)
  have KF := Lib.hid kf
  have HB := Lib.hid b3
  clear b1 b2 b3 k3 g3 kf
  go_enter Tryz.func76, Tryz.ntmps76
  generalize hW : ((w.alloc (.cells #[.int .i64 7, .int .i64 m] 59)).alloc (.cells #[.int .i64 0, .int .i64 0, .string ⟨#[]⟩] 55)).alloc (.cells #[.int .i64 0, .int .i64 0, .int .i64 0] 141) = W2 at *
  go_wp2_with fail
  go_loopw [5, 6, 7, 9, 10, 11, 12, 13] (fun a b c d e _ _ _ wr => a = .int .i64 0 ∧ b = .int .i64 0 ∧ c = .int .i64 0 ∧ d = .slice none 0 0 ∧ e = .int .i64 0 ∧ wr = W2) (fun _ _ _ _ _ _ _ _ _ => 0)
  case atStart => exact ⟨rfl, rfl, rfl, rfl, rfl, rfl⟩
  case round =>
    obtain ⟨rfl, rfl, rfl, rfl, rfl, rfl⟩ := hrel
    go_wp2_with fail
    have r0 := KF.out.cell 0
    have r1 := KF.out.cell 1
    have r2 := KF.out.cell 2
    simp only [List.getElem?_toArray, List.getElem?_cons_zero, List.getElem?_cons_succ] at r0 r1 r2
    refine bodyPost_ret (v := valA (1, 0, ⟨#[]⟩)) (by simp [results, Tryz.results76, go_sem, r0, r1, r2, valA]) rfl ⟨rfl, ?_⟩
    exact ((HB.out.setCell (p := ⟨w.heap.size + 1, 0, none⟩) (by simp) _).setCell (p := ⟨w.heap.size + 1, 1, none⟩) (by simp) _).setCell (p := ⟨w.heap.size + 1, 2, none⟩) (by simp) _

end Go.Proofs.YtfoknllnknjccaaGreat

namespace Go.Proofs.YtfoknllnknjccaaGreat
open Go.RowKit

theorem tellK_nil {k : Int} (h : 1 ≤ k ∧ k ≤ 7) : tellK k [] = if k = 1 ∨ k = 2 ∨ k = 7 then (1, 0, ⟨#[]⟩) else (0, 0, ⟨#[]⟩) := by
  have hn : numV 0 = (1, 0, ⟨#[]⟩) := by unfold numV; rw [if_pos (by unfold validV validP; exact decide_eq_true (.inr (.inl ⟨rfl, by rw [Lib.toList_data]; rfl, by omega, by omega⟩)))]
  have hs : smTell (0, 0, 0) = v0 := by unfold smTell; simp
  have hc : k = 1 ∨ k = 2 ∨ k = 3 ∨ k = 4 ∨ k = 5 ∨ k = 6 ∨ k = 7 := by omega
  rcases hc with rfl | rfl | rfl | rfl | rfl | rfl | rfl
  · simpa [tellK] using hn
  · simpa [tellK] using hn
  · simpa [tellK] using hs
  · simp [tellK]
  · simp [tellK]
  · have : mnTell (0, 0, 0) = v0 := by unfold mnTell; rw [hs]; rfl
    simpa [tellK] using this
  · simpa [tellK] using hn
theorem tellNil_any (a : Ag) (h : 1 ≤ a.1 ∧ a.1 ≤ 7) (w : World) : Calls Tryz.prog 76 #[nAg a, .slice none 0 0] w (ValPost w (tellK a.1 [])) := by
  rw [tellK_nil h]
  obtain ⟨k, m⟩ := a
  dsimp only at h ⊢
  have hc : k = 1 ∨ k = 2 ∨ k = 3 ∨ k = 4 ∨ k = 5 ∨ k = 6 ∨ k = 7 := by omega
  rcases hc with rfl | rfl | rfl | rfl | rfl | rfl | rfl
  · exact tellNil1 m w
  · exact tellNil2 m w
  · exact tellNil3 m w
  · exact tellNil4 m w
  · exact tellNil5 m w
  · exact tellNil6 m w
  · exact tellNil7 m w
def OwnP (w : World) (ys : List Val) (e : Ending) (w' : World) : Prop := ∃ v, e = .returned v ∧ OwnsV w' w.heap.size v ys ∧ Below w.heap.size w w'
set_option maxRecDepth 100000 in
set_option maxHeartbeats 1000000 in
theorem refTellNil_any (p : Option Addr) (gs : List Ag) (c : Nat) (hl : gs.length ≤ 8) (hk : ∀ a ∈ gs, 1 ≤ a.1 ∧ a.1 ≤ 7) (w : World) (hX : AggsIn w p gs) :
    Calls Tryz.prog 47 #[.slice p gs.length c, .slice none 0 0] w (OwnP w (toldV gs [])) := by
  obtain ⟨i0, hi, hz0, hz1, hz2⟩ := info_parts infoV
  have HX := Lib.hid hX
  have HT := Lib.hid fun (i : Nat) (h : i < gs.length) W => tellNil_any (gs[i]?.getD ag0) (by rw [List.getElem?_eq_getElem h]; exact hk _ (List.getElem_mem h)) W
  have HL := Lib.hid (show (toldV gs []).length = gs.length from by simp [toldV])
  clear hX hk
  go_enter Tryz.func47, Tryz.ntmps47
  go_wp2_with fail
  go_loopw [5, 6] (fun o s wr => ∃ i : Nat, s = .int .i64 i ∧ i ≤ gs.length ∧ wr.ownsRow w.heap.size 55 3 o i (flatV (toldV (gs.take i) [])) ∧ Below w.heap.size w wr) (fun _ s _ => gs.length - (RowKit.intOf s).toNat)
  case atStart => exact ⟨0, rfl, Nat.zero_le _, World.ownsRow_nil _ _ _ _, Below.refl _ _⟩
  case round =>
    obtain ⟨i, rfl, hin, hrow, hB⟩ := hrel
    by_cases hlt : i < gs.length
    · obtain ⟨b, off, rfl, hbl, hra⟩ := HX.out (by omega)
      obtain ⟨c0, c1⟩ := (hra.belowV hB hbl) i hlt
      have hi0 : (0 : Int) ≤ (i : Int) := by omega
      have hi1 : (i : Int) < (gs.length : Int) := by omega
      have hnx := toldV_next (l := []) hlt
      have hTT := HT.out i hlt
      have etk : took (gs[i]?.getD ag0) [] = [] := rfl
      rw [etk] at hnx
      clear hra etk
      generalize gs[i]?.getD ag0 = x at c0 c1 hnx hTT
      generalize tellK x.1 [] = y at hnx hTT
      obtain ⟨x0, x1⟩ := x
      obtain ⟨y0, y1, y2⟩ := y
      have HNX := Lib.hid hnx
      have HTT := Lib.hid hTT
      have HROW := Lib.hid hrow
      have HB := Lib.hid hB
      clear hnx hTT hrow hB
      dsimp only at c0 c1
      go_wp2_with fail
      refine (HTT.out wr).mono ?_
      rintro e w1 ⟨rfl, hb1⟩
      have hB1 := HB.out.trans (hb1.mono HB.out.size)
      have hBs := hB1.size
      have hrow := owns_below HROW.out hb1
      clear hb1
      dsimp only [valA]
      go_wp2_with (at_builtin; refine wpList_append_own _ rfl _ _ 34 rfl w.heap.size 55 i0 (.agg #[.int .i64 0, .int .i64 0, .string ⟨#[]⟩]) 3 32 Tryz.underlying34 hi hz0 hz1 hz2 rfl (by decide) _ _ _ rfl (hrow.alloc _) ⟨w1.heap.size, 0, none⟩ 1 1 (cellsV (y0, y1, y2)) rfl rfl (cells_new _ _ _) (by simp [cellsV, Value.oneCell']) (by unfold maxLen; omega) (by omega) (by simp <;> omega) ?_; intro v' w5 hown' hgrow _; have hB5 : Below w.heap.size w w5 := (hB1.alloc hBs _).grown hgrow (by simp <;> omega) (fun k e => (hrow.lt k e).1))
      go_roundw
      case rel => exact ⟨i + 1, by go_num, by omega, by rw [HNX.out, flatV_app]; simpa [flatV] using hown', hB5⟩
      case measure => simp [RowKit.intOf]; omega
    · have hge : gs.length ≤ i := by omega
      have hie : i = gs.length := by omega
      have HF := Lib.hid (show wr.ownsRow w.heap.size 55 3 _ (toldV gs []).length (flatV (toldV gs [])) by have h := hrow; rw [hie, List.take_length] at h; rw [HL.out]; exact h)
      clear hie hrow
      go_wp2_with fail
      go_ret
      exact ⟨_, rfl, HF.out, hB⟩
set_option maxRecDepth 100000 in
theorem refWidthNil_any (n : Int) (w : World) : Calls Tryz.prog 55 #[.slice none 0 0, .int .i64 n] w (BelowB w true) := by
  have HV := Lib.hid (refBagValid_any none [] 0 (by simp) w (fun h => absurd h (by simp)))
  go_enter Tryz.func55, Tryz.ntmps55
  go_wp2_with fail
  go_loopw [5] (fun a wr => a = .int .i64 0 ∧ wr = w) (fun _ _ => 0)
  case atStart => exact ⟨rfl, rfl⟩
  case round =>
    obtain ⟨rfl, rfl⟩ := hrel
    go_wp2_with fail
    refine HV.out.mono ?_
    rintro e w1 ⟨rfl, hb1⟩
    go_wp2_with fail
    go_ret
    exact ⟨rfl, hb1⟩
set_option maxRecDepth 100000 in
theorem refOfNil_any (p : Option Addr) (gs : List Ag) (c : Nat) (n : Int) (hv : validL n gs = true) (hn0 : 0 ≤ n) (hn8 : n ≤ 8) (w : World) (hX : AggsIn w p gs) :
    Calls Tryz.prog 26 #[.slice p gs.length c, .int .i64 n, .slice none 0 0] w (ResPost w (toldV gs []) 0) := by
  have hl := validL_len hv
  have hk : ∀ a ∈ gs, 1 ≤ a.1 ∧ a.1 ≤ 7 := fun a ha => by
    unfold validL at hv
    rw [Bool.and_eq_true] at hv
    have := List.all_eq_true.1 hv.2 a ha
    unfold aggOK at this
    rw [decide_eq_true_eq] at this
    unfold aggP at this
    omega
  have HV := Lib.hid (refValidL_any p gs c n (by omega) w hX)
  rw [hv] at HV
  have HW := Lib.hid fun W => refWidthNil_any n W
  have HN := Lib.hid fun W => within5_any n 0 8 W
  have HH := Lib.hid fun W => refWhole_any none [] 0 (by simp) W (fun h => absurd h (by simp))
  have HT := Lib.hid fun W (h : Below w.heap.size w W) => refTellNil_any p gs c (by omega) hk W (hX.belowV h)
  clear hX hv hk hl
  go_enter Tryz.func26, Tryz.ntmps26
  go_wp2_with fail
  refine HV.out.mono ?_
  rintro e w1 ⟨rfl, hb1⟩
  go_wp2_with fail
  refine (HW.out _).mono ?_
  rintro e w2 ⟨rfl, hb2⟩
  have hnn : decide (0 ≤ n ∧ n ≤ 8) = true := decide_eq_true ⟨hn0, hn8⟩
  rw [hnn] at HN
  go_wp2_with fail
  refine (HN.out _).mono ?_
  rintro e w3 ⟨rfl, rfl⟩
  go_wp2_with fail
  refine (HH.out _).mono ?_
  rintro e w3 ⟨rfl, hb3⟩
  have hwh : wholeB (vals []) = true := rfl
  have hB3 : Below w.heap.size w w3 := (hb1.trans (hb2.mono hb1.size)).trans (hb3.mono (hb1.trans (hb2.mono hb1.size)).size)
  rw [hwh]
  clear hb1 hb2 hb3 hwh
  go_wp2_with fail
  refine (HT.out _ hB3).mono ?_
  rintro e w4 ⟨v, rfl, ho, hb4⟩
  have HZ := Lib.hid (And.intro (ownsRow_base ho hB3.size) (hB3.trans (hb4.mono hB3.size)))
  clear ho hb4 hB3
  go_wp2_with fail
  go_ret2
  exact ⟨_, rfl, HZ.out.1, HZ.out.2⟩
end Go.Proofs.YtfoknllnknjccaaGreat
