/-
  FewChanges at one change; an argument that is a change, opened.
-/
import Derived.Test.YthoimepdioeckaaGreatDoorOpenB
import Derived.Test.YthoimepdioeckaaGreatDoorWhole
namespace Go.Proofs.YthoimepdioeckaaGreatDoor
open Go.ChangeShapes Go.WideShapes Go.ChangeAt Go.RowKit Go.Deep

def AnyBool (w : World) (e : Ending) (w' : World) : Prop := ∃ q : Bool, e = .returned (.bool q) ∧ Below w.heap.size w w'

set_option maxRecDepth 100000 in
set_option maxHeartbeats 1000000 in
theorem fewC_any (B : Nat) (t : Int) (r : RowV) (n : Int) (w : World) (hK : Blk w B 40 #[.int .i64 t, rowv r, .int .i64 n]) (hR : RowOK w r) :
    Calls Tryz.prog 9 #[.slice (some ⟨B, 0, none⟩) 1 1] w (AnyBool w) := by
  have hB0 : B < w.heap.size := hK.lt
  have HK := Lib.hid hK
  have HR := Lib.hid hR
  clear hK hR
  obtain ⟨q, xs, qc⟩ := r
  dsimp only [rowv] at *
  go_enter Tryz.func9, Tryz.ntmps9
  go_wp2_with fail
  go_loopw [3] (fun s wr => ∃ i : Nat, s = .int .i64 i ∧ i ≤ 1 ∧ Below w.heap.size w wr) (fun s _ => 1 - (intOf s).toNat)
  case atStart => exact ⟨0, rfl, by omega, Below.refl _ _⟩
  case round =>
    obtain ⟨i, rfl, hi, hBw⟩ := hrel
    by_cases hlt : i < 1
    · have hi0 : i = 0 := by omega
      subst hi0
      have K1 := HK.out.belowV hBw hB0
      have d0 := K1.cell 1
      simp only [List.getElem?_toArray, List.getElem?_cons_zero, List.getElem?_cons_succ] at d0
      clear K1
      have hbA : Below wr.heap.size wr (wr.alloc (.cells #[.slice q xs.length qc] 38)) := (Below.refl _ _).alloc (Nat.le_refl _) _
      have d2 : RowOK wr (q, xs, qc) := HR.out.belowV hBw
      have HL := Lib.hid (Long_any (some ⟨wr.heap.size, 0, none⟩) [(q, xs, qc)] 1 (by simp) (wr.alloc (.cells #[.slice q xs.length qc] 38)) (fun _ => ⟨wr.heap.size, 0, rfl, by simp, fun j hj => by
        have hj0 : j = 0 := by simp at hj; omega
        subst hj0
        exact ⟨(Blk.new wr 38 #[.slice q xs.length qc]).cell 0, d2.1, (d2.belowV hbA).2⟩⟩))
      have hBs := hBw.size
      have hBA : Below w.heap.size w (wr.alloc (.cells #[.slice q xs.length qc] 38)) := hBw.trans (hbA.mono hBs)
      clear d2
      go_wp2_with fail
      refine HL.out.mono ?_
      rintro e w1 ⟨bl, rfl, rfl⟩
      cases bl with
      | true =>
        go_wp2_with fail
        go_ret
        exact ⟨false, rfl, hBA⟩
      | false =>
        go_wp2_with fail
        go_roundw
        case rel => exact ⟨1, by go_num, by omega, hBA⟩
        case measure => simp [intOf]
    · have hie : i = 1 := by omega
      subst hie
      go_wp2_with fail
      go_ret
      exact ⟨_, rfl, hBw⟩

set_option maxRecDepth 100000 in
/-- A change as an argument. -/
theorem open_change {H : Type} {enc : TypeId × Value → H} {W : World} {base : Nat} {v : Value} {d : DataW H} {ps : List MemPlace} (hval : Value.okWide Tryz.prog W .any base 40 v)
    (h : DataW.Trod enc Tryz.prog W 0 (fun _ => true) true 40 v d ps) : ∃ (t : Int) (r : RowV) (n : Int), v = nChg (t, r, n) ∧ RowOK W r := by
  obtain ⟨cs, rfl, hsz⟩ := okWide_struct Tryz.underlying40 hval
  obtain ⟨fuel, hf⟩ := h
  obtain ⟨ys, k, hk, _, hlen, hyl, hg⟩ := DataW.trod_struct Tryz.underlying40 hf
  have ce : Tryz.prog.cellsOf 40 = 3 := by kernel_rfl
  rw [ce] at hlen hsz
  obtain ⟨l⟩ := cs
  simp only [Value.cells] at hg hlen
  match ys, hyl, l, hlen with
  | [y0, y1, y2], _, [c0, c1, c2], _ =>
    have cI : Tryz.prog.cellsOf 3 = 1 := by kernel_rfl
    have cR : Tryz.prog.cellsOf 38 = 1 := by kernel_rfl
    have g0 : DataW.trod enc Tryz.prog W 0 (fun _ => true) true k 3 (([c0, c1, c2].drop 0).take (Tryz.prog.cellsOf 3)) = some y0 := hg 0 _ rfl
    have g1 : DataW.trod enc Tryz.prog W 0 (fun _ => true) true k 38 (([c0, c1, c2].drop 1).take (Tryz.prog.cellsOf 38)) = some y1 := hg 1 _ rfl
    have g2 : DataW.trod enc Tryz.prog W 0 (fun _ => true) true k 3 (([c0, c1, c2].drop 2).take (Tryz.prog.cellsOf 3)) = some y2 := hg 2 _ rfl
    rw [cR] at g1
    rw [cI] at g0 g2
    simp only [List.drop_zero, List.take_succ_cons, List.take_zero, List.drop_succ_cons] at g0 g1 g2
    obtain ⟨n0, e0, _, _⟩ := DataW.trod_int Tryz.underlying3 g0
    obtain ⟨r, e1, hrl, hrv, _, _⟩ := open_vals g1
    obtain ⟨n2, e2, _, _⟩ := DataW.trod_int Tryz.underlying3 g2
    simp only [List.cons.injEq, and_true] at e0 e1 e2
    subst e0 e1 e2
    exact ⟨n0, r, n2, rfl, Nat.le_trans hrl (by decide), hrv⟩
end Go.Proofs.YthoimepdioeckaaGreatDoor
