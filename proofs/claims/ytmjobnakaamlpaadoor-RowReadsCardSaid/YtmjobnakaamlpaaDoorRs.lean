/-
  The reader of package row at any text: row.
-/
import Derived.Test.YtmjobnakaamlpaaDoorRr
namespace Go.Proofs.YtmjobnakaamlpaaDoor
open Go.RowKit Go.Lib
set_option linter.unusedSimpArgs false
set_option linter.unusedVariables false

def RowsPost (w : World) (R : Nat) (e : Ending) (w' : World) : Prop := ∃ (v : Value) (b : Bool) (xs : List Val), e = .returned (.tuple #[v, .bool b]) ∧ OwnsV w' w.heap.size v xs ∧ Grew w R w'
theorem bs_ends (l : List UInt8) : (bs l).toList.isEmpty = l.isEmpty ∧ ((bs l).toList = [] ↔ l = []) := by
  rw [ByteArray.toList_eq]
  exact ⟨rfl, Iff.rfl⟩

set_option maxRecDepth 100000 in
set_option maxHeartbeats 4000000 in
theorem row_any (R B : Nat) (t : List UInt8) (ht : t ≠ []) (hl : t.length ≤ 70000) (w : World) (h : Rdr w R t) (hE : Env B w) (hB : B ≤ R) :
    Calls Tryd.prog 19 #[.pointer (some ⟨R, 0, none⟩)] w (RowsPost w R) := by
  obtain ⟨i0, hi, hz0, hz1, hz2⟩ := info_parts infoV
  have hRl : R < w.heap.size := Blk.lt h
  have HVA := Lib.hid fun W t' (h : Rdr W R t') (hl : t'.length ≤ 70000) (k : Below B w W) => value_any R B t' hl W h (hE.on k) hB
  have HTK := Lib.hid fun W t (h : Rdr W R t) => take_any R t [44] W h
  unfold bs at HTK
  simp only [List.toArray] at HTK
  have c0 : w.cell? ⟨R, 0, none⟩ = some (.string (bs t)) := Blk.cell h 0
  obtain ⟨y1, y2⟩ := bs_empty ht
  have H0 := Lib.hid h
  have HLL := Lib.hid hl
  generalize bs t = y at c0 y1 y2
  clear h hE ht hl
  go_enter Tryd.func19, Tryd.ntmps19
  go_wp2_with fail
  go_loopw [4] (fun a wr => ∃ (xs : List Val) (cap : Nat) (q : Option Addr) (t' : List UInt8), a = .slice q xs.length cap ∧ xs.length ≤ 8 ∧ Hid (t'.length ≤ 70000) ∧ Hid (OwnsV wr w.heap.size a xs) ∧ Hid (Rdr wr R t') ∧ Hid (Grew w R wr)) (fun a _ => 8 - lenOf a)
  case atStart => exact ⟨[], 0, none, t, rfl, Nat.zero_le _, HLL.out, World.ownsRow_nil _ _ _ _, H0.out, grew_refl _ _⟩
  case round =>
    clear H0 c0 y1 y2 HLL
    obtain ⟨xs, cap, q, t', rfl, h8, HTL, HO, HR, HG⟩ := hrel
    have hsz : w.heap.size ≤ wr.heap.size := HG.out.size
    by_cases hlt : xs.length < 8
    · have g8 : (xs.length : Int) < 8 := by omega
      have HC := Lib.hid (HVA.out wr t' HR.out HTL.out (HG.out.low hB (by omega)))
      clear HR HVA
      go_wp2_with fail
      refine HC.out.mono ?_
      rintro e w2 ⟨x0, x1, x2, b, t2, rfl, r2, l2, _, k2⟩
      have HR2 := Lib.hid (Blk.allocG r2 (.cells #[.int .i64 x0, .int .i64 x1, .string x2] 37))
      have HG2 := Lib.hid ((HG.out.and k2).and (grew_below R ((Below.refl _ w2).alloc (Nat.le_refl _) (.cells #[.int .i64 x0, .int .i64 x1, .string x2] 37))))
      have HO2 := Lib.hid (World.ownsRow.alloc (own_grew HO.out k2 (by omega)) (.cells #[.int .i64 x0, .int .i64 x1, .string x2] 37))
      have HV2 := Lib.hid (show Blk (w2.alloc (.cells #[.int .i64 x0, .int .i64 x1, .string x2] 37)) w2.heap.size 37 #[.int .i64 x0, .int .i64 x1, .string x2] from Blk.new _ _ _)
      have hs2 : w.heap.size ≤ w2.heap.size := Nat.le_trans hsz k2.size
      have HL2 := Lib.hid (show t2.length ≤ 70000 by have := HTL.out; omega)
      clear r2 k2 HC HO HG l2 HTL
      cases b with
      | false =>
        clear HTK HV2 HR2 HO2
        go_wp2_with fail
        go_ret2
        exact ⟨_, false, [], rfl, World.ownsRow_nil _ _ _ _, HG2.out⟩
      | true =>
        have hs3 : (w2.alloc (.cells #[.int .i64 x0, .int .i64 x1, .string x2] 37)).heap.size = w2.heap.size + 1 := by simp
        generalize hw3 : w2.alloc (.cells #[.int .i64 x0, .int .i64 x1, .string x2] 37) = w3 at HR2 HG2 HO2 HV2 hs3
        have d0 := HV2.out.cell 0
        have d1 := HV2.out.cell 1
        have d2 := HV2.out.cell 2
        simp only [List.getElem?_toArray, List.getElem?_cons_zero, List.getElem?_cons_succ] at d0 d1 d2
        have hO3 := HO2.out
        have c0 : w3.cell? ⟨R, 0, none⟩ = some (.string (bs t2)) := Blk.cell HR2.out 0
        have hs4 : w.heap.size ≤ w3.heap.size := by omega
        by_cases hn : t2 = []
        · subst hn
          have hy := bs_nil
          generalize bs [] = y at c0 hy
          obtain ⟨y1, y2⟩ := hy
          clear hs3
          go_wp2_with (at_builtin; refine wpList_append_own _ rfl _ _ 23 rfl w.heap.size 37 i0 (.agg #[.int .i64 0, .int .i64 0, .string ⟨#[]⟩]) 3 32 Tryd.underlying23 hi hz0 hz1 hz2 rfl (by decide) _ _ _ rfl (World.ownsRow.alloc hO3 _) ⟨w3.heap.size, 0, none⟩ 1 1 [.int .i64 x0, .int .i64 x1, .string x2] rfl rfl (cells_newR _ _ _) (by simp [Value.oneCell']) (by unfold maxLen; omega) (by omega) (by simp <;> omega) ?_; intro v' w5 hown' hgrow _; have HF := Lib.hid (show w5.ownsRow w.heap.size 37 3 v' (xs.length + 1) (flatV (xs ++ [(x0, x1, x2)])) ∧ Below w.heap.size w3 w5 from ⟨by rw [flatV_app]; simpa [flatV, cellsV] using hown', ((Below.refl w.heap.size w3).alloc hs4 (.cells #[.int .i64 x0, .int .i64 x1, .string x2] 37)).grown hgrow (by simp; omega) (fun k e => (World.ownsRow.lt hO3 k e).1)⟩); have c5 : w5.cell? ⟨R, 0, none⟩ = some (.string y) := (HF.out.2.cell (p := ⟨R, 0, none⟩) hRl).trans c0; clear hown' hgrow)
          obtain ⟨q', cap', hv'⟩ := slice_of_owns HF.out.1
          subst hv'
          have HFG := Lib.hid (grew_low HG2.out HF.out.2 (Nat.le_refl _))
          clear hO3
          go_wp2_with fail
          go_ret2
          exact ⟨_, true, xs ++ [(x0, x1, x2)], rfl, by have := HF.out.1; unfold OwnsV; rw [List.length_append]; exact this, HFG.out⟩
        · obtain ⟨y1, y2⟩ := bs_empty hn
          generalize bs t2 = y at c0 y1 y2
          clear hs3
          go_wp2_with (at_builtin; refine wpList_append_own _ rfl _ _ 23 rfl w.heap.size 37 i0 (.agg #[.int .i64 0, .int .i64 0, .string ⟨#[]⟩]) 3 32 Tryd.underlying23 hi hz0 hz1 hz2 rfl (by decide) _ _ _ rfl (World.ownsRow.alloc hO3 _) ⟨w3.heap.size, 0, none⟩ 1 1 [.int .i64 x0, .int .i64 x1, .string x2] rfl rfl (cells_newR _ _ _) (by simp [Value.oneCell']) (by unfold maxLen; omega) (by omega) (by simp <;> omega) ?_; intro v' w5 hown' hgrow _; have HF := Lib.hid (show w5.ownsRow w.heap.size 37 3 v' (xs.length + 1) (flatV (xs ++ [(x0, x1, x2)])) ∧ Below w.heap.size w3 w5 from ⟨by rw [flatV_app]; simpa [flatV, cellsV] using hown', ((Below.refl w.heap.size w3).alloc hs4 (.cells #[.int .i64 x0, .int .i64 x1, .string x2] 37)).grown hgrow (by simp; omega) (fun k e => (World.ownsRow.lt hO3 k e).1)⟩); have c5 : w5.cell? ⟨R, 0, none⟩ = some (.string y) := (HF.out.2.cell (p := ⟨R, 0, none⟩) hRl).trans c0; clear hown' hgrow)
          obtain ⟨q', cap', hv'⟩ := slice_of_owns HF.out.1
          subst hv'
          clear hO3
          have HR5 := Lib.hid (Blk.belowV HR2.out HF.out.2 (by omega))
          have HT := Lib.hid (HTK.out w5 t2 HR5.out)
          have HG5 := Lib.hid (grew_low HG2.out HF.out.2 (Nat.le_refl _))
          have HL6 := Lib.hid (trim_len t2 [44])
          generalize Lib.trimPrefix t2 [44] = t3 at HT HL6
          generalize Lib.hasPrefix t2 [44] = b2 at HT
          go_wp2_with fail
          refine HT.out.mono ?_
          rintro e w6 ⟨rfl, r6, k6⟩
          have HO6 := Lib.hid (own_grew HF.out.1 k6 (by omega))
          have HG6 := Lib.hid (HG5.out.and k6)
          have HR6 := Lib.hid r6
          clear r6 k6 HT
          cases b2 with
          | false =>
            go_wp2_with fail
            go_ret2
            exact ⟨_, false, [], rfl, World.ownsRow_nil _ _ _ _, HG6.out⟩
          | true =>
            go_wp2_with fail
            go_roundw
            case rel => exact ⟨xs ++ [(x0, x1, x2)], cap', q', t3, by simp, by simp; omega, Lib.hid (by have := HL2.out; have := HL6.out; omega), Lib.hid (by unfold OwnsV; rw [List.length_append]; exact HO6.out), HR6.out, HG6.out⟩
            case measure => simp [lenOf]; omega
    · have g8 : ¬ (xs.length : Int) < 8 := by omega
      clear HVA HTK HR HO
      go_wp2_with fail
      go_ret2
      exact ⟨_, false, [], rfl, World.ownsRow_nil _ _ _ _, HG.out⟩
end Go.Proofs.YtmjobnakaamlpaaDoor
