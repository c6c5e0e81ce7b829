/-
  The reader of package row: row; Parse at a row's text.
-/
import Derived.Test.YtmjobnakaamlpaaDoorRi
import Derived.LoopTactic
import Derived.Laws.AppendOwn
namespace Go.Proofs.YtmjobnakaamlpaaDoor
open Go.RowKit Go.Lib
set_option linter.unusedSimpArgs false
set_option linter.unusedVariables false

theorem cells_newR (w : World) (cs : Array Value) (t : TypeId) : ∀ (j : Nat) (u : Value), cs.toList[j]? = some u → (w.alloc (.cells cs t)).cell? ((⟨w.heap.size, 0, none⟩ : Addr).add j) = some u := fun j u h => by
  have hb : (w.alloc (.cells cs t)).heap[w.heap.size]? = some (.cells cs t (0, 0)) := heap_alloc_new w _
  rw [Go.WideShapes.add_plain]
  simp only [World.cell?, hb, Nat.zero_add]
  simpa using h
def RowPost (w : World) (R : Nat) (xs : List Val) (e : Ending) (w' : World) : Prop := ∃ v, e = .returned (.tuple #[v, .bool true]) ∧ OwnsV w' w.heap.size v xs ∧ Grew w R w'
theorem take_nextV {xs : List Val} {i : Nat} (h : i < xs.length) : xs.take (i + 1) = xs.take i ++ [xs[i]?.getD v0] := by
  rw [List.take_succ_eq_append_getElem h, List.getElem?_eq_getElem h]; rfl
theorem bs_empty {l : List UInt8} (h : l ≠ []) : ¬ (bs l).toList = [] ∧ (bs l).toList.isEmpty = false := by
  rw [ByteArray.toList_eq]
  exact ⟨h, by rw [show (bs l).data.toList = l from rfl]; simpa using h⟩
theorem bs_nil : (bs []).toList = [] ∧ (bs []).toList.isEmpty = true := by
  rw [ByteArray.toList_eq]; exact ⟨rfl, rfl⟩

set_option maxRecDepth 100000 in
set_option maxHeartbeats 4000000 in
theorem row_good (R B : Nat) (xs : List Val) (h8 : xs.length ≤ 8) (hv : validVs xs = true) (w : World) (h : Rdr w R (tailT xs)) (hE : Env B w) (hB : B ≤ R) :
    Calls Tryd.prog 19 #[.pointer (some ⟨R, 0, none⟩)] w (RowPost w R xs) := by
  obtain ⟨i0, hi, hz0, hz1, hz2⟩ := info_parts infoV
  have hRl : R < w.heap.size := Blk.lt h
  have HE := Lib.hid hE
  have HV := Lib.hid hv
  have HTK := Lib.hid fun W t (h : Rdr W R t) => take_any R t [44] W h
  unfold bs at HTK
  simp only [List.toArray] at HTK
  by_cases hnil : xs = []
  · subst hnil
    have c0 : w.cell? ⟨R, 0, none⟩ = some (.string (bs [])) := Blk.cell h 0
    have hy := bs_nil
    have HF := Lib.hid (grew_refl w R)
    generalize bs [] = y at c0 hy
    obtain ⟨y1, y2⟩ := hy
    clear h hE hv HE HV HTK
    go_enter Tryd.func19, Tryd.ntmps19
    go_wp2_with fail
    go_ret2
    exact ⟨_, rfl, World.ownsRow_nil _ _ _ _, HF.out⟩
  · have hpos : 0 < xs.length := List.length_pos_iff.2 hnil
    have hne : tailT xs ≠ [] := fun e => by
      have := tailT_at (xs := xs) (i := 0) hpos
      rw [List.drop_zero, e] at this
      have hvi : validV (xs[0]?.getD v0).1 (xs[0]?.getD v0).2.1 (xs[0]?.getD v0).2.2 = true := by
        unfold validVs at hv
        rw [List.getElem?_eq_getElem hpos]
        exact List.all_eq_true.1 hv _ (List.getElem_mem hpos)
      have := (List.append_eq_nil_iff.1 this.symm).1
      exact textV_ne hvi this
    have c0 : w.cell? ⟨R, 0, none⟩ = some (.string (bs (tailT xs))) := Blk.cell h 0
    obtain ⟨y1, y2⟩ := bs_empty hne
    have H0 := Lib.hid h
    generalize bs (tailT xs) = y at c0 y1 y2
    clear h hE hv hne hnil
    go_enter Tryd.func19, Tryd.ntmps19
    go_wp2_with fail
    go_loopw [4] (fun a wr => ∃ (i cap : Nat) (q : Option Addr), a = .slice q i cap ∧ i < xs.length ∧ Hid (OwnsV wr w.heap.size a (xs.take i)) ∧ Hid (Rdr wr R (tailT (xs.drop i))) ∧ Hid (Grew w R wr)) (fun a _ => xs.length - lenOf a)
    case atStart => exact ⟨0, 0, none, rfl, hpos, World.ownsRow_nil _ _ _ _, H0.out, grew_refl _ _⟩
    case round =>
      clear H0 c0 y1 y2
      obtain ⟨i, cap, q, rfl, hix, HO, HR, HG⟩ := hrel
      have g8 : (i : Int) < 8 := by omega
      have hvi : validV (xs[i]?.getD v0).1 (xs[i]?.getD v0).2.1 (xs[i]?.getD v0).2.2 = true := by
        have := HV.out
        unfold validVs at this
        rw [List.getElem?_eq_getElem hix]
        exact List.all_eq_true.1 this _ (List.getElem_mem hix)
      have hta := tailT_at hix
      have HTN := Lib.hid (take_nextV hix)
      have hvd : ∀ j, validVs (xs.drop j) = true := fun j => by
        have := HV.out
        unfold validVs at this ⊢
        rw [List.all_eq_true] at this ⊢
        exact fun z hz => this z (List.mem_of_mem_drop hz)
      have hdl : (tailT (xs.drop (i + 1))).length ≤ 6424 := by
        have h1 := tailT_len (hvd (i + 1))
        rw [List.length_drop] at h1
        omega
      have hdv : (xs.drop i).length = xs.length - i := List.length_drop
      generalize xs[i]?.getD v0 = x at hta hvi HTN
      obtain ⟨x0, x1, x2⟩ := x
      dsimp only at hvi
      have hRW := HR.out
      rw [hta] at hRW
      have hBW : Below B w wr := HG.out.low hB (by omega)
      have HVG := Lib.hid (fun r (hr : Tail r) (hl : r.length ≤ 50000) (hR : Rdr wr R (textV (x0, x1, x2) ++ r)) => value_good R B x0 x1 x2 hvi r hr hl wr hR (HE.out.on hBW) hB)
      have hsz : w.heap.size ≤ wr.heap.size := HG.out.size
      clear hta hvi HR hBW hvd hdv
      by_cases hlast : i + 1 = xs.length
      · rw [if_pos hlast] at hRW
        have HC := Lib.hid (HVG.out [] (.inl rfl) (Nat.zero_le _) hRW)
        clear hRW HVG
        go_wp2_with fail
        refine HC.out.mono ?_
        rintro e w2 ⟨rfl, r2, k2⟩
        have HR2 := Lib.hid (Blk.allocG r2 (.cells #[.int .i64 x0, .int .i64 x1, .string x2] 37))
        have HG2 := Lib.hid ((HG.out.and k2).and (grew_below R ((Below.refl _ w2).alloc (Nat.le_refl _) (.cells #[.int .i64 x0, .int .i64 x1, .string x2] 37))))
        have HO2 := Lib.hid (World.ownsRow.alloc (own_grew HO.out k2 (by omega)) (.cells #[.int .i64 x0, .int .i64 x1, .string x2] 37))
        have HV2 := Lib.hid (show Blk (w2.alloc (.cells #[.int .i64 x0, .int .i64 x1, .string x2] 37)) w2.heap.size 37 #[.int .i64 x0, .int .i64 x1, .string x2] from Blk.new _ _ _)
        have hs2 : w.heap.size ≤ w2.heap.size := Nat.le_trans hsz k2.size
        have hs3 : (w2.alloc (.cells #[.int .i64 x0, .int .i64 x1, .string x2] 37)).heap.size = w2.heap.size + 1 := by simp
        clear r2 k2 HC HO HG
        have HW3 := Lib.hid (rfl : w2.alloc (.cells #[.int .i64 x0, .int .i64 x1, .string x2] 37) = w2.alloc (.cells #[.int .i64 x0, .int .i64 x1, .string x2] 37))
        generalize hw3 : w2.alloc (.cells #[.int .i64 x0, .int .i64 x1, .string x2] 37) = w3 at HR2 HG2 HO2 HV2 hs3
        have d0 := HV2.out.cell 0
        have d1 := HV2.out.cell 1
        have d2 := HV2.out.cell 2
        simp only [List.getElem?_toArray, List.getElem?_cons_zero, List.getElem?_cons_succ] at d0 d1 d2
        clear HW3
        have hO3 := HO2.out
        have c0 : w3.cell? ⟨R, 0, none⟩ = some (.string (bs [])) := Blk.cell HR2.out 0
        have hy := bs_nil
        generalize bs [] = y at c0 hy
        obtain ⟨y1, y2⟩ := hy
        have hlen : (xs.take i).length = i := by rw [List.length_take]; omega
        unfold OwnsV at hO3
        rw [hlen] at hO3
        have hs4 : w.heap.size ≤ w3.heap.size := by omega
        clear hs3 hlen
        go_wp2_with (at_builtin; refine wpList_append_own _ rfl _ _ 23 rfl w.heap.size 37 i0 (.agg #[.int .i64 0, .int .i64 0, .string ⟨#[]⟩]) 3 32 Tryd.underlying23 hi hz0 hz1 hz2 rfl (by decide) _ _ _ rfl (hO3.alloc _) ⟨w3.heap.size, 0, none⟩ 1 1 [.int .i64 x0, .int .i64 x1, .string x2] rfl rfl (cells_newR _ _ _) (by simp [Value.oneCell']) (by unfold maxLen; omega) (by omega) (by simp <;> omega) ?_; intro v' w5 hown' hgrow _; have HF := Lib.hid (show w5.ownsRow w.heap.size 37 3 v' (i + 1) (flatV (xs.take (i + 1))) ∧ Below w.heap.size w3 w5 from ⟨by rw [HTN.out, flatV_app]; simpa [flatV, cellsV] using hown', ((Below.refl w.heap.size w3).alloc hs4 (.cells #[.int .i64 x0, .int .i64 x1, .string x2] 37)).grown hgrow (by simp; omega) (fun k e => (hO3.lt k e).1)⟩); have c5 : w5.cell? ⟨R, 0, none⟩ = some (.string y) := (HF.out.2.cell (p := ⟨R, 0, none⟩) hRl).trans c0; clear hown' hgrow)
        obtain ⟨q', cap', hv'⟩ := slice_of_owns HF.out.1
        subst hv'
        clear hO3
        have HXS := Lib.hid (show xs.take (i + 1) = xs by rw [hlast, List.take_length])
        have HFG := Lib.hid (grew_low HG2.out HF.out.2 (Nat.le_refl _))
        go_wp2_with fail
        go_ret2
        exact ⟨_, rfl, by have := HF.out.1; unfold OwnsV; rw [HXS.out] at this; rw [← hlast]; exact this, HFG.out⟩
      · rw [if_neg hlast] at hRW
        have HC := Lib.hid (HVG.out (44 :: tailT (xs.drop (i + 1))) (.inr ⟨_, rfl⟩) (by simp only [List.length_cons]; omega) hRW)
        clear hRW HVG
        go_wp2_with fail
        refine HC.out.mono ?_
        rintro e w2 ⟨rfl, r2, k2⟩
        have HR2 := Lib.hid (Blk.allocG r2 (.cells #[.int .i64 x0, .int .i64 x1, .string x2] 37))
        have HG2 := Lib.hid ((HG.out.and k2).and (grew_below R ((Below.refl _ w2).alloc (Nat.le_refl _) (.cells #[.int .i64 x0, .int .i64 x1, .string x2] 37))))
        have HO2 := Lib.hid (World.ownsRow.alloc (own_grew HO.out k2 (by omega)) (.cells #[.int .i64 x0, .int .i64 x1, .string x2] 37))
        have HV2 := Lib.hid (show Blk (w2.alloc (.cells #[.int .i64 x0, .int .i64 x1, .string x2] 37)) w2.heap.size 37 #[.int .i64 x0, .int .i64 x1, .string x2] from Blk.new _ _ _)
        have hs2 : w.heap.size ≤ w2.heap.size := Nat.le_trans hsz k2.size
        have hs3 : (w2.alloc (.cells #[.int .i64 x0, .int .i64 x1, .string x2] 37)).heap.size = w2.heap.size + 1 := by simp
        clear r2 k2 HC HO HG
        have HW3 := Lib.hid (rfl : w2.alloc (.cells #[.int .i64 x0, .int .i64 x1, .string x2] 37) = w2.alloc (.cells #[.int .i64 x0, .int .i64 x1, .string x2] 37))
        generalize hw3 : w2.alloc (.cells #[.int .i64 x0, .int .i64 x1, .string x2] 37) = w3 at HR2 HG2 HO2 HV2 hs3
        have d0 := HV2.out.cell 0
        have d1 := HV2.out.cell 1
        have d2 := HV2.out.cell 2
        simp only [List.getElem?_toArray, List.getElem?_cons_zero, List.getElem?_cons_succ] at d0 d1 d2
        clear HW3
        have hO3 := HO2.out
        have c0 : w3.cell? ⟨R, 0, none⟩ = some (.string (bs (44 :: tailT (xs.drop (i + 1))))) := Blk.cell HR2.out 0
        obtain ⟨y1, y2⟩ := bs_empty (l := 44 :: tailT (xs.drop (i + 1))) (by simp)
        generalize bs (44 :: tailT (xs.drop (i + 1))) = y at c0 y1 y2
        have hlen : (xs.take i).length = i := by rw [List.length_take]; omega
        unfold OwnsV at hO3
        rw [hlen] at hO3
        have hs4 : w.heap.size ≤ w3.heap.size := by omega
        clear hs3 hlen
        go_wp2_with (at_builtin; refine wpList_append_own _ rfl _ _ 23 rfl w.heap.size 37 i0 (.agg #[.int .i64 0, .int .i64 0, .string ⟨#[]⟩]) 3 32 Tryd.underlying23 hi hz0 hz1 hz2 rfl (by decide) _ _ _ rfl (hO3.alloc _) ⟨w3.heap.size, 0, none⟩ 1 1 [.int .i64 x0, .int .i64 x1, .string x2] rfl rfl (cells_newR _ _ _) (by simp [Value.oneCell']) (by unfold maxLen; omega) (by omega) (by simp <;> omega) ?_; intro v' w5 hown' hgrow _; have HF := Lib.hid (show w5.ownsRow w.heap.size 37 3 v' (i + 1) (flatV (xs.take (i + 1))) ∧ Below w.heap.size w3 w5 from ⟨by rw [HTN.out, flatV_app]; simpa [flatV, cellsV] using hown', ((Below.refl w.heap.size w3).alloc hs4 (.cells #[.int .i64 x0, .int .i64 x1, .string x2] 37)).grown hgrow (by simp; omega) (fun k e => (hO3.lt k e).1)⟩); have c5 : w5.cell? ⟨R, 0, none⟩ = some (.string y) := (HF.out.2.cell (p := ⟨R, 0, none⟩) hRl).trans c0; clear hown' hgrow)
        obtain ⟨q', cap', hv'⟩ := slice_of_owns HF.out.1
        subst hv'
        clear hO3
        have HR5 := Lib.hid (Blk.belowV HR2.out HF.out.2 (by omega))
        have hT := HTK.out w5 _ HR5.out
        have hy := trim_yes [44] (tailT (xs.drop (i + 1)))
        rw [show (44 :: tailT (xs.drop (i + 1)) : List UInt8) = [44] ++ tailT (xs.drop (i + 1)) from rfl, hy.1, hy.2] at hT
        have HT := Lib.hid hT
        have HG5 := Lib.hid (grew_low HG2.out HF.out.2 (Nat.le_refl _))
        clear hT hy
        go_wp2_with fail
        refine HT.out.mono ?_
        rintro e w6 ⟨rfl, r6, k6⟩
        have HO6 := Lib.hid (own_grew HF.out.1 k6 (by omega))
        have HG6 := Lib.hid (HG5.out.and k6)
        have HR6 := Lib.hid r6
        clear r6 k6 HT
        go_wp2_with fail
        go_roundw
        case rel => exact ⟨i + 1, _, _, rfl, by omega, Lib.hid (by unfold OwnsV; rw [show (xs.take (i + 1)).length = i + 1 by rw [List.length_take]; omega]; exact HO6.out), HR6.out, HG6.out⟩
        case measure => simp [lenOf]; omega
end Go.Proofs.YtmjobnakaamlpaaDoor
