/-
  Several texts in one.
-/
import Derived.Test.YtledgnolmiecfaaGreatDoorJA
import Derived.Test.YtledgnolmiecfaaGreatDoorFlat
import Derived.LoopTactic
import Derived.Laws.AppendOwn
/-!
  A row's text, plain: what the reader finds in it, value by value; a value that is read, as a contract.
-/
namespace Go.Proofs.YtledgnolmiecfaaGreatDoor
open Go.RowKit Go.Lib
set_option linter.unusedSimpArgs false
set_option linter.unusedVariables false

/-- What stands behind a value: nothing, or a comma. -/
def Tail (r : List UInt8) : Prop := r = [] ∨ ∃ r', r = 44 :: r'
theorem cut_tail {a r : List UInt8} (h : ∀ c ∈ a, c ≠ 44) (hr : Tail r) : (Lib.cut (a ++ r) [44]).1 = a := by
  rcases hr with rfl | ⟨r', rfl⟩
  · rw [List.append_nil]
    have hi : Lib.index a [44] = -1 := by
      refine index_none fun j hj => ?_
      unfold occAt
      cases hd : a.drop j with
      | nil => rfl
      | cons c q =>
        have hc : c ∈ a := List.mem_of_mem_drop (by rw [hd]; simp : c ∈ a.drop j)
        simp only [List.isPrefixOf, Bool.and_true]
        rw [beq_eq_false_iff_ne]
        exact fun e => h c hc e.symm
    unfold Lib.cut
    rw [hi, if_neg (by decide)]
  · have hi : Lib.index (a ++ 44 :: r') [44] = a.length := by
      refine index_first (by simp) ?_ ?_
      · simp [occAt, List.isPrefixOf]
      · intro j hj
        have hd : (a ++ 44 :: r').drop j = a[j] :: (a ++ 44 :: r').drop (j + 1) := by
          rw [List.drop_eq_getElem_cons (by simp; omega), List.getElem_append_left hj]
        unfold occAt
        rw [hd]
        have := h a[j] (List.getElem_mem hj)
        simp only [List.isPrefixOf, Bool.and_true]
        rw [beq_eq_false_iff_ne]
        exact fun e => this e.symm
    unfold Lib.cut
    rw [hi, if_pos (by omega), Int.toNat_natCast, List.take_left]
theorem cut_quote (q : List UInt8) : ∃ q', (Lib.cut (34 :: q) [44]).1 = 34 :: q' := by
  unfold Lib.cut
  split
  · rename_i h
    rcases index_spec (34 :: q) [44] with ⟨e, _⟩ | ⟨i, e, _, ho, _⟩
    · omega
    · rw [e, Int.toNat_natCast]
      cases i with
      | zero => simp [occAt, List.isPrefixOf] at ho
      | succ i => exact ⟨q.take i, rfl⟩
  · exact ⟨q, rfl⟩
theorem itoa_ne {n : Int} (h0 : -1000000000000000000 < n) (h1 : n < 1000000000000000000) : itoa n ≠ [] := fun e => by
  have := atoi_itoa h0 h1
  rw [e] at this
  cases this
theorem itoa_comma (n : Int) : ∀ c ∈ itoa n, c ≠ 44 := fun c hc e => by
  have := itoa_byte n c hc
  subst e
  exact absurd this (by decide)
theorem itoa_tilde {n : Int} (h0 : -1000000000000000000 < n) (h1 : n < 1000000000000000000) (r : List UInt8) : Lib.hasPrefix (itoa n ++ r) [126] = false := by
  have hb := itoa_byte n
  cases h : itoa n with
  | nil => exact absurd h (itoa_ne h0 h1)
  | cons c q =>
    have := hb c (by rw [h]; simp)
    have e1 : (126 : UInt8) ≠ c := fun e => by subst e; exact absurd this (by decide)
    unfold Lib.hasPrefix
    simp [List.isPrefixOf, e1]
theorem quoted_tilde (l r : List UInt8) : Lib.hasPrefix (quoted l ++ r) [126] = false := by
  unfold Lib.hasPrefix quoted
  simp [List.isPrefixOf]
theorem empty_of {s : ByteArray} (h : s.toList.isEmpty = true) : s = ⟨#[]⟩ := by
  rw [ByteArray.toList_eq] at h
  have h2 : s.data.toList = [] := by simpa using h
  cases s with
  | mk d => rw [ByteArray.mk.injEq]; exact Array.toList_inj.1 h2
theorem bs_back (s : ByteArray) : bs s.data.toList = s := by cases s; simp [bs]

theorem value_good (R B : Nat) (x0 x1 : Int) (x2 : ByteArray) (hv : validV x0 x1 x2 = true) (r : List UInt8) (ht : Tail r) (hr : r.length ≤ 50000) (w : World) (h : Rdr w R (textV (x0, x1, x2) ++ r)) (hE : Env B w) (hB : B ≤ R) :
    Calls Tryz.prog 82 #[.pointer (some ⟨R, 0, none⟩)] w (RdPost w R (.tuple #[.agg #[.int .i64 x0, .int .i64 x1, .string x2], .bool true]) r) := by
  have hv' : validP x0 x1 x2 := of_decide_eq_true hv
  have hvl := textV_lenR hv
  have hlen : (textV (x0, x1, x2) ++ r).length ≤ 70000 := by rw [List.length_append]; omega
  rcases hv' with ⟨rfl, rfl, he⟩ | ⟨rfl, he, h1, h2⟩ | ⟨rfl, rfl, h2⟩
  · obtain rfl := empty_of he
    have e : textV ((0 : Int), (0 : Int), (⟨#[]⟩ : ByteArray)) ++ r = [126] ++ r := rfl
    rw [e] at h
    have hy := trim_yes [126] r
    refine value_0 R B _ r 0 0 ⟨#[]⟩ w h hB fun W hW hb => ?_
    have := null_any R _ W hW
    rwa [hy.1, hy.2] at this
  · obtain rfl := empty_of he
    have e : textV ((1 : Int), x1, (⟨#[]⟩ : ByteArray)) ++ r = itoa x1 ++ r := rfl
    rw [e] at h hlen
    have hp := itoa_tilde (n := x1) (by omega) (by omega) r
    refine value_1 R B _ r 1 x1 ⟨#[]⟩ w h hB (fun W hW hb => ?_) (fun W hW hb => ?_)
    · have := null_any R _ W hW
      rwa [hp, trim_no hp] at this
    · exact number_good R B _ hlen x1 r rfl (cut_tail (itoa_comma x1) ht) (wordNum_itoa (by omega) (by omega)) W hW (hE.on hb) hB
  · have e : textV ((2 : Int), (0 : Int), x2) ++ r = quoted x2.data.toList ++ r := rfl
    rw [e] at h hlen
    have hp := quoted_tilde x2.data.toList r
    refine value_2 R B _ r 2 0 x2 w h hB (fun W hW hb => ?_) (fun W hW hb => ?_) (fun W hW hb => ?_)
    · have := null_any R _ W hW
      rwa [hp, trim_no hp] at this
    · refine number_bad R B _ hlen ?_ W hW (hE.on hb) hB
      obtain ⟨q', hq⟩ := cut_quote (x2.data.toList.flatMap qB ++ [34] ++ r)
      have e2 : quoted x2.data.toList ++ r = 34 :: (x2.data.toList.flatMap qB ++ [34] ++ r) := by unfold quoted; simp
      rw [e2, hq]
      exact wordNum_quote q'
    · have hl0 : x2.data.toList.length = x2.size := by simp
      have hl : x2.data.toList.length ≤ 200 := by omega
      have := quoted_good R x2.data.toList r hl (by omega) W hW
      rwa [bs_back] at this
/-- The texts of values, behind one another. -/
def tailT : List Val → List UInt8
  | [] => []
  | x :: r => textV x ++ (if r = [] then [] else 44 :: tailT r)
def restT (xs : List Val) (i : Nat) : List UInt8 := if i = xs.length ∨ i = 0 then tailT (xs.drop i) else 44 :: tailT (xs.drop i)
theorem tailT_at {xs : List Val} {i : Nat} (h : i < xs.length) : tailT (xs.drop i) = textV (xs[i]?.getD v0) ++ (if i + 1 = xs.length then [] else 44 :: tailT (xs.drop (i + 1))) := by
  rw [List.drop_eq_getElem_cons h, List.getElem?_eq_getElem h]
  show textV xs[i] ++ (if xs.drop (i + 1) = [] then [] else 44 :: tailT (xs.drop (i + 1))) = _
  by_cases he : i + 1 = xs.length
  · rw [if_pos he, if_pos (by rw [he, List.drop_length])]; rfl
  · rw [if_neg he, if_neg (by
      intro e
      have := congrArg List.length e
      rw [List.length_drop] at this
      simp only [List.length_nil] at this
      omega)]
    rfl
theorem text_rest (xs : List Val) : ∀ i, i ≤ xs.length → textN xs i ++ restT xs i = tailT xs
  | 0, _ => by unfold restT; rw [if_pos (.inr rfl)]; rfl
  | i + 1, hi => by
    have ih := text_rest xs i (by omega)
    rw [← ih]
    show textN xs i ++ sepT i ++ textV (xs[i]?.getD v0) ++ restT xs (i + 1) = _
    have ht := tailT_at (xs := xs) (i := i) (by omega)
    have h1 : restT xs (i + 1) = if i + 1 = xs.length then [] else 44 :: tailT (xs.drop (i + 1)) := by
      unfold restT
      by_cases he : i + 1 = xs.length
      · rw [if_pos (.inl he), if_pos he, he, List.drop_length]; rfl
      · rw [if_neg (by omega), if_neg he]
    have h2 : restT xs i = sepT i ++ tailT (xs.drop i) := by
      unfold restT sepT
      by_cases h0 : i = 0
      · rw [if_pos (.inr h0), if_pos h0]; rfl
      · rw [if_neg (by omega), if_neg h0]; rfl
    rw [h1, h2, ht]
    simp [List.append_assoc]
theorem textR_tail (xs : List Val) : textR xs = tailT xs := by
  have := text_rest xs xs.length (Nat.le_refl _)
  unfold restT at this
  rw [if_pos (.inl rfl), List.drop_length] at this
  simpa [tailT, textR] using this
theorem tailT_len {xs : List Val} (hv : validVs xs = true) : (tailT xs).length ≤ 803 * xs.length := by
  induction xs with
  | nil => exact Nat.zero_le _
  | cons x r ih =>
    unfold validVs at hv ih
    rw [List.all_cons, Bool.and_eq_true] at hv
    have h1 := textV_lenR (x0 := x.1) (x1 := x.2.1) (x2 := x.2.2) hv.1
    have h2 := ih hv.2
    show (textV x ++ (if r = [] then [] else 44 :: tailT r)).length ≤ _
    rw [List.length_append]
    have h1' : (textV x).length ≤ 802 := h1
    split
    · simp only [List.length_nil, List.length_cons]; omega
    · simp only [List.length_cons]; omega
theorem textV_ne {x0 x1 : Int} {x2 : ByteArray} (hv : validV x0 x1 x2 = true) : textV (x0, x1, x2) ≠ [] := by
  have hv' : validP x0 x1 x2 := of_decide_eq_true hv
  rcases hv' with ⟨rfl, rfl, he⟩ | ⟨rfl, he, h1, h2⟩ | ⟨rfl, rfl, h2⟩
  · exact (by decide : ([126] : List UInt8) ≠ [])
  · exact itoa_ne (n := x1) (by omega) (by omega)
  · exact fun e => by
      have : quoted x2.data.toList = [] := e
      unfold quoted at this
      cases this
end Go.Proofs.YtledgnolmiecfaaGreatDoor

/-!
  The reader of package row: row; Parse at a row's text.
-/
namespace Go.Proofs.YtledgnolmiecfaaGreatDoor
open Go.RowKit Go.Lib
set_option linter.unusedSimpArgs false
set_option linter.unusedVariables false

theorem cells_newR (w : World) (cs : Array Value) (t : TypeId) : ∀ (j : Nat) (u : Value), cs.toList[j]? = some u → (w.alloc (.cells cs t)).cell? ((⟨w.heap.size, 0, none⟩ : Addr).add j) = some u := fun j u h => by
  have hb : (w.alloc (.cells cs t)).heap[w.heap.size]? = some (.cells cs t (0, 0)) := heap_alloc_new w _
  rw [Go.WideShapes.add_plain]
  simp only [World.cell?, hb, Nat.zero_add]
  simpa using h
def RowPost (w : World) (R : Nat) (xs : List Val) (e : Ending) (w' : World) : Prop := ∃ v, e = .returned (.tuple #[v, .bool true]) ∧ OwnsV w' w.heap.size v xs ∧ Grew w R w'
theorem take_nextV {xs : List Val} {i : Nat} (h : i < xs.length) : xs.take (i + 1) = xs.take i ++ [xs[i]?.getD v0] := by
  rw [List.take_succ_eq_append_getElem h, List.getElem?_eq_getElem h]; rfl
theorem bs_empty {l : List UInt8} (h : l ≠ []) : ¬ (bs l).toList = [] ∧ (bs l).toList.isEmpty = false := by
  rw [ByteArray.toList_eq]
  exact ⟨h, by rw [show (bs l).data.toList = l from rfl]; simpa using h⟩
theorem bs_nil : (bs []).toList = [] ∧ (bs []).toList.isEmpty = true := by
  rw [ByteArray.toList_eq]; exact ⟨rfl, rfl⟩

set_option maxRecDepth 100000 in
set_option maxHeartbeats 4000000 in
theorem row_good (R B : Nat) (xs : List Val) (h8 : xs.length ≤ 8) (hv : validVs xs = true) (w : World) (h : Rdr w R (tailT xs)) (hE : Env B w) (hB : B ≤ R) :
    Calls Tryz.prog 59 #[.pointer (some ⟨R, 0, none⟩)] w (RowPost w R xs) := by
  obtain ⟨i0, hi, hz0, hz1, hz2⟩ := info_parts infoV
  have hRl : R < w.heap.size := Blk.lt h
  have HE := Lib.hid hE
  have HV := Lib.hid hv
  have HTK := Lib.hid fun W t (h : Rdr W R t) => take_any R t [44] W h
  unfold bs at HTK
  simp only [List.toArray] at HTK
  by_cases hnil : xs = []
  · subst hnil
    have c0 : w.cell? ⟨R, 0, none⟩ = some (.string (bs [])) := Blk.cell h 0
    have hy := bs_nil
    have HF := Lib.hid (grew_refl w R)
    generalize bs [] = y at c0 hy
    obtain ⟨y1, y2⟩ := hy
    clear h hE hv HE HV HTK
    go_enter Tryz.func59, Tryz.ntmps59
    go_wp2_with fail
    go_ret2
    exact ⟨_, rfl, World.ownsRow_nil _ _ _ _, HF.out⟩
  · have hpos : 0 < xs.length := List.length_pos_iff.2 hnil
    have hne : tailT xs ≠ [] := fun e => by
      have := tailT_at (xs := xs) (i := 0) hpos
      rw [List.drop_zero, e] at this
      have hvi : validV (xs[0]?.getD v0).1 (xs[0]?.getD v0).2.1 (xs[0]?.getD v0).2.2 = true := by
        unfold validVs at hv
        rw [List.getElem?_eq_getElem hpos]
        exact List.all_eq_true.1 hv _ (List.getElem_mem hpos)
      have := (List.append_eq_nil_iff.1 this.symm).1
      exact textV_ne hvi this
    have c0 : w.cell? ⟨R, 0, none⟩ = some (.string (bs (tailT xs))) := Blk.cell h 0
    obtain ⟨y1, y2⟩ := bs_empty hne
    have H0 := Lib.hid h
    generalize bs (tailT xs) = y at c0 y1 y2
    clear h hE hv hne hnil
    go_enter Tryz.func59, Tryz.ntmps59
    go_wp2_with fail
    go_loopw [4] (fun a wr => ∃ (i cap : Nat) (q : Option Addr), a = .slice q i cap ∧ i < xs.length ∧ Hid (OwnsV wr w.heap.size a (xs.take i)) ∧ Hid (Rdr wr R (tailT (xs.drop i))) ∧ Hid (Grew w R wr)) (fun a _ => xs.length - lenOf a)
    case atStart => exact ⟨0, 0, none, rfl, hpos, World.ownsRow_nil _ _ _ _, H0.out, grew_refl _ _⟩
    case round =>
      clear H0 c0 y1 y2
      obtain ⟨i, cap, q, rfl, hix, HO, HR, HG⟩ := hrel
      have g8 : (i : Int) < 8 := by omega
      have hvi : validV (xs[i]?.getD v0).1 (xs[i]?.getD v0).2.1 (xs[i]?.getD v0).2.2 = true := by
        have := HV.out
        unfold validVs at this
        rw [List.getElem?_eq_getElem hix]
        exact List.all_eq_true.1 this _ (List.getElem_mem hix)
      have hta := tailT_at hix
      have HTN := Lib.hid (take_nextV hix)
      have hvd : ∀ j, validVs (xs.drop j) = true := fun j => by
        have := HV.out
        unfold validVs at this ⊢
        rw [List.all_eq_true] at this ⊢
        exact fun z hz => this z (List.mem_of_mem_drop hz)
      have hdl : (tailT (xs.drop (i + 1))).length ≤ 6424 := by
        have h1 := tailT_len (hvd (i + 1))
        rw [List.length_drop] at h1
        omega
      have hdv : (xs.drop i).length = xs.length - i := List.length_drop
      generalize xs[i]?.getD v0 = x at hta hvi HTN
      obtain ⟨x0, x1, x2⟩ := x
      dsimp only at hvi
      have hRW := HR.out
      rw [hta] at hRW
      have hBW : Below B w wr := HG.out.low hB (by omega)
      have HVG := Lib.hid (fun r (hr : Tail r) (hl : r.length ≤ 50000) (hR : Rdr wr R (textV (x0, x1, x2) ++ r)) => value_good R B x0 x1 x2 hvi r hr hl wr hR (HE.out.on hBW) hB)
      have hsz : w.heap.size ≤ wr.heap.size := HG.out.size
      clear hta hvi HR hBW hvd hdv
      by_cases hlast : i + 1 = xs.length
      · rw [if_pos hlast] at hRW
        have HC := Lib.hid (HVG.out [] (.inl rfl) (Nat.zero_le _) hRW)
        clear hRW HVG
        go_wp2_with fail
        refine HC.out.mono ?_
        rintro e w2 ⟨rfl, r2, k2⟩
        have HR2 := Lib.hid (Blk.allocG r2 (.cells #[.int .i64 x0, .int .i64 x1, .string x2] 40))
        have HG2 := Lib.hid ((HG.out.and k2).and (grew_below R ((Below.refl _ w2).alloc (Nat.le_refl _) (.cells #[.int .i64 x0, .int .i64 x1, .string x2] 40))))
        have HO2 := Lib.hid (World.ownsRow.alloc (own_grew HO.out k2 (by omega)) (.cells #[.int .i64 x0, .int .i64 x1, .string x2] 40))
        have HV2 := Lib.hid (show Blk (w2.alloc (.cells #[.int .i64 x0, .int .i64 x1, .string x2] 40)) w2.heap.size 40 #[.int .i64 x0, .int .i64 x1, .string x2] from Blk.new _ _ _)
        have hs2 : w.heap.size ≤ w2.heap.size := Nat.le_trans hsz k2.size
        have hs3 : (w2.alloc (.cells #[.int .i64 x0, .int .i64 x1, .string x2] 40)).heap.size = w2.heap.size + 1 := by simp
        clear r2 k2 HC HO HG
        have HW3 := Lib.hid (rfl : w2.alloc (.cells #[.int .i64 x0, .int .i64 x1, .string x2] 40) = w2.alloc (.cells #[.int .i64 x0, .int .i64 x1, .string x2] 40))
        generalize hw3 : w2.alloc (.cells #[.int .i64 x0, .int .i64 x1, .string x2] 40) = w3 at HR2 HG2 HO2 HV2 hs3
        have d0 := HV2.out.cell 0
        have d1 := HV2.out.cell 1
        have d2 := HV2.out.cell 2
        simp only [List.getElem?_toArray, List.getElem?_cons_zero, List.getElem?_cons_succ] at d0 d1 d2
        clear HW3
        have hO3 := HO2.out
        have c0 : w3.cell? ⟨R, 0, none⟩ = some (.string (bs [])) := Blk.cell HR2.out 0
        have hy := bs_nil
        generalize bs [] = y at c0 hy
        obtain ⟨y1, y2⟩ := hy
        have hlen : (xs.take i).length = i := by rw [List.length_take]; omega
        unfold OwnsV at hO3
        rw [hlen] at hO3
        have hs4 : w.heap.size ≤ w3.heap.size := by omega
        clear hs3 hlen
        go_wp2_with (at_builtin; refine wpList_append_own _ rfl _ _ 36 rfl w.heap.size 40 i0 (.agg #[.int .i64 0, .int .i64 0, .string ⟨#[]⟩]) 3 32 Tryz.underlying36 hi hz0 hz1 hz2 rfl (by decide) _ _ _ rfl (hO3.alloc _) ⟨w3.heap.size, 0, none⟩ 1 1 [.int .i64 x0, .int .i64 x1, .string x2] rfl rfl (cells_newR _ _ _) (by simp [Value.oneCell']) (by unfold maxLen; omega) (by omega) (by simp <;> omega) ?_; intro v' w5 hown' hgrow _; have HF := Lib.hid (show w5.ownsRow w.heap.size 40 3 v' (i + 1) (flatV (xs.take (i + 1))) ∧ Below w.heap.size w3 w5 from ⟨by rw [HTN.out, flatV_app]; simpa [flatV, cellsV] using hown', ((Below.refl w.heap.size w3).alloc hs4 (.cells #[.int .i64 x0, .int .i64 x1, .string x2] 40)).grown hgrow (by simp; omega) (fun k e => (hO3.lt k e).1)⟩); have c5 : w5.cell? ⟨R, 0, none⟩ = some (.string y) := (HF.out.2.cell (p := ⟨R, 0, none⟩) hRl).trans c0; clear hown' hgrow)
        obtain ⟨q', cap', hv'⟩ := slice_of_owns HF.out.1
        subst hv'
        clear hO3
        have HXS := Lib.hid (show xs.take (i + 1) = xs by rw [hlast, List.take_length])
        have HFG := Lib.hid (grew_low HG2.out HF.out.2 (Nat.le_refl _))
        go_wp2_with fail
        go_ret2
        exact ⟨_, rfl, by have := HF.out.1; unfold OwnsV; rw [HXS.out] at this; rw [← hlast]; exact this, HFG.out⟩
      · rw [if_neg hlast] at hRW
        have HC := Lib.hid (HVG.out (44 :: tailT (xs.drop (i + 1))) (.inr ⟨_, rfl⟩) (by simp only [List.length_cons]; omega) hRW)
        clear hRW HVG
        go_wp2_with fail
        refine HC.out.mono ?_
        rintro e w2 ⟨rfl, r2, k2⟩
        have HR2 := Lib.hid (Blk.allocG r2 (.cells #[.int .i64 x0, .int .i64 x1, .string x2] 40))
        have HG2 := Lib.hid ((HG.out.and k2).and (grew_below R ((Below.refl _ w2).alloc (Nat.le_refl _) (.cells #[.int .i64 x0, .int .i64 x1, .string x2] 40))))
        have HO2 := Lib.hid (World.ownsRow.alloc (own_grew HO.out k2 (by omega)) (.cells #[.int .i64 x0, .int .i64 x1, .string x2] 40))
        have HV2 := Lib.hid (show Blk (w2.alloc (.cells #[.int .i64 x0, .int .i64 x1, .string x2] 40)) w2.heap.size 40 #[.int .i64 x0, .int .i64 x1, .string x2] from Blk.new _ _ _)
        have hs2 : w.heap.size ≤ w2.heap.size := Nat.le_trans hsz k2.size
        have hs3 : (w2.alloc (.cells #[.int .i64 x0, .int .i64 x1, .string x2] 40)).heap.size = w2.heap.size + 1 := by simp
        clear r2 k2 HC HO HG
        have HW3 := Lib.hid (rfl : w2.alloc (.cells #[.int .i64 x0, .int .i64 x1, .string x2] 40) = w2.alloc (.cells #[.int .i64 x0, .int .i64 x1, .string x2] 40))
        generalize hw3 : w2.alloc (.cells #[.int .i64 x0, .int .i64 x1, .string x2] 40) = w3 at HR2 HG2 HO2 HV2 hs3
        have d0 := HV2.out.cell 0
        have d1 := HV2.out.cell 1
        have d2 := HV2.out.cell 2
        simp only [List.getElem?_toArray, List.getElem?_cons_zero, List.getElem?_cons_succ] at d0 d1 d2
        clear HW3
        have hO3 := HO2.out
        have c0 : w3.cell? ⟨R, 0, none⟩ = some (.string (bs (44 :: tailT (xs.drop (i + 1))))) := Blk.cell HR2.out 0
        obtain ⟨y1, y2⟩ := bs_empty (l := 44 :: tailT (xs.drop (i + 1))) (by simp)
        generalize bs (44 :: tailT (xs.drop (i + 1))) = y at c0 y1 y2
        have hlen : (xs.take i).length = i := by rw [List.length_take]; omega
        unfold OwnsV at hO3
        rw [hlen] at hO3
        have hs4 : w.heap.size ≤ w3.heap.size := by omega
        clear hs3 hlen
        go_wp2_with (at_builtin; refine wpList_append_own _ rfl _ _ 36 rfl w.heap.size 40 i0 (.agg #[.int .i64 0, .int .i64 0, .string ⟨#[]⟩]) 3 32 Tryz.underlying36 hi hz0 hz1 hz2 rfl (by decide) _ _ _ rfl (hO3.alloc _) ⟨w3.heap.size, 0, none⟩ 1 1 [.int .i64 x0, .int .i64 x1, .string x2] rfl rfl (cells_newR _ _ _) (by simp [Value.oneCell']) (by unfold maxLen; omega) (by omega) (by simp <;> omega) ?_; intro v' w5 hown' hgrow _; have HF := Lib.hid (show w5.ownsRow w.heap.size 40 3 v' (i + 1) (flatV (xs.take (i + 1))) ∧ Below w.heap.size w3 w5 from ⟨by rw [HTN.out, flatV_app]; simpa [flatV, cellsV] using hown', ((Below.refl w.heap.size w3).alloc hs4 (.cells #[.int .i64 x0, .int .i64 x1, .string x2] 40)).grown hgrow (by simp; omega) (fun k e => (hO3.lt k e).1)⟩); have c5 : w5.cell? ⟨R, 0, none⟩ = some (.string y) := (HF.out.2.cell (p := ⟨R, 0, none⟩) hRl).trans c0; clear hown' hgrow)
        obtain ⟨q', cap', hv'⟩ := slice_of_owns HF.out.1
        subst hv'
        clear hO3
        have HR5 := Lib.hid (Blk.belowV HR2.out HF.out.2 (by omega))
        have hT := HTK.out w5 _ HR5.out
        have hy := trim_yes [44] (tailT (xs.drop (i + 1)))
        rw [show (44 :: tailT (xs.drop (i + 1)) : List UInt8) = [44] ++ tailT (xs.drop (i + 1)) from rfl, hy.1, hy.2] at hT
        have HT := Lib.hid hT
        have HG5 := Lib.hid (grew_low HG2.out HF.out.2 (Nat.le_refl _))
        clear hT hy
        go_wp2_with fail
        refine HT.out.mono ?_
        rintro e w6 ⟨rfl, r6, k6⟩
        have HO6 := Lib.hid (own_grew HF.out.1 k6 (by omega))
        have HG6 := Lib.hid (HG5.out.and k6)
        have HR6 := Lib.hid r6
        clear r6 k6 HT
        go_wp2_with fail
        go_roundw
        case rel => exact ⟨i + 1, _, _, rfl, by omega, Lib.hid (by unfold OwnsV; rw [show (xs.take (i + 1)).length = i + 1 by rw [List.length_take]; omega]; exact HO6.out), HR6.out, HG6.out⟩
        case measure => simp [lenOf]; omega
end Go.Proofs.YtledgnolmiecfaaGreatDoor

/-!
  Parse of package row at a row's text, as a contract.
-/
namespace Go.Proofs.YtledgnolmiecfaaGreatDoor
open Go.RowKit Go.Lib
set_option linter.unusedSimpArgs false
set_option linter.unusedVariables false

def PostR (w : World) (xs : List Val) (e : Ending) (w' : World) : Prop := ∃ v, e = .returned (.tuple #[v, .int .i64 0]) ∧ OwnsV w' w.heap.size v xs ∧ Below w.heap.size w w'
theorem valid_split {xs : List Val} (h : validRow xs = true) : xs.length ≤ 8 ∧ validVs xs = true := by
  unfold validRow at h
  rw [Bool.and_eq_true, decide_eq_true_iff] at h
  exact h

set_option maxRecDepth 100000 in
set_option maxHeartbeats 2000000 in
theorem rowParse_good (xs : List Val) (hv : validRow xs = true) (w : World) (hE : Env w.heap.size w) :
    Calls Tryz.prog 41 #[.string (bs (textR xs))] w (PostR w xs) := by
  obtain ⟨h8, hvs⟩ := valid_split hv
  have hlen := tailT_len hvs
  have hsz : (bs (textR xs)).size ≤ 6424 := by rw [bs_size, textR_tail]; omega
  have hbA : Below w.heap.size w (w.alloc (.cells #[.string (bs (textR xs))] 97)) := (Below.refl _ _).alloc (Nat.le_refl _) _
  have hR : Rdr (w.alloc (.cells #[.string (bs (textR xs))] 97)) w.heap.size (tailT xs) := by rw [← textR_tail]; exact Blk.new _ _ _
  have hs1 : (w.alloc (.cells #[.string (bs (textR xs))] 97)).heap.size = w.heap.size + 1 := by simp
  have HR := Lib.hid (row_good w.heap.size w.heap.size xs h8 hvs _ hR (hE.on hbA) (Nat.le_refl _))
  have HB := Lib.hid hbA
  have HX := Lib.hid fun W (p : Option Addr) (cap : Nat) (hX : ValsIn W p xs) (hT : Tab W.heap.size W) => rowText_any p xs cap W hX hT
  have ht : textOf xs = textR xs := by unfold textOf; rw [hv]; rfl
  rw [ht] at HX
  unfold TextPost at HX
  rw [show (⟨(textR xs).toArray⟩ : ByteArray) = bs (textR xs) from rfl] at HX
  have HE := Lib.hid hE
  clear hR hbA hE hv hvs hlen ht
  generalize bs (textR xs) = y at hsz HR HB HX hs1
  generalize hw1 : w.alloc (.cells #[.string y] 97) = w1 at HR HB hs1
  have g1 : (y.size : Int) ≤ 65536 := by omega
  have HS1 := Lib.hid hs1
  clear hs1 hsz
  go_enter Tryz.func41, Tryz.ntmps41
  go_wp2_with fail
  refine HR.out.mono ?_
  rintro e w2 ⟨v, rfl, o2, k2⟩
  have hs0 := HS1.out
  have HB2 := Lib.hid (HB.out.trans (k2.low (Nat.le_refl _) (by omega)))
  obtain ⟨q, cap, rfl⟩ := slice_of_owns o2
  have HO2 := Lib.hid (ownsRow_base o2 (show w.heap.size ≤ w1.heap.size by omega))
  have HT := Lib.hid (HX.out w2 q cap (valsIn_of_owns HO2.out) ((HE.out.on HB2.out).up HB2.out.size).tab)
  clear o2 k2 HR HX hs0
  go_wp2_with fail
  refine HT.out.mono ?_
  rintro e w3 ⟨rfl, k3⟩
  have HF := Lib.hid (show OwnsV w3 w.heap.size (.slice q xs.length cap) xs ∧ Below w.heap.size w w3 from ⟨owns_below HO2.out k3, HB2.out.trans (k3.mono HB2.out.size)⟩)
  clear k3 HT
  go_wp2_with fail
  go_ret2
  exact ⟨_, rfl, HF.out.1, HF.out.2⟩

/-- A byte, read back. -/
def unhex (c : UInt8) : Nat := if c.toNat < 58 then c.toNat - 48 else c.toNat - 87
def dec (l : List UInt8) : Option (UInt8 × List UInt8) :=
  match l with
  | [] => none
  | c :: r => if c = 92 then (match r with
      | [] => none
      | d :: s => if d = 110 then some (10, s) else if d = 120 then (match s with
          | a :: b :: q => some (UInt8.ofNat (16 * unhex a + unhex b), q)
          | _ => none) else some (d, s)) else some (c, r)
theorem unhex_byte {n : Nat} (h : n < 256) : UInt8.ofNat (16 * unhex (UInt8.ofNat (hexd (n / 16))) + unhex (UInt8.ofNat (hexd (n % 16)))) = UInt8.ofNat n := by
  have : ∀ n : Nat, n < 256 → UInt8.ofNat (16 * unhex (UInt8.ofNat (hexd (n / 16))) + unhex (UInt8.ofNat (hexd (n % 16)))) = UInt8.ofNat n := by decide +kernel
  exact this n h
theorem dec_q (c : UInt8) (r : List UInt8) : dec (qB c ++ r) = some (c, r) := by
  unfold qB
  split
  · rename_i hc
    have e1 : c ≠ 110 := fun e => by subst e; exact absurd hc (by decide)
    have e2 : c ≠ 120 := fun e => by subst e; exact absurd hc (by decide)
    simp [dec, e1, e2]
  · rename_i hc
    split
    · rename_i h10
      have : c = 10 := UInt8.toNat_inj.1 h10
      subst this
      rfl
    · split
      · have := unhex_byte c.toNat_lt
        simp only [UInt8.ofNat_toNat] at this
        simp [dec, this]
      · have e1 : c ≠ 92 := fun e => by subst e; exact hc (by decide)
        simp [dec, e1]
theorem flat_inj : ∀ (l m r s : List UInt8), l.flatMap qB ++ 34 :: r = m.flatMap qB ++ 34 :: s → l = m ∧ r = s
  | [], [], r, s, h => ⟨rfl, by simpa using h⟩
  | [], d :: m, r, s, h => by
    have h1 := q_first d (m.flatMap qB ++ 34 :: s)
    rw [List.flatMap_cons, List.append_assoc] at h
    rw [← h] at h1
    simp [Lib.hasPrefix, List.isPrefixOf] at h1
  | c :: l, [], r, s, h => by
    have h1 := q_first c (l.flatMap qB ++ 34 :: r)
    rw [List.flatMap_cons, List.append_assoc] at h
    rw [h] at h1
    simp [Lib.hasPrefix, List.isPrefixOf] at h1
  | c :: l, d :: m, r, s, h => by
    rw [List.flatMap_cons, List.flatMap_cons, List.append_assoc, List.append_assoc] at h
    have h1 := congrArg dec h
    rw [dec_q, dec_q] at h1
    simp only [Option.some.injEq, Prod.mk.injEq] at h1
    obtain ⟨rfl, h2⟩ := h1
    obtain ⟨rfl, h3⟩ := flat_inj l m r s h2
    exact ⟨rfl, h3⟩
theorem textV_first {x0 x1 : Int} {x2 : ByteArray} (hv : validV x0 x1 x2 = true) : ∃ c q, textV (x0, x1, x2) = c :: q ∧ (x0 = 0 ↔ c = 126) ∧ (x0 = 2 ↔ c = 34) := by
  have hv' : validP x0 x1 x2 := of_decide_eq_true hv
  rcases hv' with ⟨rfl, rfl, he⟩ | ⟨rfl, he, h1, h2⟩ | ⟨rfl, rfl, h2⟩
  · exact ⟨126, [], rfl, by simp, by decide⟩
  · have hb := itoa_byte x1
    have e : textV ((1 : Int), x1, x2) = itoa x1 := rfl
    rw [e]
    cases h : itoa x1 with
    | nil => exact absurd h (itoa_ne (by omega) (by omega))
    | cons c q =>
      have := hb c (by rw [h]; simp)
      refine ⟨c, q, rfl, ⟨fun h => (by cases h), fun h => ?_⟩, ⟨fun h => (by cases h), fun h => ?_⟩⟩
      · subst h; exact absurd this (by decide)
      · subst h; exact absurd this (by decide)
  · exact ⟨34, _, rfl, by decide, by simp⟩
theorem textV_inj {x0 x1 y0 y1 : Int} {x2 y2 : ByteArray} (hx : validV x0 x1 x2 = true) (hy : validV y0 y1 y2 = true) {r s : List UInt8} (hr : Tail r) (hs : Tail s) (h : textV (x0, x1, x2) ++ r = textV (y0, y1, y2) ++ s) : (x0, x1, x2) = (y0, y1, y2) ∧ r = s := by
  obtain ⟨c, q, e1, a0, a2⟩ := textV_first hx
  obtain ⟨d, p, e2, b0, b2⟩ := textV_first hy
  have hcd : c = d := by
    rw [e1, e2] at h
    exact (List.cons.inj h).1
  subst hcd
  have hx' : validP x0 x1 x2 := of_decide_eq_true hx
  have hy' : validP y0 y1 y2 := of_decide_eq_true hy
  have k0 : x0 = 0 ↔ y0 = 0 := a0.trans b0.symm
  have k2 : x0 = 2 ↔ y0 = 2 := a2.trans b2.symm
  rcases hx' with ⟨rfl, rfl, he⟩ | ⟨rfl, he, h1, h2⟩ | ⟨rfl, rfl, h2⟩
  · have hy0 := k0.1 rfl
    rcases hy' with ⟨rfl, rfl, he'⟩ | ⟨rfl, _⟩ | ⟨rfl, _⟩
    · rw [empty_of he, empty_of he'] at h ⊢
      exact ⟨rfl, List.append_cancel_left h⟩
    · exact absurd hy0 (by decide)
    · exact absurd hy0 (by decide)
  · rcases hy' with ⟨rfl, rfl, he'⟩ | ⟨rfl, he', h1', h2'⟩ | ⟨rfl, _⟩
    · exact absurd (k0.2 rfl) (by decide)
    · have hh : itoa x1 ++ r = itoa y1 ++ s := h
      have hc1 := cut_tail (itoa_comma x1) hr
      rw [hh, cut_tail (itoa_comma y1) hs] at hc1
      have hn := atoi_itoa (n := x1) (by omega) (by omega)
      rw [← hc1, atoi_itoa (n := y1) (by omega) (by omega)] at hn
      have hxy : y1 = x1 := by injection hn
      subst hxy
      rw [empty_of he, empty_of he']
      exact ⟨rfl, List.append_cancel_left hh⟩
    · exact absurd (k2.2 rfl) (by decide)
  · have hy2 := k2.1 rfl
    rcases hy' with ⟨rfl, _⟩ | ⟨rfl, _⟩ | ⟨rfl, rfl, h2'⟩
    · exact absurd hy2 (by decide)
    · exact absurd hy2 (by decide)
    · have hh : quoted x2.data.toList ++ r = quoted y2.data.toList ++ s := h
      unfold quoted at hh
      have h3 := (List.cons.inj (show (34 : UInt8) :: (x2.data.toList.flatMap qB ++ [34] ++ r) = 34 :: (y2.data.toList.flatMap qB ++ [34] ++ s) from hh)).2
      rw [List.append_assoc, List.append_assoc] at h3
      obtain ⟨h4, h5⟩ := flat_inj _ _ _ _ h3
      have h6 : x2 = y2 := by rw [← bs_back x2, ← bs_back y2, h4]
      rw [h6]
      exact ⟨rfl, h5⟩
theorem tail_of (r : List Val) : Tail (if r = [] then [] else 44 :: tailT r) := by
  split
  · exact .inl rfl
  · exact .inr ⟨_, rfl⟩
theorem tailT_inj : ∀ (xs ys : List Val), validVs xs = true → validVs ys = true → tailT xs = tailT ys → xs = ys
  | [], [], _, _, _ => rfl
  | [], y :: ys, _, hy, h => by
    unfold validVs at hy
    rw [List.all_cons, Bool.and_eq_true] at hy
    have := textV_ne hy.1
    exact absurd (List.append_eq_nil_iff.1 (show textV y ++ _ = [] from h.symm)).1 this
  | x :: xs, [], hx, _, h => by
    unfold validVs at hx
    rw [List.all_cons, Bool.and_eq_true] at hx
    have := textV_ne hx.1
    exact absurd (List.append_eq_nil_iff.1 (show textV x ++ _ = [] from h)).1 this
  | (x0, x1, x2) :: xs, (y0, y1, y2) :: ys, hx, hy, h => by
    unfold validVs at hx hy
    rw [List.all_cons, Bool.and_eq_true] at hx hy
    obtain ⟨h1, h2⟩ := textV_inj hx.1 hy.1 (tail_of xs) (tail_of ys) h
    rw [h1]
    have : xs = ys := by
      by_cases ex : xs = []
      · by_cases ey : ys = []
        · rw [ex, ey]
        · rw [if_pos ex, if_neg ey] at h2; cases h2
      · by_cases ey : ys = []
        · rw [if_neg ex, if_pos ey] at h2; cases h2
        · rw [if_neg ex, if_neg ey] at h2
          exact tailT_inj xs ys hx.2 hy.2 (List.cons.inj h2).2
    rw [this]
theorem textR_inj {xs ys : List Val} (hx : validRow xs = true) (hy : validRow ys = true) (h : textR xs = textR ys) : xs = ys :=
  tailT_inj xs ys (valid_split hx).2 (valid_split hy).2 (by rw [← textR_tail, ← textR_tail]; exact h)
end Go.Proofs.YtledgnolmiecfaaGreatDoor

