/-
  The text of a row: appendValue and Text of package row, as contracts.
-/
import Derived.Test.YtledgnolmiecfaaGreatDoorQuote
import Derived.Test.YtledgnolmiecfaaGreatDoorLaid
import Derived.Lib.ItoaLen
import Derived.Lib.BufferRead
import Derived.Laws.IdiomStrings
namespace Go.Proofs.YtledgnolmiecfaaGreatDoor
open Go.RowKit Go.Lib
set_option linter.unusedSimpArgs false

/-- The text of a value. -/
def textV (x : Val) : List UInt8 := if x.1 = 1 then Lib.itoa x.2.1 else if x.1 = 2 then quoted x.2.2.data.toList else [126]
def sepT (i : Nat) : List UInt8 := if i = 0 then [] else [44]
def textN (xs : List Val) : Nat → List UInt8
  | 0 => []
  | i + 1 => textN xs i ++ sepT i ++ textV (xs[i]?.getD v0)
def textR (xs : List Val) : List UInt8 := textN xs xs.length
def textOf (xs : List Val) : List UInt8 := if validRow xs = true then textR xs else []
abbrev Tab (B : Nat) (w : World) : Prop := Lib.TabBelow Tryz.prog B w "internal/strconv.uint64pow10" .u64 Lib.pow10Tab

set_option maxRecDepth 100000 in
theorem appendValue_any (B n : Nat) (sv : Value) (xs : List Value) (x0 x1 : Int) (x2 : ByteArray) (hv : validV x0 x1 x2 = true) (hn : n ≤ 1000000000) (w : World) (hown : w.ownsRow B 5 1 sv n xs) (hB : B ≤ w.heap.size) (hT : Tab B w) :
    Calls Tryz.prog 51 #[sv, .agg #[.int .i64 x0, .int .i64 x1, .string x2]] w (QuotedPost B n xs (textV (x0, x1, x2)) w) := by
  have hv' : validP x0 x1 x2 := of_decide_eq_true hv
  have hbA : Below B w (w.alloc (.cells #[.int .i64 x0, .int .i64 x1, .string x2] 40)) := (Below.refl B w).alloc hB _
  have hownA := hown.alloc (.cells #[.int .i64 x0, .int .i64 x1, .string x2] 40)
  have hBA : B ≤ (w.alloc (.cells #[.int .i64 x0, .int .i64 x1, .string x2] 40)).heap.size := by simp; omega
  rcases hv' with ⟨rfl, h1, h2⟩ | ⟨rfl, h1, h2, h3⟩ | ⟨rfl, h1, h2⟩
  · have ht : textV (0, x1, x2) = [126] := rfl
    rw [ht]
    clear ht hv h1 h2
    go_enter Tryz.func51, Tryz.ntmps51
    go_wp2_with (at_builtin; refine wpList_append_bytes rfl _ _ rfl B _ n xs rfl (hownA.alloc _) ⟨w.heap.size + 1, 0, none⟩ 1 1 [126] rfl rfl (cells_at _ _ _ (by simp)) (by omega) (by simp <;> omega) ?_; intro v1 w1 hown1 hb1 _)
    go_ret
    exact ⟨_, rfl, hown1, (hbA.alloc hBA _).trans hb1⟩
  · have ht : textV (1, x1, x2) = Lib.itoa x1 := rfl
    rw [ht]
    have hc := Lib.hid (Tryz.strconv_AppendInt_10 B n x1 (by omega) (by omega) sv xs _ hownA hBA (by omega) (hT.on hbA))
    clear ht hv h1 h2 h3
    go_enter Tryz.func51, Tryz.ntmps51
    go_wp2_with (go_at_call 68; refine hc.out.mono ?_; rintro e w1 ⟨v1, rfl, hown1, hb1, _⟩)
    go_ret
    exact ⟨_, rfl, hown1, hbA.trans hb1⟩
  · have ht : textV (2, x1, x2) = quoted x2.data.toList := rfl
    rw [ht]
    have hc := Lib.hid (appendQuoted_any B n sv xs x2 (by omega) hn _ hownA hBA)
    clear ht hv h1 h2
    go_enter Tryz.func51, Tryz.ntmps51
    go_wp2_with (go_at_call 69; refine hc.out.mono ?_; rintro e w1 ⟨v1, rfl, hown1, hb1⟩)
    go_ret
    exact ⟨_, rfl, hown1, hbA.trans hb1⟩

theorem textV_len {x0 x1 : Int} {x2 : ByteArray} (hv : validV x0 x1 x2 = true) : (textV (x0, x1, x2)).length ≤ 802 := by
  have hv' : validP x0 x1 x2 := of_decide_eq_true hv
  rcases hv' with ⟨rfl, _, _⟩ | ⟨rfl, _, h2, h3⟩ | ⟨rfl, _, h2⟩
  · show [126].length ≤ 802; simp
  · show (Lib.itoa x1).length ≤ 802
    have := Lib.itoa_length_le x1 (by omega) (by omega)
    omega
  · show (quoted x2.data.toList).length ≤ 802
    have := flat_len x2.data.toList
    have hs : x2.data.toList.length = x2.size := by simp
    simp only [quoted, List.length_cons, List.length_append, List.length_nil]
    omega
theorem sepT_len (i : Nat) : (sepT i).length ≤ 1 := by unfold sepT; split <;> simp
theorem valid_at {xs : List Val} (h : validVs xs = true) {i : Nat} (hi : i < xs.length) : validV (xs[i]?.getD v0).1 (xs[i]?.getD v0).2.1 (xs[i]?.getD v0).2.2 = true := by
  unfold validVs at h
  rw [List.all_eq_true] at h
  have := h (xs[i]) (List.getElem_mem hi)
  simpa [List.getElem?_eq_getElem hi] using this
theorem textN_len {xs : List Val} (h : validVs xs = true) : ∀ i, i ≤ xs.length → (textN xs i).length ≤ 803 * i
  | 0, _ => by simp [textN]
  | i + 1, hi => by
    have h1 := textN_len h i (by omega)
    have h2 := sepT_len i
    have h3 := textV_len (valid_at h (i := i) (by omega))
    simp only [textN, List.length_append]
    have h3' : (textV (xs[i]?.getD v0)).length ≤ 802 := h3
    omega

/-- The string that a slice of bytes of the call's own is. -/
theorem owns_string {W : World} {B n : Nat} {v : Value} {l : List UInt8} (hl : l.length = n) (h : W.ownsRow B 5 1 v n (byteCells l)) : (convert 48 9 v).run Tryz.prog W = .ok (.string ⟨l.toArray⟩) W := by
  subst hl
  have hcells := h
  rcases h.2 with ⟨rfl, h0⟩ | ⟨g, cap, cur, rfl, _, hg, _⟩
  · have : l = [] := List.eq_nil_of_length_eq_zero h0
    subst this
    exact Lib.run_convert_nil_bytes W 48 9 5 0 Tryz.underlying48 Tryz.underlying5 Tryz.underlying9
  · refine run_convert_bytes_back W 48 9 5 ⟨g, 0, none⟩ cap l Tryz.underlying48 Tryz.underlying5 Tryz.underlying9 (fun j hj => ?_)
    rw [Go.WideShapes.add_plain, Nat.zero_add, hcells.cellAt j (by omega)]
    simp [byteCells, hj]

def TextPost (w : World) (l : List UInt8) (e : Ending) (w' : World) : Prop := e = .returned (.string ⟨l.toArray⟩) ∧ Below w.heap.size w w'

set_option maxRecDepth 100000 in
set_option maxHeartbeats 1000000 in
theorem rowText_any (p : Option Addr) (xs : List Val) (cap : Nat) (w : World) (hX : ValsIn w p xs) (hT : Tab w.heap.size w) :
    Calls Tryz.prog 33 #[.slice p xs.length cap] w (TextPost w (textOf xs)) := by
  have hval := rowValid_any p xs cap w hX
  cases hq : validRow xs with
  | false =>
    rw [hq] at hval
    have HV := Lib.hid hval
    have ht : textOf xs = [] := by unfold textOf; rw [hq]; rfl
    rw [ht]
    clear hval ht hq hX hT
    go_enter Tryz.func33, Tryz.ntmps33
    go_wp2_with (go_at_call 42; refine HV.out.mono ?_; rintro e w1 ⟨rfl, hb1⟩)
    go_ret
    exact ⟨rfl, hb1⟩
  | true =>
    rw [hq] at hval
    have HV := Lib.hid hval
    have ht : textOf xs = textR xs := by unfold textOf; rw [hq]; rfl
    have h8 : xs.length ≤ 8 ∧ validVs xs = true := by
      unfold validRow at hq
      rw [Bool.and_eq_true, decide_eq_true_iff] at hq
      exact hq
    obtain ⟨h8, hvs⟩ := h8
    rw [ht]
    have HX := Lib.hid hX
    have HT := Lib.hid hT
    have HVS := Lib.hid hvs
    clear hval ht hq hX hT hvs
    go_enter Tryz.func33, Tryz.ntmps33
    go_wp2_with (go_at_call 42; refine HV.out.mono ?_; rintro e w1 ⟨rfl, hb1⟩)
    have hB1 : Below w.heap.size w w1 := hb1
    clear hb1
    go_loopw [3, 11] (fun tv x wr => ∃ (i m : Nat), x = .int .i64 i ∧ i ≤ xs.length ∧ m ≤ 803 * i ∧ Hid (m = (textN xs i).length) ∧ wr.ownsRow w.heap.size 5 1 tv m (byteCells (textN xs i)) ∧ Below w.heap.size w wr) (fun _ x _ => xs.length - (RowKit.intOf x).toNat)
    case atStart => exact ⟨0, 0, rfl, Nat.zero_le _, by omega, rfl, World.ownsRow_nil _ _ _ _, hB1⟩
    case round =>
      obtain ⟨i, m, rfl, hi, hml, hm, hrow, hB⟩ := hrel
      have hBs := hB.size
      by_cases hlt : i < xs.length
      · obtain ⟨b, off, rfl, hbl, hra⟩ := HX.out (by omega)
        obtain ⟨c0, c1, c2⟩ := (hra.belowV hB hbl) i hlt
        have hvx := valid_at HVS.out hlt
        have hnx : textN xs (i + 1) = textN xs i ++ sepT i ++ textV (xs[i]?.getD v0) := rfl
        have hnl := textN_len HVS.out (i + 1) (by omega)
        have hi0 : (0 : Int) ≤ (i : Int) := by omega
        have hi1 : (i : Int) < (xs.length : Int) := by omega
        clear hra
        generalize (xs[i]?.getD v0) = x at hvx hnx c0 c1 c2
        obtain ⟨x0, x1, x2⟩ := x
        dsimp only at hvx c0 c1 c2
        have hB2 : Below w.heap.size w (wr.alloc (.cells #[.int .i64 x0, .int .i64 x1, .string x2] 40)) := hB.alloc hBs _
        have hrow2 := hrow.alloc (.cells #[.int .i64 x0, .int .i64 x1, .string x2] 40)
        have hs2 : (wr.alloc (.cells #[.int .i64 x0, .int .i64 x1, .string x2] 40)).heap.size = wr.heap.size + 1 := by simp
        rcases Nat.eq_zero_or_pos i with hz | hpos
        · have hc := Lib.hid (appendValue_any w.heap.size m _ _ x0 x1 x2 hvx (by omega) _ hrow2 (by rw [hs2]; omega) (HT.out.on hB2))
          have h0z : (i : Int) ≤ 0 := by omega
          have HF := Lib.hid (show ∀ (tv : Value) (W : World), W.ownsRow w.heap.size 5 1 tv (m + (textV (x0, x1, x2)).length) (byteCells (textN xs i) ++ byteCells (textV (x0, x1, x2))) → W.ownsRow w.heap.size 5 1 tv (textN xs (i + 1)).length (byteCells (textN xs (i + 1))) from fun tv W h => by
            have hm' := hm.out
            subst hz
            have e : textN xs (0 + 1) = textV (x0, x1, x2) := by rw [hnx]; rfl
            have em : m = 0 := hm'
            rw [e]
            rw [em, Nat.zero_add] at h
            simpa [textN, byteCells] using h)
          have HL := Lib.hid hnl
          clear hnx hnl hs2 hvx hz
          go_wp2_with (go_at_call 51; refine hc.out.mono ?_; rintro e w2 ⟨v2, rfl, hown2, hb2⟩)
          exact ⟨⟨i + 1, (textN xs (i + 1)).length, by go_num, by omega, HL.out, rfl, HF.out _ _ hown2, hB2.trans hb2⟩, by simp [RowKit.intOf]; omega⟩
        · have h0z : (0 : Int) < (i : Int) := by omega
          have HF := Lib.hid (show ∀ (tv : Value) (W : World), W.ownsRow w.heap.size 5 1 tv (m + 1 + (textV (x0, x1, x2)).length) (byteCells (textN xs i) ++ byteCells [44] ++ byteCells (textV (x0, x1, x2))) → W.ownsRow w.heap.size 5 1 tv (textN xs (i + 1)).length (byteCells (textN xs (i + 1))) from fun tv W h => by
            have hm' := hm.out
            have es : sepT i = [44] := by unfold sepT; rw [if_neg (by omega)]
            rw [hnx, es, byteCells_app, byteCells_app]
            have el : (textN xs i ++ [44] ++ textV (x0, x1, x2)).length = m + 1 + (textV (x0, x1, x2)).length := by simp [hm']; omega
            rw [el]
            exact h)
          have HL := Lib.hid hnl
          have hob : ∀ k, _ = some k → k ≠ wr.heap.size := fun k e => by have := (hrow.lt k e).2; omega
          have HOB := Lib.hid hob
          have hbox : Blk (wr.alloc (.cells #[.int .i64 x0, .int .i64 x1, .string x2] 40)) wr.heap.size 40 #[.int .i64 x0, .int .i64 x1, .string x2] := Blk.new _ _ _
          have HBX := Lib.hid hbox
          have HVX := Lib.hid hvx
          have hs3 : w.heap.size ≤ wr.heap.size + 1 := by omega
          clear hnx hnl hvx hpos hob hbox
          go_wp2_with (at_builtin; refine wpList_append_bytes rfl _ _ rfl w.heap.size _ m _ rfl (hrow2.alloc _) ⟨wr.heap.size + 1, 0, none⟩ 1 1 [44] rfl rfl (cells_at _ _ _ (by simp)) (by omega) (by simp <;> omega) ?_; intro v2 w2 hown2 hb2 hg2; have hk := (hg2.block wr.heap.size (by simp <;> omega) (fun e => HOB.out _ e.symm rfl)).trans ((Below.heap_alloc _ _ wr.heap.size (by simp)).trans HBX.out); have d0 := Blk.cell hk 0; have d1 := Blk.cell hk 1; have d2 := Blk.cell hk 2; simp only [List.getElem?_toArray, List.getElem?_cons_zero, List.getElem?_cons_succ] at d0 d1 d2; clear hk hg2)
          have hB3 : Below w.heap.size w w2 := (hB2.alloc (by rw [hs2]; exact hs3) _).trans hb2
          have hc := Lib.hid (appendValue_any w.heap.size (m + 1) _ _ x0 x1 x2 HVX.out (by omega) w2 hown2 hB3.size (HT.out.on hB3))
          clear hb2 hown2
          go_wp2_with (go_at_call 51; refine hc.out.mono ?_; rintro e w3 ⟨v3, rfl, hown3, hb3⟩)
          exact ⟨⟨i + 1, (textN xs (i + 1)).length, by go_num, by omega, HL.out, rfl, HF.out _ _ hown3, hB3.trans hb3⟩, by simp [RowKit.intOf]; omega⟩
      · have hge : xs.length ≤ i := by omega
        have hie : i = xs.length := by omega
        have hcv := owns_string hm.out.symm hrow
        have HTX := Lib.hid (show textN xs i = textR xs by rw [hie]; rfl)
        clear hie hrow
        go_wp2_with fail
        go_ret
        exact ⟨by show Ending.returned (.string ⟨(textN xs i).toArray⟩) = _; rw [HTX.out], hB⟩

theorem Tab.up {B B1 : Nat} {w w1 : World} (h : Tab B w) (hb : Below B w w1) (hl : B ≤ B1) : Tab B1 w1 := fun w' h' => h w' (hb.trans (h'.mono hl))
end Go.Proofs.YtledgnolmiecfaaGreatDoor
