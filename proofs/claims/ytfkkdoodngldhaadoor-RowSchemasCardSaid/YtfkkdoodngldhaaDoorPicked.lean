/-
  Picked, in both packages.
-/
import Derived.Test.YtfkkdoodngldhaaDoorColFlat
namespace Go.Proofs.YtfkkdoodngldhaaDoor
open Go.RowKit
set_option linter.unusedVariables false

def pickC (l : List Col) (cs : List Int) : List Col := cs.map fun c => colAt l c.toNat
theorem pickC_len (l : List Col) (cs : List Int) : (pickC l cs).length = cs.length := by simp [pickC]
theorem pickC_next {l : List Col} {cs : List Int} {i : Nat} (h : i < cs.length) : pickC l (cs.take (i + 1)) = pickC l (cs.take i) ++ [colAt l (cs[i]?.getD 0).toNat] := by
  rw [List.take_succ_eq_append_getElem h]; unfold pickC; rw [List.map_append]; simp [h]
theorem pickC_at {l : List Col} {cs : List Int} {i : Nat} (h : i < cs.length) : colAt (pickC l cs) i = colAt l (cs[i]?.getD 0).toNat := by
  show (pickC l cs)[i]?.getD c0 = _
  simp [pickC, h]
theorem pickC_take (l : List Col) (cs : List Int) (i : Nat) : pickC l (cs.take i) = (pickC l cs).take i := by unfold pickC; rw [List.map_take]
theorem pickC_sz {l : List Col} (h : ∀ j, (colAt l j).1.size ≤ maxLen) (cs : List Int) : ∀ j, (colAt (pickC l cs) j).1.size ≤ maxLen := fun j => by
  by_cases hj : j < cs.length
  · rw [pickC_at hj]; exact h _
  · have : colAt (pickC l cs) j = c0 := by
      unfold colAt
      rw [List.getElem?_eq_none (by rw [pickC_len]; omega)]
      rfl
    rw [this]
    simp [ByteArray.size]
def distinctB (l : List Col) : Bool := decide (∀ i, i < l.length → ∀ j, j < i → (colAt l j).1 ≠ (colAt l i).1)
theorem distinctB_iff {l : List Col} : distinctB l = true ↔ Distinct l l.length := by
  unfold distinctB; rw [decide_eq_true_eq]; exact distinct_iff.symm
theorem distinctB_no {l : List Col} {i : Nat} (hi : i < l.length) (h : ¬ ∀ j, j < i → (colAt l j).1 ≠ (colAt l i).1) : distinctB l = false := by
  unfold distinctB; exact decide_eq_false fun H => h (H i hi)
theorem distinctB_yes {l : List Col} (h : ∀ i, i < l.length → ∀ j, j < i → (colAt l j).1 ≠ (colAt l i).1) : distinctB l = true := by
  unfold distinctB; exact decide_eq_true h
theorem size_lt {l : List Col} {D : DataW Unit} (hN : NumOf l l.length D) : decide ((Maps.size D : Int) < (l.length : Int)) = !distinctB l := by
  have hle := hN.le
  cases hd : distinctB l with
  | true => rw [hN.size.2 (distinctB_iff.1 hd)]; simp
  | false =>
    have hne : Maps.size D ≠ l.length := fun e => by
      have := distinctB_iff.2 (hN.size.1 e)
      rw [hd] at this; cases this
    rw [decide_eq_true (by omega)]; rfl
theorem size_ge {l : List Col} {D : DataW Unit} (hN : NumOf l l.length D) (h : distinctB l = true) : l.length ≤ Maps.size D := by
  rw [hN.size.2 (distinctB_iff.1 h)]; exact Nat.le_refl _
theorem size_less {l : List Col} {D : DataW Unit} (hN : NumOf l l.length D) (h : distinctB l = false) : Maps.size D < l.length := by
  have hle := hN.le
  have hne : Maps.size D ≠ l.length := fun e => by
    have := distinctB_iff.2 (hN.size.1 e)
    rw [h] at this; cases this
  omega
def OwnPostC (w : World) (ys : List Col) (e : Ending) (w' : World) : Prop := ∃ v, e = .returned v ∧ OwnsC w' w.heap.size v ys ∧ Below w.heap.size w w'
def TwoPostC (w : World) (ys : List Col) (er : Int) (e : Ending) (w' : World) : Prop := ∃ v, e = .returned (.tuple #[v, .int .i64 er]) ∧ OwnsC w' w.heap.size v ys ∧ Below w.heap.size w w'
theorem take_set2 {L : List Value} {n i : Nat} (hl : L.length = n * 2) (hi : i < n) (a b : Value) : ((L.set (i * 2) a).set (i * 2 + 1) b).take ((i + 1) * 2) = L.take (i * 2) ++ [a, b] := by
  apply List.ext_getElem?
  intro j
  rw [List.getElem?_append]
  have hlen : (L.take (i * 2)).length = i * 2 := by rw [List.length_take]; omega
  rw [hlen]
  by_cases h1 : j < i * 2
  · rw [if_pos h1, List.getElem?_take_of_lt (by omega), List.getElem?_take_of_lt h1, List.getElem?_set_ne (by omega), List.getElem?_set_ne (by omega)]
  · rw [if_neg h1]
    have hj : j = i * 2 ∨ j = i * 2 + 1 ∨ (i + 1) * 2 ≤ j := by omega
    rcases hj with rfl | rfl | hj
    · rw [List.getElem?_take_of_lt (by omega), List.getElem?_set_ne (by omega), List.getElem?_set_self (by omega)]; simp
    · rw [List.getElem?_take_of_lt (by omega), List.getElem?_set_self (by rw [List.length_set]; omega), show i * 2 + 1 - i * 2 = 1 by omega]; rfl
    · rw [List.getElem?_take_eq_none (by omega), List.getElem?_eq_none (by simp; omega)]

set_option maxRecDepth 100000 in
set_option maxHeartbeats 1000000 in
theorem atC_any (p q : Option Addr) (xs : List Col) (cs : List Int) (c d : Nat) (hmx : xs.length ≤ 9223372036854775807) (hl : cs.length ≤ 1000) (w : World) (hX : ColsIn w p xs) (hC : IntsIn w q cs) (hok : okCols cs xs.length = true) :
    Calls Tryd.prog 76 #[.slice p xs.length c, .slice q cs.length d] w (OwnPostC w (pickC xs cs)) := by
  obtain ⟨i0, hi, hz0, hz1, hz2⟩ := info_parts infoC
  have HX := Lib.hid hX
  have HC := Lib.hid hC
  have HO := Lib.hid hok
  clear hX hC hok
  go_enter Tryd.func76, Tryd.ntmps76
  go_wp2_with (at_make; refine wpList_make_full _ rfl _ _ 23 rfl w.heap.size 67 i0 (.agg #[.string ⟨#[]⟩, .int .i64 0]) 2 Tryd.underlying23 hi hz0 hz1 .i64 .i64 _ _ cs.length rfl rfl rfl rfl (by rw [hz2]; omega) (by unfold maxLen; omega) (Nat.le_refl _) ?_; intro w1 hrow1 hg1)
  have hB1 : Below w.heap.size w w1 := (Below.refl _ _).grown hg1 (Nat.le_refl _) (fun k e => by cases e)
  go_loopw [13] (fun s wr => ∃ (i : Nat) (L : List Value), s = .int .i64 i ∧ i ≤ cs.length ∧ wr.ownsRow w.heap.size 67 2 (.slice (some ⟨w.heap.size, 0, none⟩) cs.length cs.length) cs.length L ∧ Hid (L.take (i * 2) = flatC (pickC xs (cs.take i))) ∧ Below w.heap.size w wr) (fun s _ => cs.length - (intOf s).toNat)
  case atStart => exact ⟨0, _, rfl, Nat.zero_le _, hrow1, by simp [Hid, pickC, flatC], hB1⟩
  case round =>
    clear hrow1 hg1 hB1
    obtain ⟨i, L, rfl, hin, hrow, hL, hB⟩ := hrel
    have hBs := hB.size
    by_cases hlt : i < cs.length
    · obtain ⟨b, off, rfl, hbl, hra⟩ := HC.out (by omega)
      have c0 := (hra.belowV hB hbl) i hlt
      obtain ⟨ht0, ht1⟩ := okCols_at HO.out hlt
      have hnx := pickC_next (l := xs) hlt
      have hi0 : (0 : Int) ≤ (i : Int) := by omega
      have hi1 : (i : Int) < (cs.length : Int) := by omega
      clear hra
      obtain ⟨k, hk⟩ : ∃ k : Nat, cs[i]?.getD 0 = (k : Int) := Int.eq_ofNat_of_zero_le ht0
      rw [hk] at c0 ht0 ht1 hnx
      rw [Int.toNat_natCast] at hnx
      have hkx : k < xs.length := by omega
      clear hk
      obtain ⟨b2, off2, rfl, hbl2, hra2⟩ := HX.out (by omega)
      obtain ⟨d0, d1⟩ := (hra2.belowV hB hbl2) k hkx
      clear hra2
      generalize colAt xs k = x at d0 d1 hnx
      obtain ⟨x0, x1⟩ := x
      dsimp only at d0 d1
      have hLl : L.length = cs.length * 2 := hrow.1
      obtain ⟨u0, e0⟩ : ∃ u, wr.cell? ⟨w.heap.size, i * 2, none⟩ = some u := ⟨_, (hrow.cellAt (i * 2) (by omega)).trans (List.getElem?_eq_getElem (by omega))⟩
      obtain ⟨u1, e1⟩ : ∃ u, wr.cell? ⟨w.heap.size, i * 2 + 1, none⟩ = some u := ⟨_, (hrow.cellAt (i * 2 + 1) (by omega)).trans (List.getElem?_eq_getElem (by omega))⟩
      have f0 := hrow.frozenAt (i * 2)
      have f1 := hrow.frozenAt (i * 2 + 1)
      have hq := ((hrow.stored (i * 2) (.string x0)).1.stored (i * 2 + 1) (.int .i64 x1)).1
      have hB5 : Below w.heap.size w ((wr.setCell ⟨w.heap.size, i * 2, none⟩ (.string x0)).setCell ⟨w.heap.size, i * 2 + 1, none⟩ (.int .i64 x1)) := (hB.setCell (Nat.le_refl _) _).setCell (Nat.le_refl _) _
      have HT := Lib.hid (show ((L.set (i * 2) (.string x0)).set (i * 2 + 1) (.int .i64 x1)).take ((i + 1) * 2) = flatC (pickC xs (cs.take (i + 1))) by
        rw [take_set2 hLl hlt, hL.out, hnx, flatC_app]; simp [flatC, cellsC])
      have HQ := Lib.hid hq
      have HB5 := Lib.hid hB5
      clear hnx hq hB5 hLl
      go_wp2_with fail
      go_roundw
      case rel => exact ⟨i + 1, _, by go_num, by omega, HQ.out, HT.out, HB5.out⟩
      case measure => simp [intOf]; omega
    · have hge : cs.length ≤ i := by omega
      have hie : i = cs.length := by omega
      have HF := Lib.hid (show OwnsC wr w.heap.size (.slice (some ⟨w.heap.size, 0, none⟩) cs.length cs.length) (pickC xs cs) by
        have h := hrow
        have e : L = flatC (pickC xs cs) := by
          have hLl : L.length = cs.length * 2 := hrow.1
          have := hL.out
          rw [hie, List.take_length, List.take_of_length_le (by omega)] at this
          exact this
        rw [e] at h
        unfold OwnsC
        rw [pickC_len]
        exact h)
      clear hie hrow
      go_wp2_with fail
      go_ret
      exact ⟨_, rfl, HF.out, hB⟩

def pickedErr (l : List Col) (cs : List Int) : Int := if schemaOK l = false then 1 else if okCols cs l.length = false then 7 else if ¬ (1 ≤ cs.length ∧ cs.length ≤ 8) then 9 else if distinctB (pickC l cs) = false then 6 else 0
def pickedVal (l : List Col) (cs : List Int) : List Col := if pickedErr l cs = 0 then pickC l cs else []

set_option maxRecDepth 100000 in
set_option maxHeartbeats 2000000 in
theorem rowPicked_any (p q : Option Addr) (l : List Col) (cs : List Int) (c d : Nat) (hm : l.length ≤ 9223372036854775807) (hmc : cs.length ≤ 9223372036854775807) (hsz : ∀ j, (colAt l j).1.size ≤ maxLen) (w : World) (hX : ColsIn w p l) (hC : IntsIn w q cs) :
    Calls Tryd.prog 43 #[.slice p l.length c, .slice q cs.length d] w (TwoPostC w (pickedVal l cs) (pickedErr l cs)) := by
  have hv := rowSchema_any p l c hm hsz w hX
  cases hq : schemaOK l with
  | false =>
    have he : pickedErr l cs = 1 := by unfold pickedErr; rw [hq]; rfl
    have hy : pickedVal l cs = [] := by unfold pickedVal; rw [he]; rfl
    rw [he, hy]
    rw [hq] at hv
    have HV := Lib.hid hv
    clear hv he hy hX hC hq hsz
    go_enter Tryd.func43, Tryd.ntmps43
    go_wp2_with fail
    refine HV.out.mono ?_
    rintro e w1 ⟨rfl, hb1⟩
    go_wp2_with fail
    go_ret2
    exact ⟨_, rfl, World.ownsRow_nil _ _ _ _, hb1⟩
  | true =>
    rw [hq] at hv
    have HV := Lib.hid hv
    have ha := fun W (h : Below w.heap.size w W) => areColumns_any q cs d l.length hmc W (hC.belowV h)
    cases ho : okCols cs l.length with
    | false =>
      have he : pickedErr l cs = 7 := by unfold pickedErr; rw [hq, ho]; rfl
      have hy : pickedVal l cs = [] := by unfold pickedVal; rw [he]; rfl
      rw [he, hy]
      rw [ho] at ha
      have HA := Lib.hid ha
      clear hv he hy hX hC hq ha ho hsz
      go_enter Tryd.func43, Tryd.ntmps43
      go_wp2_with fail
      refine HV.out.mono ?_
      rintro e w1 ⟨rfl, hb1⟩
      go_wp2_with fail
      refine (HA.out _ hb1).mono ?_
      rintro e w2 ⟨rfl, rfl⟩
      go_wp2_with fail
      go_ret2
      exact ⟨_, rfl, World.ownsRow_nil _ _ _ _, hb1⟩
    | true =>
      rw [ho] at ha
      have HA := Lib.hid ha
      by_cases h18 : 1 ≤ cs.length ∧ cs.length ≤ 8
      · have h0' : ((cs.length : Int) == 0) = false := by rw [beq_eq_false_iff_ne]; omega
        have h8' : (cs.length : Int) ≤ 8 := by omega
        have hat := fun W (h : Below w.heap.size w W) => atC_any p q l cs c d hm (by omega) W (hX.belowV h) (hC.belowV h) ho
        have hnum := fun (p2 : Option Addr) (c2 : Nat) W (h : ColsIn W p2 (pickC l cs)) => numbers_any p2 (pickC l cs) c2 (by rw [pickC_len]; omega) (pickC_sz hsz cs) W h
        have herr : pickedErr l cs = if distinctB (pickC l cs) = false then 6 else 0 := by unfold pickedErr; rw [hq, ho, if_neg (by decide), if_neg (by decide), if_neg (fun h => h h18)]
        have hval : pickedVal l cs = if pickedErr l cs = 0 then pickC l cs else [] := rfl
        have hlen := pickC_len l cs
        generalize pickedErr l cs = er at herr hval ⊢
        generalize pickedVal l cs = vl at hval ⊢
        generalize pickC l cs = pk at hat hnum herr hval hlen
        have HAT := Lib.hid hat
        have HNUM := Lib.hid hnum
        have HLEN := Lib.hid hlen
        have HERR := Lib.hid herr
        have HVAL := Lib.hid hval
        clear hv hX hC hq ha ho hat hnum hsz herr hval hlen h18
        go_enter Tryd.func43, Tryd.ntmps43
        go_wp2_with fail
        refine HV.out.mono ?_
        rintro e w1 ⟨rfl, hb1⟩
        go_wp2_with fail
        refine (HA.out _ hb1).mono ?_
        rintro e w2 ⟨rfl, rfl⟩
        go_wp2_with fail
        refine (HAT.out _ hb1).mono ?_
        rintro e w3 ⟨v3, rfl, hrow3, hb3⟩
        obtain ⟨p3, c3, rfl⟩ := slice_of_owns hrow3
        have HN := Lib.hid (HNUM.out p3 c3 w3 (colsIn_of_owns hrow3))
        have HR3 := Lib.hid hrow3
        have hb13 := hb1.trans (hb3.mono hb1.size)
        have hbs := hb1.size
        clear hrow3 hb3 HNUM HAT HA HV
        go_wp2_with fail
        refine HN.out.mono ?_
        rintro e w4 ⟨bm, D, rfl, hown, hD, hB4⟩
        have HR4 := Lib.hid (ownsRow_base (owns_below HR3.out hB4) hbs)
        have hb14 := hb13.trans (hB4.mono hb13.size)
        have hz := HVAL.out
        have hy := HERR.out
        clear HN HR3 HVAL HERR hB4
        cases hd : distinctB pk with
        | true =>
          have hlt := size_ge hD hd
          have hlt2 : ¬ Maps.size D < pk.length := Nat.not_lt.2 hlt
          have hlt3 : decide (Maps.size D < pk.length) = false := decide_eq_false hlt2
          have hlt4 : decide ((Maps.size D : Int) < (pk.length : Int)) = false := decide_eq_false (by omega)
          rw [hd] at hy
          rw [if_neg (by decide)] at hy
          subst hy
          rw [if_pos rfl] at hz
          subst hz
          clear hd
          go_wp2_with (at_len; refine wpList_len_own _ rfl _ 69 rfl 9 3 mapT _ bm _ D rfl hown ?_)
          go_ret2
          exact ⟨_, rfl, HR4.out, hb14⟩
        | false =>
          have hlt := size_less hD hd
          rw [hd] at hy
          rw [if_pos rfl] at hy
          subst hy
          rw [if_neg (by decide)] at hz
          subst hz
          clear hd
          go_wp2_with (at_len; refine wpList_len_own _ rfl _ 69 rfl 9 3 mapT _ bm _ D rfl hown ?_)
          go_ret2
          exact ⟨_, rfl, World.ownsRow_nil _ _ _ _, hb14⟩
      · have he : pickedErr l cs = 9 := by unfold pickedErr; rw [hq, ho, if_neg (by decide), if_neg (by decide), if_pos h18]
        have hy : pickedVal l cs = [] := by unfold pickedVal; rw [he]; rfl
        rw [he, hy]
        clear hv he hy hX hC hq ha ho hsz
        by_cases h0 : cs.length = 0
        · have h0' : ((cs.length : Int) == 0) = true := by rw [beq_iff_eq]; omega
          clear h18 h0
          go_enter Tryd.func43, Tryd.ntmps43
          go_wp2_with fail
          refine HV.out.mono ?_
          rintro e w1 ⟨rfl, hb1⟩
          go_wp2_with fail
          refine (HA.out _ hb1).mono ?_
          rintro e w2 ⟨rfl, rfl⟩
          go_wp2_with fail
          go_ret2
          exact ⟨_, rfl, World.ownsRow_nil _ _ _ _, hb1⟩
        · have h0' : ((cs.length : Int) == 0) = false := by rw [beq_eq_false_iff_ne]; omega
          have h8' : (8 : Int) < (cs.length : Int) := by omega
          clear h18 h0
          go_enter Tryd.func43, Tryd.ntmps43
          go_wp2_with fail
          refine HV.out.mono ?_
          rintro e w1 ⟨rfl, hb1⟩
          go_wp2_with fail
          refine (HA.out _ hb1).mono ?_
          rintro e w2 ⟨rfl, rfl⟩
          go_wp2_with fail
          go_ret2
          exact ⟨_, rfl, World.ownsRow_nil _ _ _ _, hb1⟩
end Go.Proofs.YtfkkdoodngldhaaDoor
