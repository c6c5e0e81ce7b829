/-
  Project in both packages, under one contract.
-/
import Derived.Test.YtfkkdoodngldhaaDoorPick
namespace Go.Proofs.YtfkkdoodngldhaaDoor
open Go.RowKit

theorem take_set3 {L : List Value} {n i : Nat} (hl : L.length = n * 3) (hi : i < n) (a b c : Value) : (((L.set (i * 3) a).set (i * 3 + 1) b).set (i * 3 + 2) c).take ((i + 1) * 3) = L.take (i * 3) ++ [a, b, c] := by
  apply List.ext_getElem?
  intro j
  rw [List.getElem?_append]
  have hlen : (L.take (i * 3)).length = i * 3 := by rw [List.length_take]; omega
  rw [hlen]
  by_cases h1 : j < i * 3
  · rw [if_pos h1, List.getElem?_take_of_lt (by omega), List.getElem?_take_of_lt h1, List.getElem?_set_ne (by omega), List.getElem?_set_ne (by omega), List.getElem?_set_ne (by omega)]
  · rw [if_neg h1]
    have hj : j = i * 3 ∨ j = i * 3 + 1 ∨ j = i * 3 + 2 ∨ (i + 1) * 3 ≤ j := by omega
    rcases hj with rfl | rfl | rfl | hj
    · rw [List.getElem?_take_of_lt (by omega), List.getElem?_set_ne (by omega), List.getElem?_set_ne (by omega), List.getElem?_set_self (by omega)]; simp
    · rw [List.getElem?_take_of_lt (by omega), List.getElem?_set_ne (by omega), List.getElem?_set_self (by rw [List.length_set]; omega), show i * 3 + 1 - i * 3 = 1 by omega]; rfl
    · rw [List.getElem?_take_of_lt (by omega), List.getElem?_set_self (by rw [List.length_set, List.length_set]; omega), show i * 3 + 2 - i * 3 = 2 by omega]; rfl
    · rw [List.getElem?_take_eq_none (by omega), List.getElem?_eq_none (by simp; omega)]

set_option maxRecDepth 100000 in
set_option maxHeartbeats 1000000 in
theorem at_any (p q : Option Addr) (xs : List Val) (cs : List Int) (c d : Nat) (hmx : xs.length ≤ 9223372036854775807) (hl : cs.length ≤ 1000) (w : World) (hX : ValsIn w p xs) (hC : IntsIn w q cs) (hok : okCols cs xs.length = true) :
    Calls Tryd.prog 73 #[.slice p xs.length c, .slice q cs.length d] w (OwnPost w (pick xs cs)) := by
  obtain ⟨i0, hi, hz0, hz1, hz2⟩ := info_parts infoV
  have HX := Lib.hid hX
  have HC := Lib.hid hC
  have HO := Lib.hid hok
  clear hX hC hok
  go_enter Tryd.func73, Tryd.ntmps73
  go_wp2_with (at_make; refine wpList_make_full _ rfl _ _ 25 rfl w.heap.size 30 i0 (.agg #[.int .i64 0, .int .i64 0, .string ⟨#[]⟩]) 3 Tryd.underlying25 hi hz0 hz1 .i64 .i64 _ _ cs.length rfl rfl rfl rfl (by rw [hz2]; omega) (by unfold maxLen; omega) (Nat.le_refl _) ?_; intro w1 hrow1 hg1)
  have hB1 : Below w.heap.size w w1 := (Below.refl _ _).grown hg1 (Nat.le_refl _) (fun k e => by cases e)
  go_loopw [13] (fun s wr => ∃ (i : Nat) (L : List Value), s = .int .i64 i ∧ i ≤ cs.length ∧ wr.ownsRow w.heap.size 30 3 (.slice (some ⟨w.heap.size, 0, none⟩) cs.length cs.length) cs.length L ∧ Hid (L.take (i * 3) = flatV (pick xs (cs.take i))) ∧ Below w.heap.size w wr) (fun s _ => cs.length - (intOf s).toNat)
  case atStart => exact ⟨0, _, rfl, Nat.zero_le _, hrow1, by simp [Hid, pick, flatV], hB1⟩
  case round =>
    clear hrow1 hg1 hB1
    obtain ⟨i, L, rfl, hin, hrow, hL, hB⟩ := hrel
    have hBs := hB.size
    by_cases hlt : i < cs.length
    · obtain ⟨b, off, rfl, hbl, hra⟩ := HC.out (by omega)
      have c0 := (hra.belowV hB hbl) i hlt
      obtain ⟨ht0, ht1⟩ := okCols_at HO.out hlt
      have hnx := pick_next (xs := xs) hlt
      have hi0 : (0 : Int) ≤ (i : Int) := by omega
      have hi1 : (i : Int) < (cs.length : Int) := by omega
      clear hra
      obtain ⟨k, hk⟩ : ∃ k : Nat, cs[i]?.getD 0 = (k : Int) := Int.eq_ofNat_of_zero_le ht0
      rw [hk] at c0 ht0 ht1 hnx
      rw [Int.toNat_natCast] at hnx
      have hkx : k < xs.length := by omega
      clear hk
      obtain ⟨b2, off2, rfl, hbl2, hra2⟩ := HX.out (by omega)
      obtain ⟨d0, d1, d2⟩ := (hra2.belowV hB hbl2) k hkx
      clear hra2
      generalize xs[k]?.getD v0 = x at d0 d1 d2 hnx
      obtain ⟨x0, x1, x2⟩ := x
      dsimp only at d0 d1 d2
      have hLl : L.length = cs.length * 3 := hrow.1
      obtain ⟨u0, e0⟩ : ∃ u, wr.cell? ⟨w.heap.size, i * 3, none⟩ = some u := ⟨_, (hrow.cellAt (i * 3) (by omega)).trans (List.getElem?_eq_getElem (by omega))⟩
      obtain ⟨u1, e1⟩ : ∃ u, wr.cell? ⟨w.heap.size, i * 3 + 1, none⟩ = some u := ⟨_, (hrow.cellAt (i * 3 + 1) (by omega)).trans (List.getElem?_eq_getElem (by omega))⟩
      obtain ⟨u2, e2⟩ : ∃ u, wr.cell? ⟨w.heap.size, i * 3 + 2, none⟩ = some u := ⟨_, (hrow.cellAt (i * 3 + 2) (by omega)).trans (List.getElem?_eq_getElem (by omega))⟩
      have f0 := hrow.frozenAt (i * 3)
      have f1 := hrow.frozenAt (i * 3 + 1)
      have f2 := hrow.frozenAt (i * 3 + 2)
      have hq := (((hrow.stored (i * 3) (.int .i64 x0)).1.stored (i * 3 + 1) (.int .i64 x1)).1.stored (i * 3 + 2) (.string x2)).1
      have hB5 : Below w.heap.size w (((wr.setCell ⟨w.heap.size, i * 3, none⟩ (.int .i64 x0)).setCell ⟨w.heap.size, i * 3 + 1, none⟩ (.int .i64 x1)).setCell ⟨w.heap.size, i * 3 + 2, none⟩ (.string x2)) := ((hB.setCell (Nat.le_refl _) _).setCell (Nat.le_refl _) _).setCell (Nat.le_refl _) _
      have HT := Lib.hid (show (((L.set (i * 3) (.int .i64 x0)).set (i * 3 + 1) (.int .i64 x1)).set (i * 3 + 2) (.string x2)).take ((i + 1) * 3) = flatV (pick xs (cs.take (i + 1))) by
        rw [take_set3 hLl hlt, hL.out, hnx, flatV_app]; simp [flatV, cellsV])
      have HQ := Lib.hid hq
      have HB5 := Lib.hid hB5
      clear hnx hq hB5 hLl
      go_wp2_with fail
      go_roundw
      case rel => exact ⟨i + 1, _, by go_num, by omega, HQ.out, HT.out, HB5.out⟩
      case measure => simp [intOf]; omega
    · have hge : cs.length ≤ i := by omega
      have hie : i = cs.length := by omega
      have HF := Lib.hid (show OwnsV wr w.heap.size (.slice (some ⟨w.heap.size, 0, none⟩) cs.length cs.length) (pick xs cs) by
        have h := hrow
        have e : L = flatV (pick xs cs) := by
          have hLl : L.length = cs.length * 3 := hrow.1
          have := hL.out
          rw [hie, List.take_length, List.take_of_length_le (by omega)] at this
          exact this
        rw [e] at h
        unfold OwnsV
        rw [pick_len]
        exact h)
      clear hie hrow
      go_wp2_with fail
      go_ret
      exact ⟨_, rfl, HF.out, hB⟩

def projErr (xs : List Val) (cs : List Int) : Int := if validRow xs = false then 1 else if okCols cs xs.length = false then 7 else if 8 < cs.length then 4 else 0
def projVal (xs : List Val) (cs : List Int) : List Val := if projErr xs cs = 0 then pick xs cs else []
def TwoPost (w : World) (ys : List Val) (er : Int) (e : Ending) (w' : World) : Prop := ∃ v, e = .returned (.tuple #[v, .int .i64 er]) ∧ OwnsV w' w.heap.size v ys ∧ Below w.heap.size w w'

set_option maxRecDepth 100000 in
set_option maxHeartbeats 1000000 in
theorem rowProject_any (p q : Option Addr) (xs : List Val) (cs : List Int) (c d : Nat) (hmx : xs.length ≤ 9223372036854775807) (hmc : cs.length ≤ 9223372036854775807) (w : World) (hX : ValsIn w p xs) (hC : IntsIn w q cs) :
    Calls Tryd.prog 39 #[.slice p xs.length c, .slice q cs.length d] w (TwoPost w (projVal xs cs) (projErr xs cs)) := by
  have hv := rowValid_any p xs c w hX
  cases hq : validRow xs with
  | false =>
    have he : projErr xs cs = 1 := by unfold projErr; rw [hq]; rfl
    have hy : projVal xs cs = [] := by unfold projVal; rw [he]; rfl
    rw [he, hy]
    rw [hq] at hv
    have HV := Lib.hid hv
    clear hv he hy hX hC hq
    go_enter Tryd.func39, Tryd.ntmps39
    go_wp2_with fail
    refine HV.out.mono ?_
    rintro e w1 ⟨rfl, hb1⟩
    go_wp2_with fail
    go_ret2
    exact ⟨_, rfl, World.ownsRow_nil _ _ _ _, hb1⟩
  | true =>
    rw [hq] at hv
    have HV := Lib.hid hv
    have ha := fun W (h : Below w.heap.size w W) => areColumns_any q cs d xs.length hmc W (hC.belowV h)
    cases ho : okCols cs xs.length with
    | false =>
      have he : projErr xs cs = 7 := by unfold projErr; rw [hq, ho]; rfl
      have hy : projVal xs cs = [] := by unfold projVal; rw [he]; rfl
      rw [he, hy]
      rw [ho] at ha
      have HA := Lib.hid ha
      clear hv he hy hX hC hq ha ho
      go_enter Tryd.func39, Tryd.ntmps39
      go_wp2_with fail
      refine HV.out.mono ?_
      rintro e w1 ⟨rfl, hb1⟩
      go_wp2_with fail
      refine (HA.out _ hb1).mono ?_
      rintro e w2 ⟨rfl, rfl⟩
      go_wp2_with fail
      go_ret2
      exact ⟨_, rfl, World.ownsRow_nil _ _ _ _, hb1⟩
    | true =>
      rw [ho] at ha
      have HA := Lib.hid ha
      by_cases h8 : 8 < cs.length
      · have he : projErr xs cs = 4 := by unfold projErr; rw [hq, ho, if_neg (by decide), if_neg (by decide), if_pos h8]
        have hy : projVal xs cs = [] := by unfold projVal; rw [he]; rfl
        rw [he, hy]
        have h8' : (8 : Int) < (cs.length : Int) := by omega
        clear hv he hy hX hC hq ha ho
        go_enter Tryd.func39, Tryd.ntmps39
        go_wp2_with fail
        refine HV.out.mono ?_
        rintro e w1 ⟨rfl, hb1⟩
        go_wp2_with fail
        refine (HA.out _ hb1).mono ?_
        rintro e w2 ⟨rfl, rfl⟩
        go_wp2_with fail
        go_ret2
        exact ⟨_, rfl, World.ownsRow_nil _ _ _ _, hb1⟩
      · have he : projErr xs cs = 0 := by unfold projErr; rw [hq, ho, if_neg (by decide), if_neg (by decide), if_neg h8]
        have hy : projVal xs cs = pick xs cs := by unfold projVal; rw [he]; rfl
        rw [he, hy]
        have h8' : (cs.length : Int) ≤ 8 := by omega
        have hat := fun W (h : Below w.heap.size w W) => at_any p q xs cs c d hmx (by omega) W (hX.belowV h) (hC.belowV h) ho
        have HAT := Lib.hid hat
        clear hv he hy hX hC hq ha ho hat
        go_enter Tryd.func39, Tryd.ntmps39
        go_wp2_with fail
        refine HV.out.mono ?_
        rintro e w1 ⟨rfl, hb1⟩
        go_wp2_with fail
        refine (HA.out _ hb1).mono ?_
        rintro e w2 ⟨rfl, rfl⟩
        go_wp2_with fail
        refine (HAT.out _ hb1).mono ?_
        rintro e w3 ⟨v3, rfl, hrow3, hb3⟩
        go_wp2_with fail
        go_ret2
        exact ⟨_, rfl, ownsRow_base hrow3 hb1.size, hb1.trans (hb3.mono hb1.size)⟩
end Go.Proofs.YtfkkdoodngldhaaDoor
