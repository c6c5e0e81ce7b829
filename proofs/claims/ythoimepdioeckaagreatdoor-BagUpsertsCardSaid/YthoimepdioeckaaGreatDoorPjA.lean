/-
  Project, of package bag and of the document; SameRows; arguments opened.
-/
import Derived.Test.YthoimepdioeckaaGreatDoorFlat
import Derived.Test.YthoimepdioeckaaGreatDoorGathB
import Derived.Test.YthoimepdioeckaaGreatDoorWhole
import Derived.Test.YthoimepdioeckaaGreatDoorRwA
import Derived.Test.YthoimepdioeckaaGreatDoorRefApply
import Derived.Deep.RegionHeld3
import Derived.Deep.AppendLies
import Derived.Test.YthoimepdioeckaaGreatDoorSameR
import Derived.Test.YthoimepdioeckaaGreatDoorOpenR
import Derived.ChangeSlices
/-!
  Columns picked out of a row, in both packages, as contracts.
-/
namespace Go.Proofs.YthoimepdioeckaaGreatDoor
open Go.RowKit

/-- The slice reads as these numbers, in this world. -/
def IntsAt (W : World) (b off : Nat) (ts : List Int) : Prop := ∀ i, i < ts.length → W.cell? ⟨b, off + i, none⟩ = some (.int .i64 (ts[i]?.getD 0))
theorem IntsAt.belowV {n₀ b off : Nat} {W W' : World} {ts : List Int} (h : IntsAt W b off ts) (hb : Below n₀ W W') (hbk : b < n₀) : IntsAt W' b off ts := fun i hi =>
  (hb.cell (p := ⟨b, off + i, none⟩) hbk).trans (h i hi)
def IntsIn (W : World) (p : Option Addr) (ts : List Int) : Prop :=
  0 < ts.length → ∃ b off, p = some ⟨b, off, none⟩ ∧ b < W.heap.size ∧ IntsAt W b off ts
theorem IntsIn.belowV {p : Option Addr} {W W' : World} {ts : List Int} (h : IntsIn W p ts) (hb : Below W.heap.size W W') : IntsIn W' p ts := fun hp => by
  obtain ⟨b, off, e, hl, hr⟩ := h hp
  exact ⟨b, off, e, Nat.lt_of_lt_of_le hl hb.size, hr.belowV hb hl⟩
/-- Each is one of so many columns. -/
def okCols (cs : List Int) (n : Nat) : Bool := cs.all fun c => decide (0 ≤ c ∧ c < (n : Int))
theorem okCols_next {cs : List Int} {n i : Nat} (h : i < cs.length) : okCols (cs.take (i + 1)) n = (okCols (cs.take i) n && decide (0 ≤ cs[i]?.getD 0 ∧ cs[i]?.getD 0 < (n : Int))) := by
  rw [List.take_succ_eq_append_getElem h]; unfold okCols; rw [List.all_append]; simp [h]
theorem okCols_stop {cs : List Int} {n i : Nat} (h : okCols (cs.take i) n = false) : okCols cs n = false := by
  have e : okCols cs n = (okCols (cs.take i) n && okCols (cs.drop i) n) := by unfold okCols; rw [← List.all_append, List.take_append_drop]
  rw [e, h]; rfl
theorem okCols_at {cs : List Int} {n i : Nat} (h : okCols cs n = true) (hi : i < cs.length) : 0 ≤ cs[i]?.getD 0 ∧ cs[i]?.getD 0 < (n : Int) := by
  unfold okCols at h
  rw [List.all_eq_true] at h
  have := h (cs[i]) (List.getElem_mem hi)
  simpa [List.getElem?_eq_getElem hi] using this
def pick (xs : List Val) (cs : List Int) : List Val := cs.map fun c => xs[c.toNat]?.getD v0
theorem pick_len (xs : List Val) (cs : List Int) : (pick xs cs).length = cs.length := by simp [pick]
theorem pick_next {xs : List Val} {cs : List Int} {i : Nat} (h : i < cs.length) : pick xs (cs.take (i + 1)) = pick xs (cs.take i) ++ [xs[(cs[i]?.getD 0).toNat]?.getD v0] := by
  rw [List.take_succ_eq_append_getElem h]; unfold pick; rw [List.map_append]; simp [h]

set_option maxRecDepth 100000 in
set_option maxHeartbeats 1000000 in
theorem areColumns_any (p : Option Addr) (cs : List Int) (cap n : Nat) (hm : cs.length ≤ 9223372036854775807) (w : World) (hX : IntsIn w p cs) :
    Calls Tryz.prog 112 #[.slice p cs.length cap, .int .i64 (n : Int)] w fun e w' => e = .returned (.bool (okCols cs n)) ∧ w = w' := by
  have HX := Lib.hid hX
  clear hX
  go_enter Tryz.func112, Tryz.ntmps112
  go_wp2_with fail
  go_loop [9] (fun s => ∃ i : Nat, s = .int .i64 i ∧ i ≤ cs.length ∧ Hid (okCols (cs.take i) n = true)) (fun s => cs.length - (intOf s).toNat)
  case atStart => exact ⟨0, rfl, Nat.zero_le _, rfl⟩
  case round =>
    obtain ⟨i, rfl, hi, hv⟩ := hrel
    by_cases hlt : i < cs.length
    · obtain ⟨b, off, rfl, hbl, hra⟩ := HX.out (by omega)
      have c0 := hra i hlt
      have hnx := okCols_next (n := n) hlt
      rw [hv.out, Bool.true_and] at hnx
      have hi0 : (0 : Int) ≤ (i : Int) := by omega
      have hi1 : (i : Int) < (cs.length : Int) := by omega
      clear hra
      generalize cs[i]?.getD 0 = t at c0 hnx
      by_cases ht : 0 ≤ t
      · by_cases htn : t < (n : Int)
        · have HN := Lib.hid (show okCols (cs.take (i + 1)) n = true by rw [hnx, decide_eq_true ⟨ht, htn⟩])
          clear hnx
          go_wp2_with fail
          go_round
          case rel => exact ⟨i + 1, by go_num, by omega, HN.out⟩
          case measure => simp [intOf]; omega
        · have HN := Lib.hid (okCols_stop (show okCols (cs.take (i + 1)) n = false by rw [hnx, decide_eq_false (fun h => htn h.2)]))
          have htn' : (n : Int) ≤ t := by omega
          have hd0 : decide (t < 0) = false := by simp; omega
          clear hnx
          go_wp2_with fail
          go_ret
          exact ⟨retB HN.out.symm, rfl⟩
      · have HN := Lib.hid (okCols_stop (show okCols (cs.take (i + 1)) n = false by rw [hnx, decide_eq_false (fun h => ht h.1)]))
        have ht' : t < 0 := by omega
        clear hnx
        go_wp2_with fail
        go_ret
        exact ⟨retB HN.out.symm, rfl⟩
    · have hge : cs.length ≤ i := by omega
      have hie : i = cs.length := by omega
      have HALL := Lib.hid (show okCols cs n = true by have := hv.out; rw [hie, List.take_length] at this; exact this)
      clear hie
      go_wp2_with fail
      go_ret
      exact ⟨retB HALL.out.symm, rfl⟩

def OwnPost (w : World) (ys : List Val) (e : Ending) (w' : World) : Prop := ∃ v, e = .returned v ∧ OwnsV w' w.heap.size v ys ∧ Below w.heap.size w w'

set_option maxRecDepth 100000 in
set_option maxHeartbeats 1000000 in
theorem Picks_any (p q : Option Addr) (xs : List Val) (cs : List Int) (c d : Nat) (hmx : xs.length ≤ 9223372036854775807) (hl : cs.length ≤ 1000) (w : World) (hX : ValsIn w p xs) (hC : IntsIn w q cs) (hok : okCols cs xs.length = true) :
    Calls Tryz.prog 63 #[.slice p xs.length c, .slice q cs.length d] w (OwnPost w (pick xs cs)) := by
  obtain ⟨i0, hi, hz0, hz1, hz2⟩ := info_parts infoV
  have HX := Lib.hid hX
  have HC := Lib.hid hC
  have HO := Lib.hid hok
  clear hX hC hok
  go_enter Tryz.func63, Tryz.ntmps63
  go_wp2_with fail
  go_loopw [5, 6] (fun o s wr => ∃ i : Nat, s = .int .i64 i ∧ i ≤ cs.length ∧ wr.ownsRow w.heap.size 62 3 o i (flatV (pick xs (cs.take i))) ∧ Below w.heap.size w wr) (fun _ s _ => cs.length - (intOf s).toNat)
  case atStart => exact ⟨0, rfl, Nat.zero_le _, World.ownsRow_nil _ _ _ _, Below.refl _ _⟩
  case round =>
    obtain ⟨i, rfl, hin, hrow, hB⟩ := hrel
    have hBs := hB.size
    by_cases hlt : i < cs.length
    · obtain ⟨b, off, rfl, hbl, hra⟩ := HC.out (by omega)
      have c0 := (hra.belowV hB hbl) i hlt
      obtain ⟨ht0, ht1⟩ := okCols_at HO.out hlt
      have hnx := pick_next (xs := xs) hlt
      have hi0 : (0 : Int) ≤ (i : Int) := by omega
      have hi1 : (i : Int) < (cs.length : Int) := by omega
      clear hra
      obtain ⟨k, hk⟩ : ∃ k : Nat, cs[i]?.getD 0 = (k : Int) := Int.eq_ofNat_of_zero_le ht0
      rw [hk] at c0 ht0 ht1 hnx
      rw [Int.toNat_natCast] at hnx
      have hkx : k < xs.length := by omega
      clear hk
      obtain ⟨b2, off2, rfl, hbl2, hra2⟩ := HX.out (by omega)
      obtain ⟨d0, d1, d2⟩ := (hra2.belowV hB hbl2) k hkx
      clear hra2
      generalize xs[k]?.getD v0 = x at d0 d1 d2 hnx
      obtain ⟨x0, x1, x2⟩ := x
      dsimp only at d0 d1 d2
      have HNX := Lib.hid hnx
      clear hnx
      go_wp2_with (at_builtin; refine wpList_append_own _ rfl _ _ 38 rfl w.heap.size 62 i0 (.agg #[.int .i64 0, .int .i64 0, .string ⟨#[]⟩]) 3 32 Tryz.underlying38 hi hz0 hz1 hz2 rfl (by decide) _ _ _ rfl (hrow.alloc _) ⟨wr.heap.size, 0, none⟩ 1 1 (cellsV (x0, x1, x2)) rfl rfl (cells_new _ _ _) (by simp [cellsV, Value.oneCell']) (by unfold maxLen; omega) (by omega) (by simp <;> omega) ?_; intro v' w5 hown' hgrow _; have hB5 : Below w.heap.size w w5 := (hB.alloc hBs _).grown hgrow (by simp <;> omega) (fun k e => (hrow.lt k e).1))
      go_roundw
      case rel => exact ⟨i + 1, by go_num, by omega, by rw [HNX.out, flatV_app]; simpa [flatV] using hown', hB5⟩
      case measure => simp [intOf]; omega
    · have hge : cs.length ≤ i := by omega
      have hie : i = cs.length := by omega
      have HF := Lib.hid (show wr.ownsRow w.heap.size 62 3 _ (pick xs cs).length (flatV (pick xs cs)) by have h := hrow; rw [hie, List.take_length] at h; rw [pick_len]; exact h)
      clear hie hrow
      go_wp2_with fail
      go_ret
      exact ⟨_, rfl, HF.out, hB⟩
end Go.Proofs.YthoimepdioeckaaGreatDoor

/-!
  Project in both packages, under one contract.
-/
namespace Go.Proofs.YthoimepdioeckaaGreatDoor
open Go.RowKit

theorem take_set3 {L : List Value} {n i : Nat} (hl : L.length = n * 3) (hi : i < n) (a b c : Value) : (((L.set (i * 3) a).set (i * 3 + 1) b).set (i * 3 + 2) c).take ((i + 1) * 3) = L.take (i * 3) ++ [a, b, c] := by
  apply List.ext_getElem?
  intro j
  rw [List.getElem?_append]
  have hlen : (L.take (i * 3)).length = i * 3 := by rw [List.length_take]; omega
  rw [hlen]
  by_cases h1 : j < i * 3
  · rw [if_pos h1, List.getElem?_take_of_lt (by omega), List.getElem?_take_of_lt h1, List.getElem?_set_ne (by omega), List.getElem?_set_ne (by omega), List.getElem?_set_ne (by omega)]
  · rw [if_neg h1]
    have hj : j = i * 3 ∨ j = i * 3 + 1 ∨ j = i * 3 + 2 ∨ (i + 1) * 3 ≤ j := by omega
    rcases hj with rfl | rfl | rfl | hj
    · rw [List.getElem?_take_of_lt (by omega), List.getElem?_set_ne (by omega), List.getElem?_set_ne (by omega), List.getElem?_set_self (by omega)]; simp
    · rw [List.getElem?_take_of_lt (by omega), List.getElem?_set_ne (by omega), List.getElem?_set_self (by rw [List.length_set]; omega), show i * 3 + 1 - i * 3 = 1 by omega]; rfl
    · rw [List.getElem?_take_of_lt (by omega), List.getElem?_set_self (by rw [List.length_set, List.length_set]; omega), show i * 3 + 2 - i * 3 = 2 by omega]; rfl
    · rw [List.getElem?_take_eq_none (by omega), List.getElem?_eq_none (by simp; omega)]

set_option maxRecDepth 100000 in
set_option maxHeartbeats 1000000 in
theorem at_any (p q : Option Addr) (xs : List Val) (cs : List Int) (c d : Nat) (hmx : xs.length ≤ 9223372036854775807) (hl : cs.length ≤ 1000) (w : World) (hX : ValsIn w p xs) (hC : IntsIn w q cs) (hok : okCols cs xs.length = true) :
    Calls Tryz.prog 113 #[.slice p xs.length c, .slice q cs.length d] w (OwnPost w (pick xs cs)) := by
  obtain ⟨i0, hi, hz0, hz1, hz2⟩ := info_parts infoV
  have HX := Lib.hid hX
  have HC := Lib.hid hC
  have HO := Lib.hid hok
  clear hX hC hok
  go_enter Tryz.func113, Tryz.ntmps113
  go_wp2_with (at_make; refine wpList_make_full _ rfl _ _ 38 rfl w.heap.size 62 i0 (.agg #[.int .i64 0, .int .i64 0, .string ⟨#[]⟩]) 3 Tryz.underlying38 hi hz0 hz1 .i64 .i64 _ _ cs.length rfl rfl rfl rfl (by rw [hz2]; omega) (by unfold maxLen; omega) (Nat.le_refl _) ?_; intro w1 hrow1 hg1)
  have hB1 : Below w.heap.size w w1 := (Below.refl _ _).grown hg1 (Nat.le_refl _) (fun k e => by cases e)
  go_loopw [13] (fun s wr => ∃ (i : Nat) (L : List Value), s = .int .i64 i ∧ i ≤ cs.length ∧ wr.ownsRow w.heap.size 62 3 (.slice (some ⟨w.heap.size, 0, none⟩) cs.length cs.length) cs.length L ∧ Hid (L.take (i * 3) = flatV (pick xs (cs.take i))) ∧ Below w.heap.size w wr) (fun s _ => cs.length - (intOf s).toNat)
  case atStart => exact ⟨0, _, rfl, Nat.zero_le _, hrow1, by simp [Hid, pick, flatV], hB1⟩
  case round =>
    clear hrow1 hg1 hB1
    obtain ⟨i, L, rfl, hin, hrow, hL, hB⟩ := hrel
    have hBs := hB.size
    by_cases hlt : i < cs.length
    · obtain ⟨b, off, rfl, hbl, hra⟩ := HC.out (by omega)
      have c0 := (hra.belowV hB hbl) i hlt
      obtain ⟨ht0, ht1⟩ := okCols_at HO.out hlt
      have hnx := pick_next (xs := xs) hlt
      have hi0 : (0 : Int) ≤ (i : Int) := by omega
      have hi1 : (i : Int) < (cs.length : Int) := by omega
      clear hra
      obtain ⟨k, hk⟩ : ∃ k : Nat, cs[i]?.getD 0 = (k : Int) := Int.eq_ofNat_of_zero_le ht0
      rw [hk] at c0 ht0 ht1 hnx
      rw [Int.toNat_natCast] at hnx
      have hkx : k < xs.length := by omega
      clear hk
      obtain ⟨b2, off2, rfl, hbl2, hra2⟩ := HX.out (by omega)
      obtain ⟨d0, d1, d2⟩ := (hra2.belowV hB hbl2) k hkx
      clear hra2
      generalize xs[k]?.getD v0 = x at d0 d1 d2 hnx
      obtain ⟨x0, x1, x2⟩ := x
      dsimp only at d0 d1 d2
      have hLl : L.length = cs.length * 3 := hrow.1
      obtain ⟨u0, e0⟩ : ∃ u, wr.cell? ⟨w.heap.size, i * 3, none⟩ = some u := ⟨_, (hrow.cellAt (i * 3) (by omega)).trans (List.getElem?_eq_getElem (by omega))⟩
      obtain ⟨u1, e1⟩ : ∃ u, wr.cell? ⟨w.heap.size, i * 3 + 1, none⟩ = some u := ⟨_, (hrow.cellAt (i * 3 + 1) (by omega)).trans (List.getElem?_eq_getElem (by omega))⟩
      obtain ⟨u2, e2⟩ : ∃ u, wr.cell? ⟨w.heap.size, i * 3 + 2, none⟩ = some u := ⟨_, (hrow.cellAt (i * 3 + 2) (by omega)).trans (List.getElem?_eq_getElem (by omega))⟩
      have f0 := hrow.frozenAt (i * 3)
      have f1 := hrow.frozenAt (i * 3 + 1)
      have f2 := hrow.frozenAt (i * 3 + 2)
      have hq := (((hrow.stored (i * 3) (.int .i64 x0)).1.stored (i * 3 + 1) (.int .i64 x1)).1.stored (i * 3 + 2) (.string x2)).1
      have hB5 : Below w.heap.size w (((wr.setCell ⟨w.heap.size, i * 3, none⟩ (.int .i64 x0)).setCell ⟨w.heap.size, i * 3 + 1, none⟩ (.int .i64 x1)).setCell ⟨w.heap.size, i * 3 + 2, none⟩ (.string x2)) := ((hB.setCell (Nat.le_refl _) _).setCell (Nat.le_refl _) _).setCell (Nat.le_refl _) _
      have HT := Lib.hid (show (((L.set (i * 3) (.int .i64 x0)).set (i * 3 + 1) (.int .i64 x1)).set (i * 3 + 2) (.string x2)).take ((i + 1) * 3) = flatV (pick xs (cs.take (i + 1))) by
        rw [take_set3 hLl hlt, hL.out, hnx, flatV_app]; simp [flatV, cellsV])
      have HQ := Lib.hid hq
      have HB5 := Lib.hid hB5
      clear hnx hq hB5 hLl
      go_wp2_with fail
      go_roundw
      case rel => exact ⟨i + 1, _, by go_num, by omega, HQ.out, HT.out, HB5.out⟩
      case measure => simp [intOf]; omega
    · have hge : cs.length ≤ i := by omega
      have hie : i = cs.length := by omega
      have HF := Lib.hid (show OwnsV wr w.heap.size (.slice (some ⟨w.heap.size, 0, none⟩) cs.length cs.length) (pick xs cs) by
        have h := hrow
        have e : L = flatV (pick xs cs) := by
          have hLl : L.length = cs.length * 3 := hrow.1
          have := hL.out
          rw [hie, List.take_length, List.take_of_length_le (by omega)] at this
          exact this
        rw [e] at h
        unfold OwnsV
        rw [pick_len]
        exact h)
      clear hie hrow
      go_wp2_with fail
      go_ret
      exact ⟨_, rfl, HF.out, hB⟩

def projErr (xs : List Val) (cs : List Int) : Int := if validRow xs = false then 1 else if okCols cs xs.length = false then 7 else if 8 < cs.length then 4 else 0
def projVal (xs : List Val) (cs : List Int) : List Val := if projErr xs cs = 0 then pick xs cs else []
def TwoPost (w : World) (ys : List Val) (er : Int) (e : Ending) (w' : World) : Prop := ∃ v, e = .returned (.tuple #[v, .int .i64 er]) ∧ OwnsV w' w.heap.size v ys ∧ Below w.heap.size w w'

set_option maxRecDepth 100000 in
set_option maxHeartbeats 1000000 in
theorem rowProject_any (p q : Option Addr) (xs : List Val) (cs : List Int) (c d : Nat) (hmx : xs.length ≤ 9223372036854775807) (hmc : cs.length ≤ 9223372036854775807) (w : World) (hX : ValsIn w p xs) (hC : IntsIn w q cs) :
    Calls Tryz.prog 61 #[.slice p xs.length c, .slice q cs.length d] w (TwoPost w (projVal xs cs) (projErr xs cs)) := by
  have hv := rowValid_any p xs c w hX
  cases hq : validRow xs with
  | false =>
    have he : projErr xs cs = 1 := by unfold projErr; rw [hq]; rfl
    have hy : projVal xs cs = [] := by unfold projVal; rw [he]; rfl
    rw [he, hy]
    rw [hq] at hv
    have HV := Lib.hid hv
    clear hv he hy hX hC hq
    go_enter Tryz.func61, Tryz.ntmps61
    go_wp2_with fail
    refine HV.out.mono ?_
    rintro e w1 ⟨rfl, hb1⟩
    go_wp2_with fail
    go_ret2
    exact ⟨_, rfl, World.ownsRow_nil _ _ _ _, hb1⟩
  | true =>
    rw [hq] at hv
    have HV := Lib.hid hv
    have ha := fun W (h : Below w.heap.size w W) => areColumns_any q cs d xs.length hmc W (hC.belowV h)
    cases ho : okCols cs xs.length with
    | false =>
      have he : projErr xs cs = 7 := by unfold projErr; rw [hq, ho]; rfl
      have hy : projVal xs cs = [] := by unfold projVal; rw [he]; rfl
      rw [he, hy]
      rw [ho] at ha
      have HA := Lib.hid ha
      clear hv he hy hX hC hq ha ho
      go_enter Tryz.func61, Tryz.ntmps61
      go_wp2_with fail
      refine HV.out.mono ?_
      rintro e w1 ⟨rfl, hb1⟩
      go_wp2_with fail
      refine (HA.out _ hb1).mono ?_
      rintro e w2 ⟨rfl, rfl⟩
      go_wp2_with fail
      go_ret2
      exact ⟨_, rfl, World.ownsRow_nil _ _ _ _, hb1⟩
    | true =>
      rw [ho] at ha
      have HA := Lib.hid ha
      by_cases h8 : 8 < cs.length
      · have he : projErr xs cs = 4 := by unfold projErr; rw [hq, ho, if_neg (by decide), if_neg (by decide), if_pos h8]
        have hy : projVal xs cs = [] := by unfold projVal; rw [he]; rfl
        rw [he, hy]
        have h8' : (8 : Int) < (cs.length : Int) := by omega
        clear hv he hy hX hC hq ha ho
        go_enter Tryz.func61, Tryz.ntmps61
        go_wp2_with fail
        refine HV.out.mono ?_
        rintro e w1 ⟨rfl, hb1⟩
        go_wp2_with fail
        refine (HA.out _ hb1).mono ?_
        rintro e w2 ⟨rfl, rfl⟩
        go_wp2_with fail
        go_ret2
        exact ⟨_, rfl, World.ownsRow_nil _ _ _ _, hb1⟩
      · have he : projErr xs cs = 0 := by unfold projErr; rw [hq, ho, if_neg (by decide), if_neg (by decide), if_neg h8]
        have hy : projVal xs cs = pick xs cs := by unfold projVal; rw [he]; rfl
        rw [he, hy]
        have h8' : (cs.length : Int) ≤ 8 := by omega
        have hat := fun W (h : Below w.heap.size w W) => at_any p q xs cs c d hmx (by omega) W (hX.belowV h) (hC.belowV h) ho
        have HAT := Lib.hid hat
        clear hv he hy hX hC hq ha ho hat
        go_enter Tryz.func61, Tryz.ntmps61
        go_wp2_with fail
        refine HV.out.mono ?_
        rintro e w1 ⟨rfl, hb1⟩
        go_wp2_with fail
        refine (HA.out _ hb1).mono ?_
        rintro e w2 ⟨rfl, rfl⟩
        go_wp2_with fail
        refine (HAT.out _ hb1).mono ?_
        rintro e w3 ⟨v3, rfl, hrow3, hb3⟩
        go_wp2_with fail
        go_ret2
        exact ⟨_, rfl, ownsRow_base hrow3 hb1.size, hb1.trans (hb3.mono hb1.size)⟩
end Go.Proofs.YthoimepdioeckaaGreatDoor

/-!
  Project of package bag, as a contract: how many columns all rows have, whether these columns are among them, the rows' values put together.
-/
namespace Go.Proofs.YthoimepdioeckaaGreatDoor
open Go.RowKit

def lo (a b : Nat) : Nat := min a b
def commN (l : List It) : Nat := l.foldl (fun m x => min m x.1.length) 8
theorem commN_next {l : List It} {i : Nat} (h : i < l.length) : commN (l.take (i + 1)) = min (commN (l.take i)) (l[i]?.getD it0).1.length := by
  rw [List.take_succ_eq_append_getElem h, List.getElem?_eq_getElem h]; unfold commN; rw [List.foldl_append]; rfl
theorem commN_lt (l : List It) (k : Nat) : k < commN l ↔ k < 8 ∧ ∀ x ∈ l, k < x.1.length := by
  have : ∀ (l : List It) (m : Nat), k < l.foldl (fun m x => min m x.1.length) m ↔ k < m ∧ ∀ x ∈ l, k < x.1.length := by
    intro l
    induction l with
    | nil => intro m; simp
    | cons x l ih => intro m; rw [List.foldl_cons, ih]; simp only [List.mem_cons, forall_eq_or_imp, Nat.lt_min]; exact ⟨fun h => ⟨h.1.1, h.1.2, h.2⟩, fun h => ⟨⟨h.1, h.2.1⟩, h.2.2⟩⟩
  exact this l 8
theorem commN_le (l : List It) : commN l ≤ 8 := by
  by_cases h : commN l ≤ 8
  · exact h
  · have := ((commN_lt l 8).1 (by omega)).1; omega
theorem commN_row {l : List It} {x : It} (hx : x ∈ l) : commN l ≤ x.1.length := by
  by_cases h : commN l ≤ x.1.length
  · exact h
  · have := ((commN_lt l x.1.length).1 (by omega)).2 x hx; omega
theorem okCols_mono {cs : List Int} {n m : Nat} (h : okCols cs n = true) (hm : n ≤ m) : okCols cs m = true := by
  unfold okCols at *
  rw [List.all_eq_true] at *
  intro c hc
  have := of_decide_eq_true (h c hc)
  exact decide_eq_true ⟨this.1, by omega⟩
def pkI (cs : List Int) (x : It) : It := (pick x.1 cs, x.2)
def prjErr (l : List It) (cs : List Int) : Int := if validBag l = true then (if okCols cs (commN l) = true then (if 8 < cs.length then 4 else toldErr (after [] (l.map (pkI cs)))) else 7) else 1
def prjVal (l : List It) (cs : List Int) : List It := if validBag l = true ∧ okCols cs (commN l) = true ∧ ¬ 8 < cs.length then toldVal (after [] (l.map (pkI cs))) else []
theorem pick_valid {xs : List Val} {cs : List Int} (hx : validRow xs = true) (hok : okCols cs xs.length = true) (h8 : cs.length ≤ 8) : validRow (pick xs cs) = true := by
  unfold validRow at *
  rw [Bool.and_eq_true, decide_eq_true_eq] at *
  refine ⟨by rw [pick_len]; exact h8, ?_⟩
  unfold validVs at *
  rw [List.all_eq_true] at *
  intro v hv
  unfold pick at hv
  obtain ⟨c, hc, rfl⟩ := List.mem_map.1 hv
  unfold okCols at hok
  rw [List.all_eq_true] at hok
  have := of_decide_eq_true (hok c hc)
  have hlt : c.toNat < xs.length := by omega
  rw [List.getElem?_eq_getElem hlt]
  exact hx.2 _ (List.getElem_mem hlt)

set_option maxRecDepth 100000 in
set_option maxHeartbeats 1000000 in
theorem common_any (p : Option Addr) (rs : List ItR) (c : Nat) (hm : rs.length ≤ 9223372036854775807) (w : World) (hX : ItemsIn w p rs) :
    Calls Tryz.prog 60 #[.slice p rs.length c, .slice none 0 0] w (BelowInt w (commN (vals rs) : Nat)) := by
  have HX := Lib.hid hX
  clear hX
  go_enter Tryz.func60, Tryz.ntmps60
  go_wp2_with fail
  go_loopw [5, 12] (fun t s wr => ∃ (i m : Nat), t = .int .i64 m ∧ s = .int .i64 i ∧ i ≤ rs.length ∧ Hid (m = commN ((vals rs).take i)) ∧ m ≤ 8 ∧ Below w.heap.size w wr) (fun _ s _ => rs.length - (intOf s).toNat)
  case atStart => exact ⟨0, 8, rfl, rfl, Nat.zero_le _, rfl, Nat.le_refl _, Below.refl _ _⟩
  case round =>
    obtain ⟨i, m, rfl, rfl, hi, hmm, hm8, hB⟩ := hrel
    by_cases hlt : i < rs.length
    · obtain ⟨b, off, rfl, hbl, hra⟩ := HX.out (by omega)
      obtain ⟨c0, c1, c2, _⟩ := (hra.belowV hB hbl) i hlt
      have hi0 : (0 : Int) ≤ (i : Int) := by omega
      have hi1 : (i : Int) < (rs.length : Int) := by omega
      have hnx := commN_next (show i < (vals rs).length by rw [vals_len]; exact hlt)
      rw [vals_get, ← hmm.out] at hnx
      have hxl := c2.1
      clear hra c2
      generalize (rs[i]?.getD ir0) = x at *
      obtain ⟨⟨xq, xs, xc⟩, xn⟩ := x
      dsimp only [rowv, itv] at *
      have HNX := Lib.hid hnx
      clear hnx
      have hB2 := hB.alloc hB.size (.cells #[.slice xq xs.length xc, .int .i64 xn] 60)
      by_cases hle : m ≤ xs.length
      · have hle' : (m : Int) ≤ (xs.length : Int) := by omega
        have hmn : min (m : Int) (xs.length : Int) = (m : Int) := by omega
        have HN := Lib.hid (show m = commN ((vals rs).take (i + 1)) by rw [HNX.out]; omega)
        go_wp2_with fail
        go_roundw
        case rel => exact ⟨i + 1, m, by first | rfl | (rw [hmn]) | (go_num), by go_num, by omega, HN.out, hm8, hB2⟩
        case measure => simp [intOf]; omega
      · have hle' : (xs.length : Int) ≤ (m : Int) := by omega
        have hmn : min (m : Int) (xs.length : Int) = (xs.length : Int) := by omega
        have HN := Lib.hid (show xs.length = commN ((vals rs).take (i + 1)) by rw [HNX.out]; omega)
        go_wp2_with fail
        go_roundw
        case rel => exact ⟨i + 1, xs.length, by first | rfl | (rw [hmn]) | (go_num), by go_num, by omega, HN.out, by omega, hB2⟩
        case measure => simp [intOf]; omega
    · have hge : (rs.length : Int) ≤ (i : Int) := by omega
      have hie : i = rs.length := by omega
      have HN := Lib.hid (show m = commN (vals rs) by have := hmm.out; rwa [hie, ← vals_len rs, List.take_length] at this)
      obtain ⟨wo, hwo⟩ : ∃ wo : World, wo = wr := ⟨_, rfl⟩
      subst hwo
      clear hie hmm
      go_wp2_with fail
      go_loopw [5, 24] (fun t s wr => t = .int .i64 m ∧ s = .int .i64 0 ∧ wo = wr) (fun _ _ _ => 0)
      case atStart => exact ⟨rfl, rfl, rfl⟩
      case round =>
        obtain ⟨rfl, rfl, rfl⟩ := hrel
        go_wp2_with fail
        go_ret
        exact ⟨by rw [HN.out] <;> rfl, hB⟩

theorem beyond_any (B : Nat) (t : Int) (n : Nat) (w : World) (hc : w.cell? ⟨B, 0, none⟩ = some (.int .i64 (n : Int))) : Calls Tryz.prog 110 #[.int .i64 t, .pointer (some ⟨B, 0, none⟩)] w fun e w' => e = .returned (.bool (!decide (0 ≤ t ∧ t < (n : Int)))) ∧ w = w' := by
  by_cases h0 : t < 0
  · have e : decide (0 ≤ t ∧ t < (n : Int)) = false := decide_eq_false (by omega)
    rw [e]
    clear e
    go_enter Tryz.func110, Tryz.ntmps110
    go_wp2
    go_ret
    exact ⟨rfl, rfl⟩
  · have h0' : 0 ≤ t := by omega
    have hd : decide (t < 0) = false := decide_eq_false h0
    by_cases h1 : (n : Int) ≤ t
    · have e : decide (0 ≤ t ∧ t < (n : Int)) = false := decide_eq_false (by omega)
      rw [e]
      clear e h0
      go_enter Tryz.func110, Tryz.ntmps110
      go_wp2
      go_ret
      exact ⟨rfl, rfl⟩
    · have e : decide (0 ≤ t ∧ t < (n : Int)) = true := decide_eq_true (by omega)
      have h1' : t < (n : Int) := by omega
      have hd2 : decide ((n : Int) ≤ t) = false := decide_eq_false h1
      rw [e]
      clear e h0 h1
      go_enter Tryz.func110, Tryz.ntmps110
      go_wp2
      go_ret
      exact ⟨rfl, rfl⟩

def IdxCol (cs : List Int) (n : Nat) (w : World) (e : Ending) (w' : World) : Prop := ∃ k : Int, e = .returned (.int .i64 k) ∧ decide (0 ≤ k) = !okCols cs n ∧ w = w'
set_option maxRecDepth 100000 in
set_option maxHeartbeats 1000000 in
theorem indexInt_any (B : Nat) (p : Option Addr) (cs : List Int) (c n : Nat) (hm : cs.length ≤ 9223372036854775807) (w : World) (hX : IntsIn w p cs) (hc : w.cell? ⟨B, 0, none⟩ = some (.int .i64 (n : Int))) :
    Calls Tryz.prog 149 #[.slice p cs.length c, .func (.func 110) #[] #[.pointer (some ⟨B, 0, none⟩)]] w (IdxCol cs n w) := by
  have HX := Lib.hid hX
  have HC := Lib.hid fun t => beyond_any B t n w hc
  clear hX hc
  go_enter Tryz.func149, Tryz.ntmps149
  go_wp2_with fail
  go_loop [8] (fun s => ∃ i : Nat, i ≤ cs.length ∧ s = .int .i64 i ∧ Hid (okCols (cs.take i) n = true)) (fun s => cs.length - (intOf s).toNat)
  case atStart => exact ⟨0, Nat.zero_le _, rfl, rfl⟩
  case round =>
    obtain ⟨i, hi, rfl, hE⟩ := hrel
    by_cases hlt : i < cs.length
    · obtain ⟨b, off, rfl, hbl, hra⟩ := HX.out (by omega)
      have c0 := hra i hlt
      have hi0 : (0 : Int) ≤ (i : Int) := by omega
      have hi1 : (i : Int) < (cs.length : Int) := by omega
      have hnx := okCols_next (n := n) hlt
      rw [hE.out, Bool.true_and] at hnx
      clear hra
      generalize (cs[i]?.getD 0) = t at c0 hnx
      have hc := HC.out t
      rw [← hnx] at hc
      cases hq : okCols (cs.take (i + 1)) n with
      | true =>
        rw [hq] at hc
        have HC2 := Lib.hid hc
        have HQ := Lib.hid hq
        clear hc hnx hq
        go_wp2_with fail
        refine HC2.out.mono ?_
        rintro e w' ⟨rfl, rfl⟩
        go_wp2_with fail
        go_round
        case rel => exact ⟨i + 1, by omega, by go_num, HQ.out⟩
        case measure => simp [intOf]; omega
      | false =>
        rw [hq] at hc
        have HC2 := Lib.hid hc
        have HQ := Lib.hid (okCols_stop hq)
        clear hc hnx hq
        go_wp2_with fail
        refine HC2.out.mono ?_
        rintro e w' ⟨rfl, rfl⟩
        go_wp2_with fail
        go_ret
        exact ⟨_, rfl, by rw [HQ.out]; exact decide_eq_true hi0, rfl⟩
    · have hge : cs.length ≤ i := by omega
      have hie : i = cs.length := by omega
      have HE := Lib.hid (show okCols cs n = true by have := hE.out; rwa [hie, List.take_length] at this)
      clear hie
      go_wp2_with fail
      go_ret
      exact ⟨_, rfl, by rw [HE.out]; decide, rfl⟩
theorem containsInt_any (B : Nat) (p : Option Addr) (cs : List Int) (c n : Nat) (hm : cs.length ≤ 9223372036854775807) (w : World) (hX : IntsIn w p cs) (hc : w.cell? ⟨B, 0, none⟩ = some (.int .i64 (n : Int))) :
    Calls Tryz.prog 111 #[.slice p cs.length c, .func (.func 110) #[] #[.pointer (some ⟨B, 0, none⟩)]] w fun e w' => e = .returned (.bool (!okCols cs n)) ∧ w = w' := by
  have H := Lib.hid (indexInt_any B p cs c n hm w hX hc)
  clear hX hc
  unfold IdxCol at H
  generalize okCols cs n = b at H ⊢
  go_enter Tryz.func111, Tryz.ntmps111
  go_wp2_with fail
  refine H.out.mono ?_
  rintro e w1 ⟨k, rfl, hk, rfl⟩
  have HK := Lib.hid hk
  clear hk
  go_wp2_with fail
  go_ret
  exact ⟨by rw [← HK.out] <;> rfl, rfl⟩
theorem bagCols_any (p : Option Addr) (cs : List Int) (c n : Nat) (hm : cs.length ≤ 9223372036854775807) (w : World) (hX : IntsIn w p cs) :
    Calls Tryz.prog 59 #[.slice p cs.length c, .int .i64 (n : Int)] w (BelowB w (okCols cs n)) := by
  have hbA : Below w.heap.size w (w.alloc (.cells #[.int .i64 (n : Int)] 3)) := (Below.refl _ _).alloc (Nat.le_refl _) _
  have HC := Lib.hid (containsInt_any w.heap.size p cs c n hm (w.alloc (.cells #[.int .i64 (n : Int)] 3)) (hX.belowV hbA) ((Blk.new w 3 #[.int .i64 (n : Int)]).cell 0))
  clear hX
  cases hq : okCols cs n with
  | true =>
    rw [hq] at HC
    clear hq
    go_enter Tryz.func59, Tryz.ntmps59
    go_wp2_with fail
    refine HC.out.mono ?_
    rintro e w1 ⟨rfl, rfl⟩
    go_wp2_with fail
    go_ret
    exact ⟨rfl, hbA⟩
  | false =>
    rw [hq] at HC
    clear hq
    go_enter Tryz.func59, Tryz.ntmps59
    go_wp2_with fail
    refine HC.out.mono ?_
    rintro e w1 ⟨rfl, rfl⟩
    go_wp2_with fail
    go_ret
    exact ⟨rfl, hbA⟩
end Go.Proofs.YthoimepdioeckaaGreatDoor

/-!
  Project of package bag, as a contract.
-/
namespace Go.Proofs.YthoimepdioeckaaGreatDoor
open Go.RowKit

theorem prj_next {rs : List ItR} {cs : List Int} {i : Nat} (h : i < rs.length) : (vals (rs.take (i + 1))).map (pkI cs) = (vals (rs.take i)).map (pkI cs) ++ [(pick (rs[i]?.getD ir0).1.2.1 cs, (rs[i]?.getD ir0).2)] := by
  rw [List.take_succ_eq_append_getElem h, List.getElem?_eq_getElem h]; unfold vals; rw [List.map_append, List.map_append]; rfl
theorem keptSet {W : World} {B g k n : Nat} {u : Value} {L : List Value} {xs : List Val} {m cap : Nat} (x : Value) (hv : W.ownsRow B 60 2 (.slice (some ⟨g, 0, none⟩) m cap) n L) (h : OwnsV W B u xs) : OwnsV (W.setCell ⟨g, k, none⟩ x) B u xs :=
  ownsRow_setCell_other h (by
    rcases own_apart hv h with e | e
    · rw [e]; simp
    · exact e) x

set_option maxRecDepth 100000 in
set_option maxHeartbeats 2000000 in
theorem bagProject_yes (p q : Option Addr) (rs : List ItR) (cs : List Int) (c d : Nat) (hm : rs.length ≤ 400) (hc : rs.length ≤ c) (h8 : cs.length ≤ 8) (w : World) (hX : ItemsIn w p rs) (hC : IntsIn w q cs) (hT : Tab w.heap.size w) (q1 : validBag (vals rs) = true) (q2 : okCols cs (commN (vals rs)) = true) :
    Calls Tryz.prog 22 #[.slice p rs.length c, .slice q cs.length d] w (BagPost w.heap.size w (toldVal (after [] ((vals rs).map (pkI cs)))) (toldErr (after [] ((vals rs).map (pkI cs))))) := by
  have h1 := bagValid_any p rs c (by omega) hc w hX
  have h2 := fun W (h : Below w.heap.size w W) => common_any p rs c (by omega) W (hX.belowV h)
  have h3 := fun W (h : Below w.heap.size w W) => bagCols_any q cs d (commN (vals rs)) (by omega) W (hC.belowV h)
  rw [q1] at h1
  rw [q2] at h3
  have hok : ∀ r ∈ rs, projErr r.1.2.1 cs = 0 ∧ validRow (pick r.1.2.1 cs) = true ∧ -1000000 ≤ r.2 ∧ r.2 ≤ 1000000 := fun r hr => by
    have h5 := itOK_iff.1 ((validBag_iff.1 q1).2.1 _ (mem_vals hr))
    have h6 : okCols cs r.1.2.1.length = true := okCols_mono q2 (commN_row (mem_vals hr))
    have h7 : validRow r.1.2.1 = true := h5.1
    refine ⟨?_, pick_valid h7 h6 h8, h5.2.2⟩
    unfold projErr
    rw [h7, h6, if_neg (by decide), if_neg (by decide), if_neg (by omega)]
  have H1 := Lib.hid h1
  have H2 := Lib.hid h2
  have H3 := Lib.hid h3
  have HOK := Lib.hid hok
  have HX := Lib.hid hX
  have HC := Lib.hid hC
  have HT := Lib.hid hT
  have HP := Lib.hid fun (a : Option Addr) (xs : List Val) (ac : Nat) W (hx : ValsIn W a xs) (hm : xs.length ≤ 9223372036854775807) (h : Below w.heap.size w W) => rowProject_any a q xs cs ac d hm (by omega) W hx (hC.belowV h)
  obtain ⟨i0, hi, hz0, hz1, hz2⟩ := info_parts infoI
  have h8' : (cs.length : Int) ≤ 8 := by omega
  generalize hall : (vals rs).map (pkI cs) = all
  have HALL := Lib.hid hall
  clear h1 h2 h3 q1 q2 hok hX hC hT hall
  generalize commN (vals rs) = nn at H2 H3
  go_enter Tryz.func22, Tryz.ntmps22
  go_wp2_with fail
  refine H1.out.mono ?_
  rintro e w1 ⟨rfl, hb1⟩
  go_wp2_with fail
  refine (H2.out _ hb1).mono ?_
  rintro e w2 ⟨rfl, hb2⟩
  have hB2 : Below w.heap.size w w2 := hb1.trans (hb2.mono hb1.size)
  clear hb1 hb2
  go_wp2_with fail
  refine (H3.out _ hB2).mono ?_
  rintro e w4 ⟨rfl, hb3⟩
  have hB4 : Below w.heap.size w w4 := hB2.trans (hb3.mono hB2.size)
  clear hb3 hB2 H1 H2 H3
  go_wp2_with (at_make; refine wpList_make_full _ rfl _ _ 22 rfl w4.heap.size 60 i0 (.agg #[.slice none 0 0, .int .i64 0]) 2 Tryz.underlying22 hi hz0 hz1 .i64 .i64 _ _ rs.length rfl rfl rfl rfl (by rw [hz2]; omega) (by unfold maxLen; omega) (Nat.le_refl _) ?_; intro w5 hrow5 hg5)
  have hB5 : Below w4.heap.size w4 w5 := (Below.refl _ _).grown hg5 (Nat.le_refl _) (fun k e => by cases e)
  go_loopw [27] (fun s wr => ∃ (i : Nat) (L : List Value) (os : List ItR), s = .int .i64 i ∧ i ≤ rs.length ∧ wr.ownsRow w4.heap.size 60 2 (.slice (some ⟨w4.heap.size, 0, none⟩) rs.length rs.length) rs.length L ∧ Hid (L.take (i * 2) = flatI os) ∧ os.length = i ∧ Hid (vals os = (vals (rs.take i)).map (pkI cs)) ∧ Hid (∀ r ∈ os, OwnsV wr w4.heap.size (rowv r.1) r.1.2.1) ∧ Below w4.heap.size w4 wr) (fun s _ => rs.length - (intOf s).toNat)
  case atStart => exact ⟨0, _, [], rfl, Nat.zero_le _, hrow5, by simp [Hid, flatI], rfl, rfl, (fun r hr => by cases hr), hB5⟩
  case round =>
    clear hrow5 hg5 hB5
    obtain ⟨i, L, os, rfl, hin, hrow, hL, hol, hvs, hos, hB⟩ := hrel
    have hBs := hB.size
    by_cases hlt : i < rs.length
    · obtain ⟨b, off, rfl, hbl, hra⟩ := HX.out (by omega)
      obtain ⟨c0, c1, c2, _⟩ := (hra.belowV (hB4.trans (hB.mono hB4.size)) hbl) i hlt
      have hmem : rs[i]?.getD ir0 ∈ rs := by rw [List.getElem?_eq_getElem hlt]; exact List.getElem_mem hlt
      have hxo := (HOK.out _ hmem).1
      have hnx := prj_next (cs := cs) hlt
      have hi0 : (0 : Int) ≤ (i : Int) := by omega
      have hi1 : (i : Int) < (rs.length : Int) := by omega
      clear hra hmem
      generalize rs[i]?.getD ir0 = x at c0 c1 c2 hxo hnx
      obtain ⟨⟨xq, xs, xc⟩, n⟩ := x
      dsimp only [rowv] at c0 c1 c2 hxo hnx
      have hbA : Below wr.heap.size wr (wr.alloc (.cells #[.slice xq xs.length xc, .int .i64 n] 60)) := (Below.refl _ _).alloc (Nat.le_refl _) _
      have hkA := Blk.new wr 60 #[.slice xq xs.length xc, .int .i64 n]
      have hBA := hB.trans (hbA.mono hBs)
      have hBW := hB4.trans (hBA.mono hB4.size)
      have hp := HP.out xq xs xc _ (c2.belowV hbA).2 c2.1 hBW
      have e9 : projVal xs cs = pick xs cs := by unfold projVal; rw [if_pos hxo]
      rw [hxo, e9] at hp
      have HP2 := Lib.hid hp
      have k0 := hkA.cell 0
      have k1 := hkA.cell 1
      simp only [List.getElem?_toArray, List.getElem?_cons_zero, List.getElem?_cons_succ] at k0 k1
      have HROW := Lib.hid hrow
      have HNX := Lib.hid hnx
      clear c2 hp e9 hxo hnx hrow
      go_wp2_with fail
      refine HP2.out.mono ?_
      rintro e w6 ⟨v6, rfl, hown, hb6⟩
      obtain ⟨yq, yc, rfl⟩ := slice_of_owns hown
      have hbs := hbA.size
      have hown4 : OwnsV w6 w4.heap.size (.slice yq (pick xs cs).length yc) (pick xs cs) := by
        have := ownsRow_base hown (Nat.le_trans hBs hbs)
        unfold OwnsV
        simpa [flatV_len] using this
      have k1 := (hb6.cell (p := ⟨wr.heap.size, 1, none⟩) hkA.lt).trans k1
      have hB6 := hBA.trans (hb6.mono hBA.size)
      have hrow := owns_below (owns_below HROW.out hbA) hb6
      have hos6 := fun r hr => owns_below (owns_below (hos.out r hr) hbA) hb6
      have hLl : L.length = rs.length * 2 := hrow.1
      obtain ⟨u0, e0⟩ : ∃ u, w6.cell? ⟨w4.heap.size, i * 2, none⟩ = some u := ⟨_, (hrow.cellAt (i * 2) (by omega)).trans (List.getElem?_eq_getElem (by omega))⟩
      obtain ⟨u1, e1⟩ : ∃ u, w6.cell? ⟨w4.heap.size, i * 2 + 1, none⟩ = some u := ⟨_, (hrow.cellAt (i * 2 + 1) (by omega)).trans (List.getElem?_eq_getElem (by omega))⟩
      have f0 := hrow.frozenAt (i * 2)
      have f1 := hrow.frozenAt (i * 2 + 1)
      have hq := ((hrow.stored (i * 2) (.slice yq (pick xs cs).length yc)).1.stored (i * 2 + 1) (.int .i64 n)).1
      have hrow' := (hrow.stored (i * 2) (.slice yq (pick xs cs).length yc)).1
      have HOS := Lib.hid (show ∀ r ∈ os ++ [((yq, pick xs cs, yc), n)], OwnsV ((w6.setCell ⟨w4.heap.size, i * 2, none⟩ (.slice yq (pick xs cs).length yc)).setCell ⟨w4.heap.size, i * 2 + 1, none⟩ (.int .i64 n)) w4.heap.size (rowv r.1) r.1.2.1 from fun r hr => by
        have key : OwnsV w6 w4.heap.size (rowv r.1) r.1.2.1 := by
          rcases List.mem_append.1 hr with hr | hr
          · exact hos6 r hr
          · rw [List.mem_singleton] at hr; subst hr; exact hown4
        exact keptSet _ hrow' (keptSet _ hrow key))
      have hB7 : Below w4.heap.size w4 ((w6.setCell ⟨w4.heap.size, i * 2, none⟩ (.slice yq (pick xs cs).length yc)).setCell ⟨w4.heap.size, i * 2 + 1, none⟩ (.int .i64 n)) := (hB6.setCell (Nat.le_refl _) _).setCell (Nat.le_refl _) _
      have HT3 := Lib.hid (show ((L.set (i * 2) (.slice yq (pick xs cs).length yc)).set (i * 2 + 1) (.int .i64 n)).take ((i + 1) * 2) = flatI (os ++ [((yq, pick xs cs, yc), n)]) by
        rw [take_set2 hLl hlt, hL.out, flatI_app]; rfl)
      have HV3 := Lib.hid (show vals (os ++ [((yq, pick xs cs, yc), n)]) = (vals (rs.take (i + 1))).map (pkI cs) by rw [HNX.out, ← hvs.out, vals_app1]; rfl)
      have HQ := Lib.hid hq
      have HB7 := Lib.hid hB7
      clear hq hB7 hLl hrow hrow' hown hown4 hos6 hb6 hbA hkA k0
      go_wp2_with fail
      go_roundw
      case rel => exact ⟨i + 1, _, os ++ [((yq, pick xs cs, yc), n)], by go_num, by omega, HQ.out, HT3.out, by simp [hol], HV3.out, HOS.out, HB7.out⟩
      case measure => simp [intOf]; omega
    · have hge : (rs.length : Int) ≤ (i : Int) := by omega
      have hie : i = rs.length := by omega
      have hBw := hB4.trans (hB.mono hB4.size)
      have hV : vals os = all := by
        have := hvs.out
        rwa [hie, List.take_length, HALL.out] at this
      have hlen : os.length = rs.length := by omega
      have hF : wr.ownsRow w4.heap.size 60 2 (.slice (some ⟨w4.heap.size, 0, none⟩) rs.length rs.length) rs.length (flatI os) := by
        have h := hrow
        have e : L = flatI os := by
          have hLl : L.length = rs.length * 2 := hrow.1
          have := hL.out
          rw [hie, List.take_of_length_le (by omega)] at this
          exact this
        rw [e] at h
        exact h
      have hrv : ∀ r ∈ os, validRow r.1.2.1 = true ∧ -1000000 ≤ r.2 ∧ r.2 ≤ 1000000 := fun r hr => by
        have h5 : itv r ∈ all := by rw [← hV]; exact mem_vals hr
        rw [← HALL.out] at h5
        obtain ⟨x, hx, e⟩ := List.mem_map.1 h5
        obtain ⟨y, hy, rfl⟩ := List.mem_map.1 hx
        have := HOK.out y hy
        have e1 : r.1.2.1 = pick y.1.2.1 cs := (congrArg Prod.fst e).symm
        have e2 : r.2 = y.2 := (congrArg Prod.snd e).symm
        rw [e1, e2]
        exact this.2
      have hI : ItemsIn wr (some ⟨w4.heap.size, 0, none⟩) os := items_of_own hlen.symm hF fun r hr => rowOK_of_owns (hos.out r hr) (by have := row_len (hrv r hr).1; omega)
      have hg := gatheredBag_any w.heap.size (some ⟨w4.heap.size, 0, none⟩) os rs.length (by omega) (fun r hr => (hrv r hr).1) (fun r hr => (hrv r hr).2) wr hBw.size hI (HT.out.up hBw hBw.size)
      rw [hlen, hV] at hg
      have HG := Lib.hid hg
      clear hie hrow hF hI hg hL hlen hrv hV hos hvs hol
      go_wp2_with fail
      refine HG.out.mono ?_
      rintro e w9 ⟨p9, s9, c9, rfl, h1, h2, h3, h4, h5⟩
      have HH := Lib.hid (And.intro h1 (And.intro h2 (And.intro h3 (And.intro h4 h5))))
      clear h1 h2 h3 h4 h5
      go_wp2_with fail
      go_ret2
      exact ⟨p9, s9, c9, rfl, HH.out.1, HH.out.2.1, HH.out.2.2.1, HH.out.2.2.2.1, hBw.trans HH.out.2.2.2.2⟩

set_option maxRecDepth 100000 in
set_option maxHeartbeats 1000000 in
theorem bagProject_any (p q : Option Addr) (rs : List ItR) (cs : List Int) (c d : Nat) (hm : rs.length ≤ 9223372036854775807) (hc : rs.length ≤ c) (hmc : cs.length ≤ 9223372036854775807) (w : World) (hX : ItemsIn w p rs) (hC : IntsIn w q cs) (hT : Tab w.heap.size w) :
    Calls Tryz.prog 22 #[.slice p rs.length c, .slice q cs.length d] w (BagPost w.heap.size w (prjVal (vals rs) cs) (prjErr (vals rs) cs)) := by
  have h1 := bagValid_any p rs c hm hc w hX
  cases q1 : validBag (vals rs) with
  | false =>
    have e1 : prjErr (vals rs) cs = 1 := by unfold prjErr; rw [q1]; rfl
    have e2 : prjVal (vals rs) cs = [] := by unfold prjVal; rw [q1, if_neg (fun h => absurd h.1 (by decide))]
    rw [e1, e2]
    rw [q1] at h1
    have H1 := Lib.hid h1
    clear h1 q1 e1 e2 hX hC hT
    go_enter Tryz.func22, Tryz.ntmps22
    go_wp2_with fail
    refine H1.out.mono ?_
    rintro e w1 ⟨rfl, hb1⟩
    go_wp2_with fail
    go_ret2
    exact bagPost_nil hb1
  | true =>
    have hl4 : rs.length ≤ 400 := by have := (validBag_iff.1 q1).1; rwa [vals_len] at this
    have h2 := fun W (h : Below w.heap.size w W) => common_any p rs c hm W (hX.belowV h)
    have h3 := fun W (h : Below w.heap.size w W) => bagCols_any q cs d (commN (vals rs)) hmc W (hC.belowV h)
    rw [q1] at h1
    cases q2 : okCols cs (commN (vals rs)) with
    | false =>
      have e1 : prjErr (vals rs) cs = 7 := by unfold prjErr; rw [q1, q2]; rfl
      have e2 : prjVal (vals rs) cs = [] := by unfold prjVal; rw [q2, if_neg (fun h => absurd h.2.1 (by decide))]
      rw [e1, e2]
      rw [q2] at h3
      have H1 := Lib.hid h1
      have H2 := Lib.hid h2
      have H3 := Lib.hid h3
      clear h1 h2 h3 q1 q2 e1 e2 hX hC hT
      generalize commN (vals rs) = nn at H2 H3
      go_enter Tryz.func22, Tryz.ntmps22
      go_wp2_with fail
      refine H1.out.mono ?_
      rintro e w1 ⟨rfl, hb1⟩
      go_wp2_with fail
      refine (H2.out _ hb1).mono ?_
      rintro e w2 ⟨rfl, hb2⟩
      have hB2 : Below w.heap.size w w2 := hb1.trans (hb2.mono hb1.size)
      go_wp2_with fail
      refine (H3.out _ hB2).mono ?_
      rintro e w4 ⟨rfl, hb3⟩
      go_wp2_with fail
      go_ret2
      exact bagPost_nil (hB2.trans (hb3.mono hB2.size))
    | true =>
      by_cases h8 : cs.length ≤ 8
      · have e1 : prjErr (vals rs) cs = toldErr (after [] ((vals rs).map (pkI cs))) := by unfold prjErr; rw [if_pos q1, if_pos q2, if_neg (by omega)]
        have e2 : prjVal (vals rs) cs = toldVal (after [] ((vals rs).map (pkI cs))) := by unfold prjVal; rw [if_pos ⟨q1, q2, by omega⟩]
        rw [e1, e2]
        exact bagProject_yes p q rs cs c d hl4 hc h8 w hX hC hT q1 q2
      · have e1 : prjErr (vals rs) cs = 4 := by unfold prjErr; rw [if_pos q1, if_pos q2, if_pos (by omega)]
        have e2 : prjVal (vals rs) cs = [] := by unfold prjVal; rw [if_neg (fun h => h.2.2 (by omega))]
        rw [e1, e2]
        rw [q2] at h3
        have h8' : (8 : Int) < (cs.length : Int) := by omega
        have H1 := Lib.hid h1
        have H2 := Lib.hid h2
        have H3 := Lib.hid h3
        clear h1 h2 h3 q1 q2 e1 e2 hX hC hT
        generalize commN (vals rs) = nn at H2 H3
        go_enter Tryz.func22, Tryz.ntmps22
        go_wp2_with fail
        refine H1.out.mono ?_
        rintro e w1 ⟨rfl, hb1⟩
        go_wp2_with fail
        refine (H2.out _ hb1).mono ?_
        rintro e w2 ⟨rfl, hb2⟩
        have hB2 : Below w.heap.size w w2 := hb1.trans (hb2.mono hb1.size)
        go_wp2_with fail
        refine (H3.out _ hB2).mono ?_
        rintro e w4 ⟨rfl, hb3⟩
        go_wp2_with fail
        go_ret2
        exact bagPost_nil (hB2.trans (hb3.mono hB2.size))
end Go.Proofs.YthoimepdioeckaaGreatDoor

/-!
  Project of the document, as a contract.
-/
namespace Go.Proofs.YthoimepdioeckaaGreatDoor
open Go.RowKit

theorem okc_step {l : List It} {cs : List Int} {k : Nat} (h : okCols (cs.take k) (commN l) = true) (hk : k < cs.length) (h0 : 0 ≤ cs[k]?.getD 0) (h7 : cs[k]?.getD 0 ≤ 7) (hx : ∀ x ∈ l, cs[k]?.getD 0 < (x.1.length : Int)) : okCols (cs.take (k + 1)) (commN l) = true := by
  rw [okCols_next hk, h, Bool.true_and]
  generalize cs[k]?.getD 0 = t at h0 h7 hx
  obtain ⟨n, rfl⟩ : ∃ n : Nat, t = (n : Int) := Int.eq_ofNat_of_zero_le h0
  have := (commN_lt l n).2 ⟨by omega, fun x hx2 => by have := hx x hx2; omega⟩
  exact decide_eq_true ⟨h0, by omega⟩
theorem okc_no {l : List It} {cs : List Int} {k : Nat} (hk : k < cs.length) (h : ¬ (0 ≤ cs[k]?.getD 0 ∧ cs[k]?.getD 0 ≤ 7)) : okCols cs (commN l) = false := by
  cases hq : okCols cs (commN l) with
  | false => rfl
  | true =>
    have h1 := okCols_at hq hk
    have h2 := commN_le l
    exact absurd ⟨h1.1, by omega⟩ h
theorem okc_no2 {l : List It} {cs : List Int} {k : Nat} {x : It} (hk : k < cs.length) (hx : x ∈ l) (h : (x.1.length : Int) ≤ cs[k]?.getD 0) : okCols cs (commN l) = false := by
  cases hq : okCols cs (commN l) with
  | false => rfl
  | true =>
    have h1 := okCols_at hq hk
    have h2 := commN_row hx
    omega
theorem prjNo {l : List It} {cs : List Int} (hv : validBag l = true) (h : okCols cs (commN l) = false) : prjErr l cs = 7 ∧ prjVal l cs = [] := by
  unfold prjErr prjVal
  rw [if_pos hv, h, if_neg (by decide), if_neg (fun h => absurd h.2.1 (by decide))]
  exact ⟨rfl, rfl⟩
theorem prj_valid {l : List It} {cs : List Int} (hv : validBag l = true) (ho : okCols cs (commN l) = true) (h8 : cs.length ≤ 8) : ∀ x ∈ l, validRow (pick x.1 cs) = true ∧ okCols cs x.1.length = true ∧ -1000000 ≤ x.2 ∧ x.2 ≤ 1000000 := fun x hx => by
  have h5 := itOK_iff.1 ((validBag_iff.1 hv).2.1 _ hx)
  have h6 : okCols cs x.1.length = true := okCols_mono ho (commN_row hx)
  exact ⟨pick_valid h5.1 h6 h8, h6, h5.2.2⟩
theorem prjA_next {l : List It} {cs : List Int} {i : Nat} (h : i < l.length) : after [] ((l.take (i + 1)).map (pkI cs)) = put (after [] ((l.take i).map (pkI cs))) (pick (l[i]?.getD it0).1 cs) (l[i]?.getD it0).2 := by
  rw [List.take_succ_eq_append_getElem h, List.map_append, after_app, List.getElem?_eq_getElem h]; rfl

set_option maxRecDepth 100000 in
set_option maxHeartbeats 8000000 in
theorem refProject_yes (p q : Option Addr) (rs : List ItR) (cs : List Int) (c d : Nat) (hm : rs.length ≤ 400) (hmc : cs.length ≤ 9223372036854775807) (w : World) (hX : ItemsIn w p rs) (hC : IntsIn w q cs) (q1 : validBag (vals rs) = true) :
    Calls Tryz.prog 23 #[.slice p rs.length c, .slice q cs.length d] w (BagPost w.heap.size w (prjVal (vals rs) cs) (prjErr (vals rs) cs)) := by
  have h1 := refBagValid_any p rs c (by omega) w hX
  rw [q1] at h1
  have hw := fun (t : Int) W => refWithin_any t 0 7 W
  have H1 := Lib.hid h1
  have HW := Lib.hid hw
  have HX := Lib.hid hX
  have HC := Lib.hid hC
  have HQ1 := Lib.hid q1
  clear h1 hw hX hC q1
  go_enter Tryz.func23, Tryz.ntmps23
  go_wp2_with fail
  refine H1.out.mono ?_
  rintro e w1 ⟨rfl, hb1⟩
  go_wp2_with fail
  go_loopw [6, 7] (fun s _ wr => ∃ k : Nat, s = .int .i64 k ∧ k ≤ cs.length ∧ Hid (okCols (cs.take k) (commN (vals rs)) = true) ∧ Below w.heap.size w wr) (fun s _ _ => cs.length - (intOf s).toNat)
  case atStart => exact ⟨0, rfl, Nat.zero_le _, rfl, hb1⟩
  case round =>
    clear hb1
    obtain ⟨k, rfl, hk, hok, hB⟩ := hrel
    by_cases hlt : k < cs.length
    · obtain ⟨b, off, rfl, hbl, hra⟩ := HC.out (by omega)
      have hbc := hra k hlt
      have c0 := (hB.cell (p := ⟨b, off + k, none⟩) hbl).trans hbc
      have hk0 : (0 : Int) ≤ (k : Int) := by omega
      have hk1 : (k : Int) < (cs.length : Int) := by omega
      have hstep := okc_step (l := vals rs) hok.out hlt
      have hno := okc_no (l := vals rs) hlt
      have hno2 := fun x => okc_no2 (l := vals rs) (x := x) hlt
      clear hra
      generalize cs[k]?.getD 0 = t at c0 hbc hstep hno hno2
      have hwt := HW.out t
      by_cases h7 : 0 ≤ t ∧ t ≤ 7
      · rw [decide_eq_true h7] at hwt
        have HWT := Lib.hid hwt
        have HST := Lib.hid (hstep h7.1 h7.2)
        have HNO := Lib.hid hno2
        clear hwt hstep hno hno2
        go_wp2_with fail
        refine (HWT.out _).mono ?_
        rintro e w2 ⟨rfl, rfl⟩
        clear c0
        go_wp2_with fail
        go_loopw [7] (fun s wr => ∃ i : Nat, s = .int .i64 i ∧ i ≤ rs.length ∧ Hid (∀ j, j < i → t < (((vals rs)[j]?.getD it0).1.length : Int)) ∧ Below w.heap.size w wr) (fun s _ => rs.length - (intOf s).toNat)
        case atStart => exact ⟨0, rfl, Nat.zero_le _, (fun j hj => absurd hj (Nat.not_lt_zero _)), hB⟩
        case round =>
          clear hB
          obtain ⟨i, rfl, hi, hE, hB⟩ := hrel
          by_cases hil : i < rs.length
          · obtain ⟨b2, off2, rfl, hbl2, hra2⟩ := HX.out (by omega)
            obtain ⟨d0, _, d2, _⟩ := (hra2.belowV hB hbl2) i hil
            have c0 := (hB.cell (p := ⟨b, off + k, none⟩) hbl).trans hbc
            have hi0 : (0 : Int) ≤ (i : Int) := by omega
            have hi1 : (i : Int) < (rs.length : Int) := by omega
            have hmem : (vals rs)[i]?.getD it0 ∈ vals rs := by rw [List.getElem?_eq_getElem (by rw [vals_len]; exact hil)]; exact List.getElem_mem _
            have hno := HNO.out _ hmem
            have hE2 : t < (((vals rs)[i]?.getD it0).1.length : Int) → ∀ j, j < i + 1 → t < (((vals rs)[j]?.getD it0).1.length : Int) := fun ht j hj => by
              by_cases hji : j = i
              · rw [hji]; exact ht
              · exact hE.out j (by omega)
            rw [vals_get] at hno hE2
            clear hra2 hmem hE
            generalize (rs[i]?.getD ir0) = x at *
            obtain ⟨⟨xq, xs, xc⟩, n⟩ := x
            dsimp only [rowv, itv] at d0 d2 hno hE2
            clear d2
            by_cases ht : t < (xs.length : Int)
            · have HE2 := Lib.hid (hE2 ht)
              clear hno hE2
              go_wp2_with fail
              go_quiet (fail)
              clear c0 d0
              go_wp2_with fail
              go_roundw
              case rel => exact ⟨i + 1, by go_num, by omega, HE2.out, ⟨hB.os, hB.tape, hB.output, hB.size, hB.block⟩⟩
              case measure => simp [intOf]; omega
            · have ht' : (xs.length : Int) ≤ t := by omega
              have HF := Lib.hid (prjNo HQ1.out (hno ht'))
              clear hno hE2 ht
              go_wp2_with fail
              go_quiet (fail)
              clear c0 d0
              go_wp2_with fail
              go_ret2
              rw [HF.out.1, HF.out.2]
              exact bagPost_nil ⟨hB.os, hB.tape, hB.output, hB.size, hB.block⟩
          · have hge : (rs.length : Int) ≤ (i : Int) := by omega
            have hie : i = rs.length := by omega
            have HF := Lib.hid (HST.out fun x hx => by
              obtain ⟨j, hj, rfl⟩ := List.mem_iff_getElem.1 hx
              have := hE.out j (by rw [vals_len] at hj; omega)
              rwa [List.getElem?_eq_getElem hj] at this)
            clear hie hE
            go_wp2_with fail
            go_roundw
            case rel => exact ⟨k + 1, by go_num, by omega, HF.out, hB⟩
            case measure => simp [intOf]; omega
      · rw [decide_eq_false h7] at hwt
        have HWT := Lib.hid hwt
        have HF := Lib.hid (prjNo HQ1.out (hno h7))
        clear hwt hstep hno hno2 h7
        go_wp2_with fail
        refine (HWT.out _).mono ?_
        rintro e w2 ⟨rfl, rfl⟩
        clear c0
        go_wp2_with fail
        go_ret2
        rw [HF.out.1, HF.out.2]
        exact bagPost_nil hB
    · have hge : (cs.length : Int) ≤ (k : Int) := by omega
      have hke : k = cs.length := by omega
      have HO := Lib.hid (show okCols cs (commN (vals rs)) = true by have := hok.out; rwa [hke, List.take_length] at this)
      clear hke hok
      by_cases h8 : cs.length ≤ 8
      · have h8' : (cs.length : Int) ≤ 8 := by omega
        have HE12 := Lib.hid (show prjErr (vals rs) cs = toldErr (after [] ((vals rs).map (pkI cs))) ∧ prjVal (vals rs) cs = toldVal (after [] ((vals rs).map (pkI cs))) by
          unfold prjErr prjVal
          rw [if_pos HQ1.out, if_pos HO.out, if_neg (by omega), if_pos ⟨HQ1.out, HO.out, by omega⟩]
          exact ⟨rfl, rfl⟩)
        have HPV := Lib.hid (prj_valid HQ1.out HO.out h8)
        go_wp2_with fail
        go_loopw [8, 9] (fun o s wr => ∃ (i : Nat) (p' : Option Addr) (os : List ItR) (c' : Nat), o = .slice p' os.length c' ∧ s = .int .i64 i ∧ i ≤ rs.length ∧ Hid (vals os = after [] (((vals rs).take i).map (pkI cs))) ∧ Hid (Asc (vals os) ∧ Bd i (vals os)) ∧ os.length ≤ c' ∧ os.length ≤ i ∧ ItemsIn wr p' os ∧ Hid (p' = none → c' = 0) ∧ Below w.heap.size w wr) (fun _ s _ => rs.length - (intOf s).toNat)
        case atStart => exact ⟨0, none, [], 0, rfl, rfl, Nat.zero_le _, rfl, ⟨nil_asc, fun x hx => by cases hx⟩, Nat.le_refl _, Nat.le_refl _, (fun h => absurd h (by simp)), (fun _ => rfl), hB⟩
        case round =>
          clear hB hge
          obtain ⟨i, p', os, c', rfl, rfl, hi, hvo, hbo, hoc, hol, hio, hzo, hB⟩ := hrel
          obtain ⟨wo, hwo⟩ : ∃ wo : World, wo = wr := ⟨_, rfl⟩
          subst hwo
          by_cases hlt : i < rs.length
          · obtain ⟨b, off, rfl, hbl, hra⟩ := HX.out (by omega)
            obtain ⟨c0, c1, c2, c3⟩ := (hra.belowV hB hbl) i hlt
            have hbw : b < wo.heap.size := Nat.lt_of_lt_of_le hbl hB.size
            have hi0 : (0 : Int) ≤ (i : Int) := by omega
            have hi1 : (i : Int) < (rs.length : Int) := by omega
            have hmem : (vals rs)[i]?.getD it0 ∈ vals rs := by rw [List.getElem?_eq_getElem (by rw [vals_len]; exact hlt)]; exact List.getElem_mem _
            have hxo := HPV.out _ hmem
            have hnx := prjA_next (cs := cs) (show i < (vals rs).length by rw [vals_len]; exact hlt)
            rw [vals_get] at hxo
            rw [vals_get, ← hvo.out] at hnx
            clear hra hmem
            generalize (rs[i]?.getD ir0) = x at *
            obtain ⟨⟨xq, xs, xc⟩, xn⟩ := x
            dsimp only [rowv, itv] at c0 c1 c2 c3 hxo hnx
            have HP := Lib.hid fun W (h : Below wo.heap.size wo W) (B : Nat) yq yc (hv : OwnsV W B (.slice yq (pick xs cs).length yc) (pick xs cs)) => Put_any p' yq os c' (pick xs cs) yc xn (by omega) hbo.out.1.2 (fun r hr => by
                have := hbo.out.2 _ (mem_vals hr)
                unfold big
                simp only [itv] at this
                omega) (by have := hxo.2.2; unfold big; omega) (fun r hr => by have := row_len (hbo.out.1.1 _ (mem_vals hr)).1; simp only [itv] at this; omega) (by have := row_len hxo.1; omega) W (hio.belowV h) (valsIn_of_owns hv) (rowOK_of_owns (r := (yq, pick xs cs, yc)) hv (by have := row_len hxo.1; show (pick xs cs).length ≤ _; omega)).2
            have HPK := Lib.hid fun W (h : Below wo.heap.size wo W) => Picks_any xq q xs cs xc d c2.1 (by omega) W (c2.belowV h).2 (HC.out.belowV (hB.trans (h.mono hB.size))) hxo.2.1
            have HNX := Lib.hid hnx
            have HAS := Lib.hid (show Asc (put (vals os) (pick xs cs) xn) ∧ Bd (i + 1) (put (vals os) (pick xs cs) xn) from ⟨put_asc hbo.out.1 hxo.1, hbo.out.2.put hxo.1 (by have := hxo.2.2; omega) (by have := hxo.2.2; omega)⟩)
            have HS := Lib.hid (show ∀ w' : World, Below wo.heap.size wo w' → (Below wo.heap.size wo w' ∧ w'.cell? ⟨b, off + i * 2, none⟩ = some (.slice xq xs.length xc) ∧ w'.cell? ⟨b, off + i * 2 + 1, none⟩ = some (.int .i64 xn)) from fun w' hb => ⟨hb, (hb.cell (p := ⟨b, off + i * 2, none⟩) hbw).trans c0, (hb.cell (p := ⟨b, off + i * 2 + 1, none⟩) hbw).trans c1⟩)
            clear hnx hxo c2 c3 hio
            go_wp2_with fail
            refine wp_region_held_drew (S := fun w' : World => Below wo.heap.size wo w' ∧ w'.cell? ⟨b, off + i * 2, none⟩ = some (.slice xq xs.length xc) ∧ w'.cell? ⟨b, off + i * 2 + 1, none⟩ = some (.int .i64 xn)) (by kernel_rfl) (HS.out _ (Below.refl _ _).drew) (fun hHeld => ?_)
            refine wpAnyH_take (i := 0) (oi := _) (v := ?_) rfl (by kernel_rfl) (by kernel_rfl) (by kernel_rfl) (fun _ _ _ h => h) (Or.inl ⟨by rfl, ?_⟩) (by assumption) ?_
            rotate_left
            · intro w hSw
              try dsimp only at hSw
              go_simp
              all_goals with_reducible rfl
            simp only [List.getElem_toArray, List.getElem_cons_zero, Act.put, List.setIfInBounds_toArray, List.set_cons_zero, List.set_cons_succ]
            refine wpAnyH_take (i := 1) (oi := _) (v := ?_) rfl (by kernel_rfl) (by kernel_rfl) (by kernel_rfl) (fun _ _ _ h => h) (Or.inl ⟨by rfl, ?_⟩) (by assumption) ?_
            rotate_left
            · intro w hSw
              try dsimp only at hSw
              go_simp
              all_goals with_reducible rfl
            simp only [List.getElem_toArray, List.getElem_cons_succ, List.getElem_cons_zero, Act.put, List.setIfInBounds_toArray, List.set_cons_zero, List.set_cons_succ]
            refine wpAnyH_take (i := 2) (oi := _) (v := ?_) rfl (by kernel_rfl) (by kernel_rfl) (by kernel_rfl) (fun _ _ _ h => h) (Or.inl ⟨by rfl, ?_⟩) (by assumption) ?_
            rotate_left
            · intro w hSw
              try dsimp only at hSw
              go_simp
              all_goals with_reducible rfl
            simp only [List.getElem_toArray, List.getElem_cons_succ, List.getElem_cons_zero, Act.put, List.setIfInBounds_toArray, List.set_cons_zero, List.set_cons_succ]
            refine wpAnyH_take (i := 3) (oi := _) (v := ?_) rfl (by kernel_rfl) (by kernel_rfl) (by kernel_rfl) (fun _ _ _ h => h) (Or.inl ⟨by rfl, ?_⟩) (by assumption) ?_
            rotate_left
            · intro w hSw
              try dsimp only at hSw
              go_simp
              all_goals with_reducible rfl
            simp only [List.getElem_toArray, List.getElem_cons_succ, List.getElem_cons_zero, Act.put, List.setIfInBounds_toArray, List.set_cons_zero, List.set_cons_succ]
            refine wpAnyH_take (i := 4) (oi := _) (v := ?_) rfl (by kernel_rfl) (by kernel_rfl) (by kernel_rfl) (fun _ _ _ h => h) (Or.inl ⟨by rfl, ?_⟩) (by assumption) ?_
            rotate_left
            · intro w hSw
              try dsimp only at hSw
              go_simp
              all_goals with_reducible rfl
            simp only [List.getElem_toArray, List.getElem_cons_succ, List.getElem_cons_zero, Act.put, List.setIfInBounds_toArray, List.set_cons_zero, List.set_cons_succ]
            refine wpAnyH_take (i := 5) (oi := _) (v := ?_) rfl (by kernel_rfl) (by kernel_rfl) (by kernel_rfl) (fun _ _ _ h => h) (Or.inl ⟨by rfl, ?_⟩) (by assumption) ?_
            rotate_left
            · intro w hSw
              try dsimp only at hSw
              go_simp
              all_goals with_reducible rfl
            simp only [List.getElem_toArray, List.getElem_cons_succ, List.getElem_cons_zero, Act.put, List.setIfInBounds_toArray, List.set_cons_zero, List.set_cons_succ]
            refine wpAnyH_take (i := 6) (oi := _) (v := ?_) rfl (by kernel_rfl) (by kernel_rfl) (by kernel_rfl) (fun _ _ _ h => h) (Or.inl ⟨by rfl, ?_⟩) (by assumption) ?_
            rotate_left
            · intro w hSw
              try dsimp only at hSw
              go_simp
              all_goals with_reducible rfl
            simp only [List.getElem_toArray, List.getElem_cons_succ, List.getElem_cons_zero, Act.put, List.setIfInBounds_toArray, List.set_cons_zero, List.set_cons_succ]
            refine wpAnyH_take (i := 8) (oi := _) (v := ?_) rfl (by kernel_rfl) (by kernel_rfl) (by kernel_rfl) (fun _ _ _ h => h) (Or.inl ⟨by rfl, ?_⟩) (by assumption) ?_
            rotate_left
            · intro w hSw
              try dsimp only at hSw
              go_simp
              all_goals with_reducible rfl
            simp only [List.getElem_toArray, List.getElem_cons_succ, List.getElem_cons_zero, Act.put, List.setIfInBounds_toArray, List.set_cons_zero, List.set_cons_succ]
            refine wpAnyH_take (i := 9) (oi := _) (v := ?_) rfl (by kernel_rfl) (by kernel_rfl) (by kernel_rfl) (fun _ _ _ h => h) (Or.inl ⟨by rfl, ?_⟩) (by assumption) ?_
            rotate_left
            · intro w hSw
              try dsimp only at hSw
              go_simp
              all_goals with_reducible rfl
            simp only [List.getElem_toArray, List.getElem_cons_succ, List.getElem_cons_zero, Act.put, List.setIfInBounds_toArray, List.set_cons_zero, List.set_cons_succ]
            refine wpAnyH_take (i := 10) (oi := _) (v := ?_) rfl (by kernel_rfl) (by kernel_rfl) (by kernel_rfl) (fun _ _ _ h => h) (Or.inl ⟨by rfl, ?_⟩) (by assumption) ?_
            rotate_left
            · intro w hSw
              try dsimp only at hSw
              go_simp
              all_goals with_reducible rfl
            simp only [List.getElem_toArray, List.getElem_cons_succ, List.getElem_cons_zero, Act.put, List.setIfInBounds_toArray, List.set_cons_zero, List.set_cons_succ]
            refine wpAnyH_take (i := 11) (oi := _) (v := ?_) rfl (by kernel_rfl) (by kernel_rfl) (by kernel_rfl) (fun _ _ _ h => h) (Or.inl ⟨by rfl, ?_⟩) (by assumption) ?_
            rotate_left
            · intro w hSw
              try dsimp only at hSw
              go_simp
              all_goals with_reducible rfl
            simp only [List.getElem_toArray, List.getElem_cons_succ, List.getElem_cons_zero, Act.put, List.setIfInBounds_toArray, List.set_cons_zero, List.set_cons_succ]
            refine wpAnyH_take (i := 12) (oi := _) (v := ?_) rfl (by kernel_rfl) (by kernel_rfl) (by kernel_rfl) (fun _ _ _ h => h) (Or.inl ⟨by rfl, ?_⟩) (by assumption) ?_
            rotate_left
            · intro w hSw
              try dsimp only at hSw
              go_simp
              all_goals with_reducible rfl
            simp only [List.getElem_toArray, List.getElem_cons_succ, List.getElem_cons_zero, Act.put, List.setIfInBounds_toArray, List.set_cons_zero, List.set_cons_succ]
            refine wpAnyH_ready (rs := [7]) (by kernel_rfl) (by simp) ?_
            refine AllReadyH.cons (o := _) rfl (fun K hK => ?_) AllReadyH.nil
            go_simp
            refine (HPK.out _ hHeld.1).mono ?_
            rintro e u1 ⟨vv, rfl, hown1, kb1⟩
            obtain ⟨yq, yc, rfl⟩ := slice_of_owns hown1
            have hU1 : Below wo.heap.size wo u1 := hHeld.1.trans (kb1.mono hHeld.1.size)
            refine hK.out _ _ (HS.out _ hU1) (fun hHeld1 => ?_)
            clear kb1 hHeld
            clear hK K
            try simp only [List.getElem_toArray, List.getElem_cons_succ, List.getElem_cons_zero, Act.put, List.setIfInBounds_toArray, List.set_cons_zero, List.set_cons_succ]
            refine wpAnyH_ready (rs := [13]) (by kernel_rfl) (by simp) ?_
            refine AllReadyH.cons (o := _) rfl (fun K hK => ?_) AllReadyH.nil
            go_simp
            refine (HP.out _ hU1 _ yq yc hown1).mono ?_
            rintro e w3 ⟨p3, os3, c3, rfl, hv3, hoc3, hol3, hi3, hz3, hb3⟩
            have hB3 : Below wo.heap.size wo w3 := hU1.trans (hb3.mono hU1.size)
            have HV3 := Lib.hid hv3
            have HZ3 := Lib.hid hz3
            refine hK.out _ _ (HS.out _ hB3) (fun hHeld2 => ?_)
            clear hHeld1 hown1 hv3 hz3 hb3 hU1
            clear hK K
            try simp only [List.getElem_toArray, List.getElem_cons_succ, List.getElem_cons_zero, Act.put, List.setIfInBounds_toArray, List.set_cons_zero, List.set_cons_succ]
            refine wpAnyH_take (i := 14) (oi := _) (v := ?_) rfl (by kernel_rfl) (by kernel_rfl) (by kernel_rfl) (fun _ _ _ h => h) (Or.inl ⟨by rfl, ?_⟩) (by assumption) ?_
            rotate_left
            · intro w hSw
              try dsimp only at hSw
              go_simp
              all_goals with_reducible rfl
            simp only [List.getElem_toArray, List.getElem_cons_succ, List.getElem_cons_zero, Act.put, List.setIfInBounds_toArray, List.set_cons_zero, List.set_cons_succ]
            refine wpAnyH_done (by kernel_rfl) ?_ _
            go_wp2_with fail
            go_roundw
            case rel => exact ⟨i + 1, p3, os3, c3, rfl, by go_num, by omega, (by show _ = _; rw [HNX.out, HV3.out]), (by show _ ∧ _; rw [HV3.out]; exact HAS.out), hoc3, by omega, hi3, HZ3.out, hB.trans (hB3.mono hB.size)⟩
            case measure => simp [intOf]; omega
          · have hge : (rs.length : Int) ≤ (i : Int) := by omega
            have hie : i = rs.length := by omega
            have hV : vals os = after [] ((vals rs).map (pkI cs)) := by have := hvo.out; rwa [hie, ← vals_len rs, List.take_length] at this
            have ht := told_any p' os c' hoc (by omega) wo hio
            rw [hV, ← HE12.out.1, ← HE12.out.2] at ht
            have HT := Lib.hid ht
            clear hie ht hV hvo hio hbo
            go_wp2_with fail
            refine HT.out.mono ?_
            rintro e w4 ⟨p4, s4, c4, rfl, h1, h2, h3, h4, h5⟩
            have HH := Lib.hid (And.intro h1 (And.intro h2 (And.intro h3 (And.intro h4 h5))))
            clear h1 h2 h3 h4 h5
            go_wp2_with fail
            go_ret2
            exact ⟨p4, s4, c4, rfl, HH.out.1, HH.out.2.1, HH.out.2.2.1, HH.out.2.2.2.1, hB.trans (HH.out.2.2.2.2.mono hB.size)⟩
      · have h8' : (8 : Int) < (cs.length : Int) := by omega
        have HE12 := Lib.hid (show prjErr (vals rs) cs = 4 ∧ prjVal (vals rs) cs = [] by
          unfold prjErr prjVal
          rw [if_pos HQ1.out, if_pos HO.out, if_pos (by omega), if_neg (fun h => h.2.2 (by omega))]
          exact ⟨rfl, rfl⟩)
        clear h8
        go_wp2_with fail
        go_ret2
        rw [HE12.out.1, HE12.out.2]
        exact bagPost_nil hB

set_option maxRecDepth 100000 in
set_option maxHeartbeats 1000000 in
theorem refProject_any (p q : Option Addr) (rs : List ItR) (cs : List Int) (c d : Nat) (hm : rs.length ≤ 9223372036854775807) (hmc : cs.length ≤ 9223372036854775807) (w : World) (hX : ItemsIn w p rs) (hC : IntsIn w q cs) :
    Calls Tryz.prog 23 #[.slice p rs.length c, .slice q cs.length d] w (BagPost w.heap.size w (prjVal (vals rs) cs) (prjErr (vals rs) cs)) := by
  cases q1 : validBag (vals rs) with
  | false =>
    have h1 := refBagValid_any p rs c hm w hX
    have e1 : prjErr (vals rs) cs = 1 := by unfold prjErr; rw [q1]; rfl
    have e2 : prjVal (vals rs) cs = [] := by unfold prjVal; rw [q1, if_neg (fun h => absurd h.1 (by decide))]
    rw [e1, e2]
    rw [q1] at h1
    have H1 := Lib.hid h1
    clear h1 q1 e1 e2 hX hC
    go_enter Tryz.func23, Tryz.ntmps23
    go_wp2_with fail
    refine H1.out.mono ?_
    rintro e w1 ⟨rfl, hb1⟩
    go_wp2_with fail
    go_ret2
    exact bagPost_nil hb1
  | true =>
    have hl4 : rs.length ≤ 400 := by have := (validBag_iff.1 q1).1; rwa [vals_len] at this
    exact refProject_yes p q rs cs c d hl4 hmc w hX hC q1
end Go.Proofs.YthoimepdioeckaaGreatDoor

/-!
  The document's own SameRows at lists of rows that read alike; an argument that is a list of rows, opened.
-/
namespace Go.Proofs.YthoimepdioeckaaGreatDoor
open Go.ChangeShapes Go.WideShapes Go.ChangeAt Go.RowKit Go.Deep

set_option maxRecDepth 100000 in
set_option maxHeartbeats 4000000 in
theorem SameRs_any (p q : Option Addr) (r1 r2 : List RowV) (c d : Nat) (he : rvals r1 = rvals r2) (hm : r1.length ≤ 9223372036854775807) (w : World) (hX : RowsIn w p r1) (hY : RowsIn w q r2) :
    Calls Tryz.prog 26 #[.slice p r1.length c, .slice q r2.length d] w fun e w' => e = .returned (.bool true) ∧ Below w.heap.size w w' := by
  have hl : r2.length = r1.length := by have := congrArg List.length he; rw [rvals_len, rvals_len] at this; omega
  have HX := Lib.hid hX
  have HY := Lib.hid hY
  have HE := Lib.hid he
  have HL := Lib.hid hl
  rw [hl]
  clear hX hY he hl
  go_enter Tryz.func26, Tryz.ntmps26
  go_wp2_with fail
  go_loopw [5] (fun s wr => ∃ i : Nat, s = .int .i64 i ∧ i ≤ r1.length ∧ Below w.heap.size w wr) (fun s _ => r1.length - (intOf s).toNat)
  case atStart => exact ⟨0, rfl, Nat.zero_le _, Below.refl _ _⟩
  case round =>
    obtain ⟨i, rfl, hi, hB⟩ := hrel
    obtain ⟨wo, hwo⟩ : ∃ wo : World, wo = wr := ⟨_, rfl⟩
    subst hwo
    by_cases hlt : i < r1.length
    · obtain ⟨b, off, rfl, hbl, hra⟩ := HX.out (by omega)
      obtain ⟨b2, off2, rfl, hbl2, hra2⟩ := HY.out (by rw [HL.out]; omega)
      obtain ⟨c0, c2⟩ := (hra.belowV hB hbl) i hlt
      obtain ⟨d0, d2⟩ := (hra2.belowV hB hbl2) i (by rw [HL.out]; exact hlt)
      have hi0 : (0 : Int) ≤ (i : Int) := by omega
      have hi1 : (i : Int) < (r1.length : Int) := by omega
      have hbw : b < wo.heap.size := Nat.lt_of_lt_of_le hbl hB.size
      have hbw2 : b2 < wo.heap.size := Nat.lt_of_lt_of_le hbl2 hB.size
      have hev : (r1[i]?.getD r0).2.1 = (r2[i]?.getD r0).2.1 := by rw [← rvals_get, ← rvals_get, HE.out]
      clear hra hra2
      generalize (r1[i]?.getD r0) = x at *
      generalize (r2[i]?.getD r0) = y at *
      obtain ⟨xq, xs, xc⟩ := x
      obtain ⟨yq, ys, yc⟩ := y
      dsimp only [rowv] at c0 c2 d0 d2 hev
      subst hev
      have HSM := Lib.hid fun W (h : Below wo.heap.size wo W) => Same_any xq yq xs xc yc xs.length rfl c2.1 W (c2.belowV h).2 (d2.belowV h).2
      have HS := Lib.hid (show ∀ w' : World, Below wo.heap.size wo w' → (Below wo.heap.size wo w' ∧ w'.cell? ⟨b, off + i, none⟩ = some (.slice xq xs.length xc) ∧ w'.cell? ⟨b2, off2 + i, none⟩ = some (.slice yq xs.length yc)) from fun w' hb => ⟨hb, (hb.cell (p := ⟨b, off + i, none⟩) hbw).trans c0, (hb.cell (p := ⟨b2, off2 + i, none⟩) hbw2).trans d0⟩)
      clear c2 d2
      go_wp2_with fail
      refine wp_region_held_drew (S := fun w' : World => Below wo.heap.size wo w' ∧ w'.cell? ⟨b, off + i, none⟩ = some (.slice xq xs.length xc) ∧ w'.cell? ⟨b2, off2 + i, none⟩ = some (.slice yq xs.length yc)) (by kernel_rfl) (HS.out _ (Below.refl _ _).drew) (fun hHeld => ?_)
      refine wpAnyH_take (i := 0) (oi := _) (v := ?_) rfl (by kernel_rfl) (by kernel_rfl) (by kernel_rfl) (fun _ _ _ h => h) (Or.inl ⟨by rfl, ?_⟩) (by assumption) ?_
      rotate_left
      · intro w hSw
        try dsimp only at hSw
        go_simp
        all_goals with_reducible rfl
      simp only [List.getElem_toArray, List.getElem_cons_zero, Act.put, List.setIfInBounds_toArray, List.set_cons_zero, List.set_cons_succ]
      refine wpAnyH_take (i := 1) (oi := _) (v := ?_) rfl (by kernel_rfl) (by kernel_rfl) (by kernel_rfl) (fun _ _ _ h => h) (Or.inl ⟨by rfl, ?_⟩) (by assumption) ?_
      rotate_left
      · intro w hSw
        try dsimp only at hSw
        go_simp
        all_goals with_reducible rfl
      simp only [List.getElem_toArray, List.getElem_cons_succ, List.getElem_cons_zero, Act.put, List.setIfInBounds_toArray, List.set_cons_zero, List.set_cons_succ]
      refine wpAnyH_take (i := 2) (oi := _) (v := ?_) rfl (by kernel_rfl) (by kernel_rfl) (by kernel_rfl) (fun _ _ _ h => h) (Or.inl ⟨by rfl, ?_⟩) (by assumption) ?_
      rotate_left
      · intro w hSw
        try dsimp only at hSw
        go_simp
        all_goals with_reducible rfl
      simp only [List.getElem_toArray, List.getElem_cons_succ, List.getElem_cons_zero, Act.put, List.setIfInBounds_toArray, List.set_cons_zero, List.set_cons_succ]
      refine wpAnyH_take (i := 3) (oi := _) (v := ?_) rfl (by kernel_rfl) (by kernel_rfl) (by kernel_rfl) (fun _ _ _ h => h) (Or.inl ⟨by rfl, ?_⟩) (by assumption) ?_
      rotate_left
      · intro w hSw
        try dsimp only at hSw
        go_simp
        all_goals with_reducible rfl
      simp only [List.getElem_toArray, List.getElem_cons_succ, List.getElem_cons_zero, Act.put, List.setIfInBounds_toArray, List.set_cons_zero, List.set_cons_succ]
      refine wpAnyH_take (i := 4) (oi := _) (v := ?_) rfl (by kernel_rfl) (by kernel_rfl) (by kernel_rfl) (fun _ _ _ h => h) (Or.inl ⟨by rfl, ?_⟩) (by assumption) ?_
      rotate_left
      · intro w hSw
        try dsimp only at hSw
        go_simp
        all_goals with_reducible rfl
      simp only [List.getElem_toArray, List.getElem_cons_succ, List.getElem_cons_zero, Act.put, List.setIfInBounds_toArray, List.set_cons_zero, List.set_cons_succ]
      refine wpAnyH_take (i := 5) (oi := _) (v := ?_) rfl (by kernel_rfl) (by kernel_rfl) (by kernel_rfl) (fun _ _ _ h => h) (Or.inl ⟨by rfl, ?_⟩) (by assumption) ?_
      rotate_left
      · intro w hSw
        try dsimp only at hSw
        go_simp
        all_goals with_reducible rfl
      simp only [List.getElem_toArray, List.getElem_cons_succ, List.getElem_cons_zero, Act.put, List.setIfInBounds_toArray, List.set_cons_zero, List.set_cons_succ]
      refine wpAnyH_take (i := 6) (oi := _) (v := ?_) rfl (by kernel_rfl) (by kernel_rfl) (by kernel_rfl) (fun _ _ _ h => h) (Or.inl ⟨by rfl, ?_⟩) (by assumption) ?_
      rotate_left
      · intro w hSw
        try dsimp only at hSw
        go_simp
        all_goals with_reducible rfl
      simp only [List.getElem_toArray, List.getElem_cons_succ, List.getElem_cons_zero, Act.put, List.setIfInBounds_toArray, List.set_cons_zero, List.set_cons_succ]
      refine wpAnyH_take (i := 7) (oi := _) (v := ?_) rfl (by kernel_rfl) (by kernel_rfl) (by kernel_rfl) (fun _ _ _ h => h) (Or.inl ⟨by rfl, ?_⟩) (by assumption) ?_
      rotate_left
      · intro w hSw
        try dsimp only at hSw
        go_simp
        all_goals with_reducible rfl
      simp only [List.getElem_toArray, List.getElem_cons_succ, List.getElem_cons_zero, Act.put, List.setIfInBounds_toArray, List.set_cons_zero, List.set_cons_succ]
      refine wpAnyH_ready (rs := [8]) (by kernel_rfl) (by simp) ?_
      refine AllReadyH.cons (o := _) rfl (fun K hK => ?_) AllReadyH.nil
      go_simp
      refine (HSM.out _ hHeld.1).mono ?_
      rintro e u1 ⟨rfl, kb1⟩
      have hU1 : Below wo.heap.size wo u1 := hHeld.1.trans (kb1.mono hHeld.1.size)
      refine hK.out _ _ (HS.out _ hU1) (fun hHeld1 => ?_)
      clear kb1 hHeld
      clear hK K
      try simp only [List.getElem_toArray, List.getElem_cons_succ, List.getElem_cons_zero, Act.put, List.setIfInBounds_toArray, List.set_cons_zero, List.set_cons_succ]
      refine wpAnyH_take (i := 9) (oi := _) (v := ?_) rfl (by kernel_rfl) (by kernel_rfl) (by kernel_rfl) (fun _ _ _ h => h) (Or.inl ⟨by rfl, ?_⟩) (by assumption) ?_
      rotate_left
      · intro w hSw
        try dsimp only at hSw
        go_simp
        all_goals with_reducible rfl
      simp only [List.getElem_toArray, List.getElem_cons_succ, List.getElem_cons_zero, Act.put, List.setIfInBounds_toArray, List.set_cons_zero, List.set_cons_succ]
      refine wpAnyH_done (by kernel_rfl) ?_ _
      go_wp2_with fail
      go_roundw
      case rel => exact ⟨i + 1, by go_num, by omega, hB.trans (hU1.mono hB.size)⟩
      case measure => simp [intOf]; omega
    · have hge : (r1.length : Int) ≤ (i : Int) := by omega
      go_wp2_with fail
      go_ret
      exact ⟨rfl, hB⟩

abbrev RwsV := Option Addr × List RowV × Nat
def rwsv (b : RwsV) : Value := .slice b.1 b.2.1.length b.2.2
def RwsOK (W : World) (b : RwsV) : Prop := b.2.1.length ≤ 9223372036854775807 ∧ RowsIn W b.1 b.2.1 ∧ ∀ r ∈ b.2.1, r.1 = none → r.2.2 = 0
set_option maxRecDepth 100000 in
theorem open_rws {H : Type} {enc : TypeId × Value → H} {W : World} {fuel : Nat} {cs : List Value} {x : DataW H × List MemPlace}
    (h : DataW.trod enc Tryz.prog W 0 (fun _ => true) true fuel 42 cs = some x) : ∃ b : RwsV, cs = [rwsv b] ∧ RwsOK W b := by
  rcases open_slice Tryz.underlying42 h with ⟨rfl, _⟩ | ⟨a, len, cap, m, n, D, Pl, rfl, _, hlc, hcm, hm, _, hi⟩
  · exact ⟨(none, [], 0), rfl, by simp, (fun h => absurd h (by simp)), by simp⟩
  · rw [if_pos rfl] at hm
    subst hm
    have ce : Tryz.prog.cellsOf 38 = 1 := by kernel_rfl
    have each : ∀ i, i < len → ∃ q : RowV, W.cell? (a.add i) = some (rowv q) ∧ RowOK W q ∧ (q.1 = none → q.2.2 = 0) := fun i hil => by
      obtain ⟨cs', h1, h2⟩ := hi i (by omega)
      rw [ce, Nat.mul_one] at h1
      obtain ⟨_, hlen, hcell⟩ := World.cells?_some h1
      obtain ⟨r, e0, hrl, hrv, hrz, _⟩ := open_vals h2
      subst e0
      have d0 := hcell 0 (by simp)
      rw [add_of_add] at d0
      exact ⟨r, by simpa using d0, ⟨Nat.le_trans hrl (by decide), hrv⟩, hrz⟩
    obtain ⟨q, hq⟩ := choose_lt each
    have hl : ((List.range len).map q).length = len := by simp
    refine ⟨(some a, (List.range len).map q, m), by simp [rwsv], by simp; unfold maxLen at *; omega, fun hp => ?_, fun r hr => ?_⟩
    · dsimp only at hp ⊢
      rw [hl] at hp
      obtain ⟨b, off, spot⟩ := a
      have h00 := (hq 0 hp).1
      have hspot : spot = none := by simpa [Addr.add] using World.cell?_spot h00
      subst hspot
      have e0 := (hq 0 hp).1
      rw [add_plain] at e0
      refine ⟨b, off, rfl, World.block_lt_of_cell? W _ e0, fun i hil => ?_⟩
      rw [hl] at hil
      obtain ⟨c0, c2, _⟩ := hq i hil
      rw [add_plain] at c0
      have : ((List.range len).map q)[i]?.getD r0 = q i := by simp [hil]
      rw [this]
      exact ⟨c0, c2⟩
    · obtain ⟨i, hi, rfl⟩ := List.mem_map.1 hr
      exact (hq i (List.mem_range.1 hi)).2.2
set_option maxRecDepth 100000 in
theorem open_rows {H : Type} {enc : TypeId × Value → H} {W : World} {base : Nat} {v : Value} {d : DataW H} {ps : List MemPlace} (hval : Value.okWide Tryz.prog W .any base 42 v)
    (h : DataW.Trod enc Tryz.prog W 0 (fun _ => true) true 42 v d ps) : ∃ b : RwsV, v = rwsv b ∧ RwsOK W b := by
  obtain ⟨a, len, cap, rfl⟩ := okWide_slice Tryz.underlying42 hval
  obtain ⟨fuel, hf⟩ := h
  obtain ⟨b, hb, hok⟩ := open_rws hf
  simp only [Value.cells, List.cons.injEq, and_true] at hb
  exact ⟨b, hb, hok⟩
set_option maxRecDepth 100000 in
theorem open_cols {H : Type} {enc : TypeId × Value → H} {W : World} {base : Nat} {v : Value} {d : DataW H} {ps : List MemPlace} (hval : Value.okWide Tryz.prog W .any base 43 v)
    (h : DataW.Trod enc Tryz.prog W 0 (fun _ => true) true 43 v d ps) : ∃ p ts cap, v = .slice p ts.length cap ∧ ts.length ≤ maxLen ∧ IntsIn W p ts := by
  obtain ⟨a, len, cap, rfl⟩ := okWide_slice Tryz.underlying43 hval
  obtain ⟨fuel, hf⟩ := h
  rcases open_ints Tryz.underlying43 Tryz.underlying3 (by kernel_rfl) hf with ⟨h0, _⟩ | ⟨a', len', cap', zs, hcs, _, hlc, hcm, hz, _, hc, _⟩
  · simp only [Value.cells, List.cons.injEq, Value.slice.injEq, and_true] at h0
    obtain ⟨rfl, rfl, rfl⟩ := h0
    exact ⟨none, [], 0, rfl, by simp, fun h => absurd h (by simp)⟩
  · simp only [Value.cells, List.cons.injEq, Value.slice.injEq, and_true] at hcs
    obtain ⟨rfl, rfl, rfl⟩ := hcs
    rw [if_pos rfl] at hz
    have hl : (zs.take len).length = len := by rw [List.length_take]; omega
    refine ⟨some a', zs.take len, cap, by rw [hl], by rw [hl]; omega, fun h => ?_⟩
    rw [hl] at h
    obtain ⟨b, off, rfl, hcell⟩ := ints_at hc (by omega)
    refine ⟨b, off, rfl, World.block_lt_of_cell? W _ (hcell 0 (by omega)), fun i hil => ?_⟩
    rw [hl] at hil
    rw [hcell i (by omega)]
    simp [hil]
end Go.Proofs.YthoimepdioeckaaGreatDoor

