/-
  bag's follows and Valid, as contracts.
-/
import Derived.Test.YtledgnolmiecfaaGreatDoorItem
import Derived.Test.YtledgnolmiecfaaGreatDoorCmpRow
import Derived.IntWalk
namespace Go.Proofs.YtledgnolmiecfaaGreatDoor
open Go.RowKit
set_option linter.unusedSimpArgs false

abbrev nItem (r : ItR) : Value := .agg #[rowv r.1, .int .i64 r.2]
abbrev oItem (r : ItR) : Obj := .cells #[rowv r.1, .int .i64 r.2] 38
def BelowB (w : World) (b : Bool) (e : Ending) (w' : World) : Prop := e = .returned (.bool b) ∧ Below w.heap.size w w'

theorem isCount_any (n : Int) (w : World) : Calls Tryz.prog 43 #[.int .i64 n] w fun e w' => e = .returned (.bool (decide (inN n))) ∧ w = w' := by
  by_cases h0 : n = 0
  · have e : decide (inN n) = false := decide_eq_false fun h => h.1 h0
    have hd : (n != 0) = false := by rw [bne_eq_false_iff_eq]; exact h0
    rw [e]
    clear e h0
    go_enter Tryz.func43, Tryz.ntmps43
    go_wp2
    go_ret
    exact ⟨rfl, rfl⟩
  · have hd : (n != 0) = true := by rw [bne_iff_ne]; exact h0
    by_cases h1 : -1000000 ≤ n
    · by_cases h2 : n ≤ 1000000
      · have e : decide (inN n) = true := decide_eq_true ⟨h0, h1, h2⟩
        rw [e]
        clear e h0
        go_enter Tryz.func43, Tryz.ntmps43
        go_wp2
        go_ret
        exact ⟨rfl, rfl⟩
      · have e : decide (inN n) = false := decide_eq_false fun h => h2 h.2.2
        have h2' : decide (n ≤ 1000000) = false := by simpa using h2
        rw [e]
        clear e h0 h2
        go_enter Tryz.func43, Tryz.ntmps43
        go_wp2
        go_ret
        exact ⟨rfl, rfl⟩
    · have e : decide (inN n) = false := decide_eq_false fun h => h1 h.2.1
      have h1' : decide (-1000000 ≤ n) = false := by simpa using h1
      rw [e]
      clear e h0 h1
      go_enter Tryz.func43, Tryz.ntmps43
      go_wp2
      go_ret
      exact ⟨rfl, rfl⟩

theorem vals_last (rs : List ItR) : ((vals rs)[(vals rs).length - 1]?.getD it0).1 = (rs[rs.length - 1]?.getD ir0).1.2.1 := by
  rw [vals_len, vals_get]; rfl

set_option maxRecDepth 100000 in
set_option maxHeartbeats 1000000 in
theorem follows_any (p : Option Addr) (rs : List ItR) (cap : Nat) (hm : rs.length ≤ 9223372036854775807) (r : ItR) (w : World) (hX : ItemsIn w p rs) (hR : RowOK w r.1) :
    Calls Tryz.prog 23 #[.slice p rs.length cap, nItem r] w (BelowB w (followsB (vals rs) (itv r))) := by
  have hbA : Below w.heap.size w (w.alloc (oItem r)) := (Below.refl _ _).alloc (Nat.le_refl _) _
  obtain ⟨⟨q, xs, qc⟩, n⟩ := r
  dsimp only [rowv, itv, nItem, oItem] at *
  have hfb : followsB (vals rs) (xs, n) = (decide (rs.length ≠ 400) && (validRow xs && decide (inN n) && (decide (rs.length = 0) || decide (cmpRow (rs[rs.length - 1]?.getD ir0).1.2.1 xs < 0)))) := by
    unfold followsB itOK; rw [vals_last, vals_len]
  rw [hfb]
  clear hfb
  by_cases h4 : rs.length = 400
  · have hz : ((rs.length : Int) == 400) = true := by rw [beq_iff_eq]; omega
    rw [decide_eq_false (p := rs.length ≠ 400) (by omega), Bool.false_and]
    clear h4
    go_enter Tryz.func23, Tryz.ntmps23
    go_wp2_with fail
    go_ret
    exact ⟨rfl, hbA⟩
  · have hz : ((rs.length : Int) == 400) = false := by rw [beq_eq_false_iff_ne]; omega
    rw [decide_eq_true (p := rs.length ≠ 400) h4, Bool.true_and]
    clear h4
    have hv := rowValid_any q xs qc (w.alloc (.cells #[.slice q xs.length qc, .int .i64 n] 38)) (hR.belowV hbA).2
    cases hq : validRow xs with
    | false =>
      rw [hq] at hv
      rw [Bool.false_and, Bool.false_and]
      have HV := Lib.hid hv
      clear hv hq
      go_enter Tryz.func23, Tryz.ntmps23
      go_wp2_with fail
      refine HV.out.mono ?_
      rintro e w1 ⟨rfl, hb1⟩
      go_wp2_with fail
      go_ret
      exact ⟨rfl, hbA.trans (hb1.mono hbA.size)⟩
    | true =>
      rw [hq] at hv
      rw [Bool.true_and]
      have HV := Lib.hid hv
      clear hv hq
      have hn := fun W => isCount_any n W
      have K0 := Blk.new w 38 #[.slice q xs.length qc, .int .i64 n]
      have HN := Lib.hid (And.intro hX hR)
      have HK0 := Lib.hid K0
      clear hX hR K0
      cases hcn : decide (inN n) with
      | false =>
        rw [hcn] at hn
        rw [Bool.false_and]
        have HI := Lib.hid hn
        clear hn hcn
        go_enter Tryz.func23, Tryz.ntmps23
        go_wp2_with fail
        refine HV.out.mono ?_
        rintro e w1 ⟨rfl, hb1⟩
        have K1 := HK0.out.belowV hb1 (by simp)
        have e1 := K1.cell 1
        simp only [List.getElem?_toArray, List.getElem?_cons_zero, List.getElem?_cons_succ] at e1
        clear K1
        go_wp2_with fail
        refine (HI.out _).mono ?_
        rintro e w2 ⟨rfl, rfl⟩
        go_wp2_with fail
        go_ret
        exact ⟨rfl, hbA.trans (hb1.mono hbA.size)⟩
      | true =>
        rw [hcn] at hn
        rw [Bool.true_and]
        have HI := Lib.hid hn
        clear hn hcn
        by_cases he : rs.length = 0
        · rw [decide_eq_true he, Bool.true_or]
          have hz0 : ((rs.length : Int) == 0) = true := by rw [beq_iff_eq]; omega
          clear he
          go_enter Tryz.func23, Tryz.ntmps23
          go_wp2_with fail
          refine HV.out.mono ?_
          rintro e w1 ⟨rfl, hb1⟩
          have K1 := HK0.out.belowV hb1 (by simp)
          have e1 := K1.cell 1
          simp only [List.getElem?_toArray, List.getElem?_cons_zero, List.getElem?_cons_succ] at e1
          clear K1
          go_wp2_with fail
          refine (HI.out _).mono ?_
          rintro e w2 ⟨rfl, rfl⟩
          go_wp2_with fail
          go_quiet (fail)
          go_wp2_with fail
          go_ret
          have hB1 : Below w.heap.size w w1 := hbA.trans (hb1.mono hbA.size)
          exact ⟨rfl, ⟨hB1.os, hB1.tape, hB1.output, hB1.size, hB1.block⟩⟩
        · rw [decide_eq_false he, Bool.false_or]
          have hz0 : ((rs.length : Int) == 0) = false := by rw [beq_eq_false_iff_ne]; omega
          obtain ⟨b, off, rfl, hbl, hra⟩ := HN.out.1 (by omega)
          obtain ⟨m, hm1⟩ : ∃ m, rs.length = m + 1 := ⟨rs.length - 1, by omega⟩
          have hlast := hra m (by omega)
          rw [show rs.length - 1 = m by omega]
          generalize rs[m]?.getD ir0 = y at hlast
          obtain ⟨⟨yq, ys, yc⟩, yn⟩ := y
          obtain ⟨l0, l1, l2, _⟩ := hlast
          dsimp only [rowv] at l0 l1 l2
          have hcm := fun W (hb : Below w.heap.size w W) => rowCompare_any yq q ys xs yc qc l2.1 HN.out.2.1 W (l2.belowV hb).2 (HN.out.2.belowV hb).2
          have hrg := cmpRow_ok.range ys xs
          generalize cmpRow ys xs = cv at hcm hrg
          have HC := Lib.hid hcm
          have HM := Lib.hid hm1
          have L0 := Lib.hid l0
          clear hcm hm1 l0 l1 l2 hra he hrg
          go_enter Tryz.func23, Tryz.ntmps23
          go_wp2_with fail
          refine HV.out.mono ?_
          rintro e w1 ⟨rfl, hb1⟩
          have K1 := HK0.out.belowV hb1 (by simp)
          have e1 := K1.cell 1
          simp only [List.getElem?_toArray, List.getElem?_cons_zero, List.getElem?_cons_succ] at e1
          clear K1
          go_wp2_with fail
          refine (HI.out _).mono ?_
          rintro e w2 ⟨rfl, rfl⟩
          have hB1 : Below w.heap.size w w1 := hbA.trans (hb1.mono hbA.size)
          have e0 := (HK0.out.belowV hb1 (by simp)).cell 0
          simp only [List.getElem?_toArray, List.getElem?_cons_zero] at e0
          have d0 : w1.cell? ⟨b, off + m * 2, none⟩ = some (.slice yq ys.length yc) := (hB1.cell (p := ⟨b, off + m * 2, none⟩) hbl).trans L0.out
          have g1 : (rs.length : Int) - 1 = (m : Int) := by have := HM.out; omega
          have g2 : IntKind.i64.wrap (m : Int) = (m : Int) := IntWalk.i64_in _ (by have := HM.out; omega)
          have g3 : (0 : Int) ≤ (m : Int) := by omega
          have g4 : (m : Int) < (rs.length : Int) := by have := HM.out; omega
          go_wp2_with fail
          go_still_tail 13, (by kernel_rfl)
          have hB2 : Below w.heap.size w w1.drew := hB1.drew
          clear d0 e0 e1 g1 g2 g3 g4 hb1
          change wpList _ _ _ _ _ w1.drew
          generalize w1.drew = W7 at hB2 ⊢
          go_wp2_with fail
          refine (HC.out _ hB2).mono ?_
          rintro e w3 ⟨rfl, hb3⟩
          go_wp2_with fail
          go_ret
          exact ⟨rfl, hB2.trans (hb3.mono hB2.size)⟩
theorem followsOut (l : List It) (x : It) : followsB l x = false ∨ followsB l x = true := by cases followsB l x <;> simp

set_option maxRecDepth 100000 in
set_option maxHeartbeats 1000000 in
theorem bagValid_any (p : Option Addr) (rs : List ItR) (cap : Nat) (hm : rs.length ≤ 9223372036854775807) (hc : rs.length ≤ cap) (w : World) (hX : ItemsIn w p rs) :
    Calls Tryz.prog 15 #[.slice p rs.length cap] w (BelowB w (validBag (vals rs))) := by
  have HX := Lib.hid hX
  clear hX
  go_enter Tryz.func15, Tryz.ntmps15
  go_wp2_with fail
  go_loopw [7] (fun s wr => ∃ i : Nat, s = .int .i64 i ∧ i ≤ rs.length ∧ Hid (validBag ((vals rs).take i) = true) ∧ Below w.heap.size w wr) (fun s _ => rs.length - (intOf s).toNat)
  case atStart => exact ⟨0, rfl, Nat.zero_le _, rfl, Below.refl _ _⟩
  case round =>
    obtain ⟨i, rfl, hi, hv, hB⟩ := hrel
    by_cases hlt : i < rs.length
    · have hXi := (HX.out.belowV hB).take i
      obtain ⟨b, off, rfl, hbl, hra⟩ := HX.out (by omega)
      obtain ⟨c0, c1, c2, _⟩ := (hra.belowV hB hbl) i hlt
      have hnx := valid_next (l := vals rs) (i := i) (by rw [vals_len]; exact hlt)
      rw [hv.out, Bool.true_and, vals_get] at hnx
      have hi0 : (0 : Int) ≤ (i : Int) := by omega
      have hi1 : (i : Int) < (rs.length : Int) := by omega
      have hi2 : (i : Int) ≤ (cap : Int) := by omega
      have hcz : ¬ cap = 0 := by omega
      have htl : (rs.take i).length = i := by rw [List.length_take]; omega
      clear hra
      generalize (rs[i]?.getD ir0) = r at hnx c0 c1 c2
      have hBs := hB.size
      have hBA : Below w.heap.size w (wr.alloc (oItem r)) := hB.alloc hBs _
      have hBW : Below wr.heap.size wr (wr.alloc (oItem r)) := (Below.refl _ _).alloc (Nat.le_refl _) _
      have HF := Lib.hid fun (W : World) (h : Below wr.heap.size wr W) => follows_any (some ⟨b, off, none⟩) (rs.take i) cap (by omega) r W (hXi.belowV h) (c2.belowV h)
      have HL := Lib.hid htl
      have HNX := Lib.hid hnx
      have a0 : (wr.alloc (oItem r)).cell? ⟨wr.heap.size, 0, none⟩ = some (rowv r.1) := (Blk.new wr 38 #[rowv r.1, .int .i64 r.2]).cell 0
      have a1 : (wr.alloc (oItem r)).cell? ⟨wr.heap.size, 1, none⟩ = some (.int .i64 r.2) := (Blk.new wr 38 #[rowv r.1, .int .i64 r.2]).cell 1
      clear hXi c2 hnx htl
      obtain ⟨⟨q, xs, qc⟩, n⟩ := r
      dsimp only [oItem, nItem, rowv] at *
      rw [HL.out, vals_take] at HF
      go_wp2_with fail
      generalize wr.alloc (.cells #[.slice q xs.length qc, .int .i64 n] 38) = W1 at *
      go_still_tail 4, (by kernel_rfl)
      have hBD : Below w.heap.size w W1.drew := hBA.drew
      have hBE : Below wr.heap.size wr W1.drew := hBW.drew
      clear c0 c1 a0 a1 hBA hBW
      change wpList _ _ _ _ _ W1.drew
      generalize W1.drew = W7 at *
      cases hq : followsB ((vals rs).take i) (itv ((q, xs, qc), n)) with
      | true =>
        rw [hq] at HNX HF
        have HN := Lib.hid HNX.out
        clear HNX hq
        go_wp2_with fail
        refine (HF.out _ hBE).mono ?_
        rintro e w3 ⟨rfl, hb3⟩
        have hB4 := hBD.trans (hb3.mono hBD.size)
        clear hb3 hBD hBE
        go_wp2_with fail
        go_roundw
        case rel => exact ⟨i + 1, by go_num, by omega, HN.out, hB4⟩
        case measure => simp [intOf]; omega
      | false =>
        rw [hq] at HNX HF
        have HN := Lib.hid (valid_stop HNX.out)
        clear HNX hq
        go_wp2_with fail
        refine (HF.out _ hBE).mono ?_
        rintro e w3 ⟨rfl, hb3⟩
        have hB4 := hBD.trans (hb3.mono hBD.size)
        clear hb3 hBD hBE
        go_wp2_with fail
        go_ret
        exact ⟨retB HN.out.symm, hB4⟩
    · have hge : rs.length ≤ i := by omega
      have hie : i = rs.length := by omega
      have HALL := Lib.hid (show validBag (vals rs) = true by have := hv.out; rw [hie, ← vals_len rs, List.take_length] at this; exact this)
      clear hie
      go_wp2_with fail
      go_ret
      exact ⟨retB HALL.out.symm, hB⟩
end Go.Proofs.YtledgnolmiecfaaGreatDoor
