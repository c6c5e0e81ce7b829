/-
  The document's own Picked.
-/
import Derived.Test.YtfkkdoodngldhaaDoorPicked
namespace Go.Proofs.YtfkkdoodngldhaaDoor
open Go.RowKit
set_option linter.unusedVariables false

set_option maxRecDepth 100000 in
set_option maxHeartbeats 4000000 in
theorem refPicked_any (p q : Option Addr) (l : List Col) (cs : List Int) (c d : Nat) (hcap : l.length ≤ c) (hmcap : c ≤ 9223372036854775807) (hm : l.length ≤ 9223372036854775807) (hmc : cs.length ≤ 9223372036854775807) (hsz : ∀ j, (colAt l j).1.size ≤ maxLen) (w : World) (hX : ColsIn w p l) (hC : IntsIn w q cs) :
    Calls Tryd.prog 44 #[.slice p l.length c, .slice q cs.length d] w (TwoPostC w (pickedVal l cs) (pickedErr l cs)) := by
  have hv := refSchema_any p l c hcap hm hmcap hsz w hX
  cases hq : schemaOK l with
  | false =>
    have he : pickedErr l cs = 1 := by unfold pickedErr; rw [hq]; rfl
    have hy : pickedVal l cs = [] := by unfold pickedVal; rw [he]; rfl
    rw [he, hy]
    rw [hq] at hv
    have HV := Lib.hid hv
    clear hv he hy hX hC hq hsz
    go_enter Tryd.func44, Tryd.ntmps44
    go_wp2_with fail
    refine HV.out.mono ?_
    rintro e w1 ⟨rfl, hb1⟩
    go_wp2_with fail
    go_ret2
    exact ⟨_, rfl, World.ownsRow_nil _ _ _ _, hb1⟩
  | true =>
    rw [hq] at hv
    have HV := Lib.hid hv
    have hno : ∀ i, okCols (cs.take i) l.length = false → pickedErr l cs = 7 ∧ pickedVal l cs = [] := fun i h => by
      have he : pickedErr l cs = 7 := by unfold pickedErr; rw [hq, okCols_stop h]; rfl
      exact ⟨he, by unfold pickedVal; rw [he]; rfl⟩
    have h9 : okCols cs l.length = true → ¬ (1 ≤ cs.length ∧ cs.length ≤ 8) → pickedErr l cs = 9 ∧ pickedVal l cs = [] := fun h h18 => by
      have he : pickedErr l cs = 9 := by unfold pickedErr; rw [hq, h, if_neg (by decide), if_neg (by decide), if_pos h18]
      exact ⟨he, by unfold pickedVal; rw [he]; rfl⟩
    have hdup : okCols cs l.length = true → (1 ≤ cs.length ∧ cs.length ≤ 8) → ∀ i, i < cs.length → (¬ ∀ j, j < i → (colAt (pickC l cs) j).1 ≠ (colAt (pickC l cs) i).1) → pickedErr l cs = 6 ∧ pickedVal l cs = [] := fun h h18 i hi hd => by
      have he : pickedErr l cs = 6 := by unfold pickedErr; rw [hq, h, if_neg (by decide), if_neg (by decide), if_neg (fun g => g h18), distinctB_no (by rw [pickC_len]; exact hi) hd]; rfl
      exact ⟨he, by unfold pickedVal; rw [he]; rfl⟩
    have hok : okCols cs l.length = true → (1 ≤ cs.length ∧ cs.length ≤ 8) → (∀ i, i < cs.length → ∀ j, j < i → (colAt (pickC l cs) j).1 ≠ (colAt (pickC l cs) i).1) → pickedErr l cs = 0 ∧ pickedVal l cs = pickC l cs := fun h h18 hd => by
      have he : pickedErr l cs = 0 := by unfold pickedErr; rw [hq, h, if_neg (by decide), if_neg (by decide), if_neg (fun g => g h18), distinctB_yes (fun i hi => hd i (by rw [pickC_len] at hi; exact hi))]; rfl
      exact ⟨he, by unfold pickedVal; rw [he]; rfl⟩
    generalize pickedErr l cs = er at hno h9 hdup hok ⊢
    generalize pickedVal l cs = vl at hno h9 hdup hok ⊢
    have HNO := Lib.hid hno
    have H9 := Lib.hid h9
    have HDUP := Lib.hid hdup
    have HOK := Lib.hid hok
    have HX := Lib.hid hX
    have HC := Lib.hid hC
    have HW := Lib.hid within_any
    have HAT := Lib.hid At_any
    clear hv hno h9 hdup hok hX hC hq hsz
    go_enter Tryd.func44, Tryd.ntmps44
    go_wp2_with fail
    refine HV.out.mono ?_
    rintro e w1 ⟨rfl, hb1⟩
    clear HV
    go_wp2_with fail
    go_loopw [6] (fun s wr => ∃ i : Nat, s = .int .i64 i ∧ i ≤ cs.length ∧ Hid (okCols (cs.take i) l.length = true) ∧ Below w.heap.size w wr) (fun s _ => cs.length - (intOf s).toNat)
    case atStart => exact ⟨0, rfl, Nat.zero_le _, rfl, hb1⟩
    case round =>
      obtain ⟨i, rfl, hi, hv, hB⟩ := hrel
      by_cases hlt : i < cs.length
      · obtain ⟨b, off, rfl, hbl, hra⟩ := HC.out (by omega)
        have k0 := (hra.belowV hB hbl) i hlt
        have hnx := okCols_next (n := l.length) hlt
        rw [hv.out, Bool.true_and] at hnx
        have hi0 : (0 : Int) ≤ (i : Int) := by omega
        have hi1 : (i : Int) < (cs.length : Int) := by omega
        have hl1 : (l.length : Int) - 1 ≤ 9223372036854775807 := by omega
        clear hra
        generalize cs[i]?.getD 0 = t at k0 hnx
        have HWT := fun W => HW.out t 0 ((l.length : Int) - 1) W
        have hee : decide (0 ≤ t ∧ t ≤ (l.length : Int) - 1) = decide (0 ≤ t ∧ t < (l.length : Int)) := by rw [decide_eq_decide]; omega
        rw [hee] at HWT
        clear hee
        cases hin : decide (0 ≤ t ∧ t < (l.length : Int)) with
        | true =>
          rw [hin] at HWT hnx
          have HN := Lib.hid hnx
          have HWT2 := Lib.hid HWT
          clear hnx HWT hin
          go_wp2_with fail
          refine (HWT2.out _).mono ?_
          rintro e w2 ⟨rfl, rfl⟩
          go_wp2_with fail
          go_roundw
          case rel => exact ⟨i + 1, by go_num, by omega, HN.out, hB⟩
          case measure => simp [intOf]; omega
        | false =>
          rw [hin] at HWT hnx
          have HN := Lib.hid (HNO.out _ hnx)
          have HWT2 := Lib.hid HWT
          clear hnx HWT hin
          go_wp2_with fail
          refine (HWT2.out _).mono ?_
          rintro e w2 ⟨rfl, rfl⟩
          go_wp2_with fail
          go_ret2
          obtain ⟨rfl, rfl⟩ := HN.out
          exact ⟨_, rfl, World.ownsRow_nil _ _ _ _, hB⟩
      · have hge : cs.length ≤ i := by omega
        have hie : i = cs.length := by omega
        have hall : okCols cs l.length = true := by have := hv.out; rw [hie, List.take_length] at this; exact this
        have HWL := fun W => HW.out (cs.length : Int) 1 8 W
        clear hie HNO
        by_cases h18 : 1 ≤ cs.length ∧ cs.length ≤ 8
        · rw [decide_eq_true (by omega)] at HWL
          have HWL2 := Lib.hid HWL
          have HALL := Lib.hid hall
          have HDUP2 := Lib.hid (HDUP.out hall h18)
          have HOK2 := Lib.hid (HOK.out hall h18)
          have h1000 : cs.length ≤ 1000 := by omega
          clear HWL hall H9 HDUP HOK h18 hv
          obtain ⟨i0, hi, hz0, hz1, hz2⟩ := info_parts infoC
          go_wp2_with fail
          refine (HWL2.out _).mono ?_
          rintro e w2 ⟨rfl, rfl⟩
          clear HWL2
          obtain ⟨w3, hw3⟩ : ∃ w3 : World, w3 = wr := ⟨_, rfl⟩
          rw [← hw3] at hB ⊢
          clear hw3
          go_wp2_with fail
          go_loopw [7, 8] (fun o s wr => ∃ i : Nat, s = .int .i64 i ∧ i ≤ cs.length ∧ wr.ownsRow w.heap.size 67 2 o i (flatC (pickC l (cs.take i))) ∧ Hid (∀ k, k < i → ∀ j, j < k → (colAt (pickC l cs) j).1 ≠ (colAt (pickC l cs) k).1) ∧ Below w.heap.size w wr) (fun _ s _ => cs.length - (intOf s).toNat)
          case atStart => exact ⟨0, rfl, Nat.zero_le _, World.ownsRow_nil _ _ _ _, fun k h => absurd h (by omega), hB⟩
          case round =>
            clear hB
            obtain ⟨i, rfl, hin, hrow, hv, hB⟩ := hrel
            have hBs := hB.size
            by_cases hlt : i < cs.length
            · obtain ⟨b, off, rfl, hbl, hra⟩ := HC.out (by omega)
              have k0 := (hra.belowV hB hbl) i hlt
              obtain ⟨ht0, ht1⟩ := okCols_at HALL.out hlt
              have hnx := pickC_next (l := l) hlt
              have hpa := pickC_at (l := l) hlt
              have hi0 : (0 : Int) ≤ (i : Int) := by omega
              have hi1 : (i : Int) < (cs.length : Int) := by omega
              clear hra
              obtain ⟨k, hk⟩ : ∃ k : Nat, cs[i]?.getD 0 = (k : Int) := Int.eq_ofNat_of_zero_le ht0
              rw [hk] at k0 ht0 ht1 hnx hpa
              rw [Int.toNat_natCast] at hnx hpa
              have hkx : k < l.length := by omega
              clear hk
              obtain ⟨b2, off2, rfl, hbl2, hra2⟩ := HX.out (by omega)
              obtain ⟨d0, d1⟩ := (hra2.belowV hB hbl2) k hkx
              clear hra2
              obtain ⟨p3, c3, rfl⟩ := slice_of_owns hrow
              have htl : (pickC l (cs.take i)).length = i := by rw [pickC_len, List.length_take]; omega
              have hcols : ColsIn wr p3 (pickC l (cs.take i)) := colsIn_of_owns (c := c3) (base := w.heap.size) (by unfold OwnsC; rw [htl]; exact hrow)
              have hat := HAT.out p3 (pickC l (cs.take i)) c3 (colAt l k).1 (by omega) wr hcols i htl.symm
              have hneg : (∀ j, j < i → (colAt (pickC l cs) j).1 ≠ (colAt l k).1) → firstAt (pickC l (cs.take i)) (colAt l k).1 = -1 := fun h => firstAt_none (fun j hj => by
                rw [pickC_take, colAt_take (by omega)]; exact h j (by omega))
              have hpos : (¬ ∀ j, j < i → (colAt (pickC l cs) j).1 ≠ (colAt l k).1) → 0 ≤ firstAt (pickC l (cs.take i)) (colAt l k).1 := fun h => by
                by_cases hx : ∃ j, j < i ∧ (colAt (pickC l cs) j).1 = (colAt l k).1
                · obtain ⟨j, hj, e⟩ := hx
                  exact firstAt_hit (j := j) (by omega) (by rw [pickC_take, colAt_take hj]; exact e)
                · exact absurd (fun j hj e => hx ⟨j, hj, e⟩) h
              have hbad : (¬ ∀ j, j < i → (colAt (pickC l cs) j).1 ≠ (colAt l k).1) → er = 6 ∧ vl = [] := fun h => HDUP2.out i hlt (by rw [hpa]; exact h)
              have hgood : (∀ j, j < i → (colAt (pickC l cs) j).1 ≠ (colAt l k).1) → ∀ k', k' < i + 1 → ∀ j, j < k' → (colAt (pickC l cs) j).1 ≠ (colAt (pickC l cs) k').1 := fun h k' hk' j hj => by
                by_cases e : k' = i
                · subst e; rw [hpa]; exact h j hj
                · exact hv.out k' (by omega) j hj
              clear hpa hcols htl hv
              generalize (∀ j, j < i → (colAt (pickC l cs) j).1 ≠ (colAt l k).1) = Q at hneg hpos hbad hgood
              generalize firstAt (pickC l (cs.take i)) (colAt l k).1 = fa at hat hneg hpos
              generalize colAt l k = x at d0 d1 hnx hat
              obtain ⟨x0, x1⟩ := x
              dsimp only at d0 d1 hat
              by_cases hQ : Q
              · obtain rfl := hneg hQ
                have HG := Lib.hid (hgood hQ)
                have HNX := Lib.hid hnx
                have HA := Lib.hid hat
                clear hnx hat hneg hpos hbad hgood hQ
                go_wp2_with fail
                refine HA.out.mono ?_
                rintro e w5 ⟨rfl, rfl⟩
                go_wp2_with (at_builtin; refine wpList_append_own _ rfl _ _ 23 rfl w.heap.size 67 i0 (.agg #[.string ⟨#[]⟩, .int .i64 0]) 2 24 Tryd.underlying23 hi hz0 hz1 hz2 rfl (by decide) _ _ _ rfl (hrow.alloc _) ⟨wr.heap.size, 0, none⟩ 1 1 (cellsC (x0, x1)) rfl rfl (cells_new _ _ _) (by simp [cellsC, Value.oneCell']) (by unfold maxLen; omega) (by omega) (by simp <;> omega) ?_; intro v' w5 hown' hgrow _; have hB5 : Below w.heap.size w w5 := (hB.alloc hBs _).grown hgrow (by simp <;> omega) (fun k e => (hrow.lt k e).1))
                go_roundw
                case rel => exact ⟨i + 1, by go_num, by omega, by rw [HNX.out, flatC_app]; simpa [flatC] using hown', HG.out, hB5⟩
                case measure => simp [intOf]; omega
              · have hfa := hpos hQ
                have HBAD := Lib.hid (hbad hQ)
                have HA := Lib.hid hat
                clear hnx hat hneg hpos hbad hgood hQ
                go_wp2_with fail
                refine HA.out.mono ?_
                rintro e w5 ⟨rfl, rfl⟩
                go_wp2_with fail
                go_ret2
                obtain ⟨rfl, rfl⟩ := HBAD.out
                exact ⟨_, rfl, World.ownsRow_nil _ _ _ _, hB⟩
            · have hge : cs.length ≤ i := by omega
              have hie : i = cs.length := by omega
              have hfin := HOK2.out (fun k hk j hj => hv.out k (by omega) j hj)
              have HF := Lib.hid (show wr.ownsRow w.heap.size 67 2 _ (pickC l cs).length (flatC (pickC l cs)) by have h := hrow; rw [hie, List.take_length] at h; rw [pickC_len]; exact h)
              have HFIN := Lib.hid hfin
              clear hie hrow hfin hv HOK2 HDUP2
              go_wp2_with fail
              go_ret2
              obtain ⟨rfl, rfl⟩ := HFIN.out
              exact ⟨_, rfl, HF.out, hB⟩
        · rw [decide_eq_false (by omega)] at HWL
          have HWL2 := Lib.hid HWL
          have HF := Lib.hid (H9.out hall h18)
          clear HWL hall H9 HDUP HOK h18 hv
          go_wp2_with fail
          refine (HWL2.out _).mono ?_
          rintro e w2 ⟨rfl, rfl⟩
          go_wp2_with fail
          go_ret2
          obtain ⟨rfl, rfl⟩ := HF.out
          exact ⟨_, rfl, World.ownsRow_nil _ _ _ _, hB⟩
end Go.Proofs.YtfkkdoodngldhaaDoor
