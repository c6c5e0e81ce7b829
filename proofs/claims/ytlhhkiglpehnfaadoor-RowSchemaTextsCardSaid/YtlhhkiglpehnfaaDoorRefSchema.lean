/-
  Which schemas are valid: the document's own.
-/
import Derived.Test.YtlhhkiglpehnfaaDoorSchema
import Derived.BigQuiet
namespace Go.Proofs.YtlhhkiglpehnfaaDoor
open Go.RowKit

theorem quiet_eq {P : Program} {f : FuncId} {args : Array Value} {w : World} {n : Nat} {v : Value} (h : Calls P f args (w.drewN n) fun e w' => e = .returned v ∧ w.drewN n = w') : Calls P f args (w.drewN n) fun e w'' => e = .returned v ∧ ∃ m, w'' = w.drewN m :=
  h.mono fun _ _ ⟨he, hm⟩ => ⟨he, n, hm.symm⟩
theorem below_drewN {n₀ : Nat} {w w' : World} (h : Below n₀ w w') (n : Nat) : Below n₀ w (w'.drewN n) := ⟨h.os, h.tape, h.output, h.size, h.block⟩
theorem firstAt_hit {l : List Col} {s : ByteArray} {j : Nat} (hj : j < l.length) (h : (colAt l j).1 = s) : 0 ≤ firstAt l s := by
  have hx : l.findIdx (fun c => decide (c.1 = s)) < l.length := List.findIdx_lt_length_of_exists ⟨l[j], List.getElem_mem hj, by simpa [colAt, hj] using h⟩
  unfold firstAt
  rw [if_pos hx]
  omega

set_option maxRecDepth 100000 in
set_option maxHeartbeats 4000000 in
theorem refSchema_any (p : Option Addr) (l : List Col) (cap : Nat) (hcap : l.length ≤ cap) (hm : l.length ≤ 9223372036854775807) (hmc : cap ≤ 9223372036854775807) (hsz : ∀ j, (colAt l j).1.size ≤ maxLen) (w : World) (hX : ColsIn w p l) :
    Calls Tryd.prog 8 #[.slice p l.length cap] w (BoolPost w (schemaOK l)) := by
  have hno := fun i (hi : i < l.length) (h : ¬ goodAt l i) => schemaOK_no hi h
  have hfin : (∀ i, i < l.length → goodAt l i) → schemaOK l = decide (1 ≤ (l.length : Int) ∧ (l.length : Int) ≤ 8) := fun hg => by
    by_cases h : 1 ≤ l.length ∧ l.length ≤ 8
    · rw [schemaOK_yes h.1 h.2 hg, decide_eq_true]; omega
    · rw [schemaOK_len h, decide_eq_false]; omega
  generalize schemaOK l = res at hno hfin ⊢
  have HNO := Lib.hid hno
  have HFIN := Lib.hid hfin
  have HX := Lib.hid hX
  have HSZ := Lib.hid hsz
  have HNM := Lib.hid refName_any
  have HAT := Lib.hid At_any
  have HW := Lib.hid fun W => within_any (l.length : Int) 1 8 W
  clear hX hsz hno hfin
  go_enter Tryd.func8, Tryd.ntmps8
  go_wp2_with fail
  go_loopw [3] (fun t wr => ∃ i : Nat, t = .int .i64 i ∧ i ≤ l.length ∧ Hid (∀ j, j < i → goodAt l j) ∧ Below w.heap.size w wr) (fun t _ => l.length - (intOf t).toNat)
  case atStart => exact ⟨0, rfl, Nat.zero_le _, fun j h => absurd h (by omega), Below.refl _ _⟩
  case round =>
    obtain ⟨i, rfl, hi, hv, hB⟩ := hrel
    by_cases hlt : i < l.length
    · have hXi := HX.out.belowV hB
      have hXt := hXi.take i
      obtain ⟨b, off, rfl, hbl, hra⟩ := HX.out (by omega)
      obtain ⟨k0, k1⟩ := (hra.belowV hB hbl) i hlt
      have hi0 : (0 : Int) ≤ (i : Int) := by omega
      have hi1 : (i : Int) < (l.length : Int) := by omega
      have hic : (i : Int) ≤ (cap : Int) := by omega
      have htl : i = (l.take i).length := by rw [List.length_take]; omega
      have hname := HNM.out (colAt l i).1 (Nat.le_trans (HSZ.out i) (by decide))
      have hat := fun nq => HAT.out (some ⟨b, off, none⟩) (l.take i) cap (colAt l i).1 (by omega) (wr.drewN nq) (show ColsIn (wr.drewN nq) _ _ from hXt.belowV (below_drewN (Below.refl _ _) nq)) i htl
      have hnx : goodAt l i → ∀ j, j < i + 1 → goodAt l j := fun h j hj => by
        by_cases e : j = i
        · subst e; exact h
        · exact hv.out j (by omega)
      have hbad : ¬ goodAt l i → res = false := fun h => HNO.out i hlt h
      have hneg : (∀ j, j < i → (colAt l j).1 ≠ (colAt l i).1) → firstAt (l.take i) (colAt l i).1 = -1 := fun h => firstAt_none (fun j hj => by
        rw [colAt_take (by omega)]; exact h j (by omega))
      have hpos : (¬ ∀ j, j < i → (colAt l j).1 ≠ (colAt l i).1) → 0 ≤ firstAt (l.take i) (colAt l i).1 := fun h => by
        by_cases hx : ∃ j, j < i ∧ (colAt l j).1 = (colAt l i).1
        · obtain ⟨j, hj, e⟩ := hx
          exact firstAt_hit (j := j) (by omega) (by rw [colAt_take hj]; exact e)
        · exact absurd (fun j hj e => hx ⟨j, hj, e⟩) h
      generalize hfa : firstAt (l.take i) (colAt l i).1 = fa at hat hneg hpos
      unfold goodAt fineAt at hnx hbad
      clear hra hv hXi hXt hfa htl
      generalize hq0 : (∀ j, j < i → (colAt l j).1 ≠ (colAt l i).1) = Q at hnx hbad hneg hpos
      clear hq0
      generalize (colAt l i).1 = nm at k0 hname hnx hbad hat
      generalize (colAt l i).2 = kd at k1 hnx hbad
      cases hq : nameOK nm with
      | false =>
        rw [hq] at hname
        have HN := Lib.hid (hbad (by rw [hq]; simp))
        have HC := Lib.hid hname
        clear hname hat hnx hbad hneg hpos hq
        go_wp2_with fail
        go_quiet ((go_at_call 18; exact quiet_eq (HC.out _)))
        go_wp2_with fail
        go_ret
        exact ⟨retB HN.out.symm, below_drewN hB _⟩
      | true =>
        rw [hq] at hname
        by_cases hk : kd = 1 ∨ kd = 2
        · by_cases hQ : Q
          · have HN := Lib.hid (hnx ⟨⟨hq, hk⟩, hQ⟩)
            obtain rfl := hneg hQ
            have HC := Lib.hid hname
            have HA := Lib.hid hat
            clear hname hat hnx hbad hpos hq hneg
            rcases hk with rfl | rfl
            · go_wp2_with fail
              go_quiet (first | (go_at_call 18; exact quiet_eq (HC.out _)) | (go_at_call 19; exact quiet_eq (HA.out _)))
              go_wp2_with fail
              go_roundw
              case rel => exact ⟨i + 1, by go_num, by omega, HN.out, below_drewN hB _⟩
              case measure => simp [intOf]; omega
            · go_wp2_with fail
              go_quiet (first | (go_at_call 18; exact quiet_eq (HC.out _)) | (go_at_call 19; exact quiet_eq (HA.out _)))
              go_wp2_with fail
              go_roundw
              case rel => exact ⟨i + 1, by go_num, by omega, HN.out, below_drewN hB _⟩
              case measure => simp [intOf]; omega
          · have HN := Lib.hid (hbad (fun h => hQ h.2))
            have hfa0 := hpos hQ
            have HC := Lib.hid hname
            have HA := Lib.hid hat
            clear hname hat hnx hbad hpos hq hneg
            rcases hk with rfl | rfl
            · go_wp2_with fail
              go_quiet (first | (go_at_call 18; exact quiet_eq (HC.out _)) | (go_at_call 19; exact quiet_eq (HA.out _)))
              go_wp2_with fail
              go_ret
              exact ⟨retB HN.out.symm, below_drewN hB _⟩
            · go_wp2_with fail
              go_quiet (first | (go_at_call 18; exact quiet_eq (HC.out _)) | (go_at_call 19; exact quiet_eq (HA.out _)))
              go_wp2_with fail
              go_ret
              exact ⟨retB HN.out.symm, below_drewN hB _⟩
        · have HN := Lib.hid (hbad (fun h => hk h.1.2))
          have d1 : (kd != 1) = true := by rw [bne_iff_ne]; omega
          have d2 : (kd != 2) = true := by rw [bne_iff_ne]; omega
          have HC := Lib.hid hname
          clear hname hat hnx hbad hneg hpos hq hk
          go_wp2_with fail
          go_quiet ((go_at_call 18; exact quiet_eq (HC.out _)))
          go_wp2_with fail
          go_ret
          exact ⟨retB HN.out.symm, below_drewN hB _⟩
    · have hge : l.length ≤ i := by omega
      have HF := Lib.hid (HFIN.out (fun j hj => hv.out j (by omega)))
      have HW2 := Lib.hid (HW.out wr)
      clear HFIN HW hv
      go_wp2_with fail
      refine HW2.out.mono ?_
      rintro e w2 ⟨rfl, rfl⟩
      go_wp2_with fail
      go_ret
      exact ⟨retB (by rw [HF.out]; simp), hB⟩
end Go.Proofs.YtlhhkiglpehnfaaDoor
