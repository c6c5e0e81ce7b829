/-
  Which schemas are valid: package row.
-/
import Derived.Test.YtlhhkiglpehnfaaDoorNum
namespace Go.Proofs.YtlhhkiglpehnfaaDoor
open Go.RowKit

def fineAt (l : List Col) (i : Nat) : Prop := nameOK (colAt l i).1 = true ∧ ((colAt l i).2 = 1 ∨ (colAt l i).2 = 2)
def goodAt (l : List Col) (i : Nat) : Prop := fineAt l i ∧ ∀ j, j < i → (colAt l j).1 ≠ (colAt l i).1
def schemaP (l : List Col) : Prop := 1 ≤ l.length ∧ l.length ≤ 8 ∧ ∀ i, i < l.length → goodAt l i
instance (l : List Col) (i : Nat) : Decidable (goodAt l i) := by unfold goodAt fineAt; infer_instance
instance (l : List Col) : Decidable (schemaP l) := by unfold schemaP; infer_instance
def schemaOK (l : List Col) : Bool := decide (schemaP l)
theorem schemaOK_no {l : List Col} {i : Nat} (hi : i < l.length) (h : ¬ goodAt l i) : schemaOK l = false := by
  unfold schemaOK; exact decide_eq_false fun H => h (H.2.2 i hi)
theorem schemaOK_len {l : List Col} (h : ¬ (1 ≤ l.length ∧ l.length ≤ 8)) : schemaOK l = false := by
  unfold schemaOK; exact decide_eq_false fun H => h ⟨H.1, H.2.1⟩
theorem schemaOK_yes {l : List Col} (h1 : 1 ≤ l.length) (h8 : l.length ≤ 8) (hg : ∀ i, i < l.length → goodAt l i) : schemaOK l = true := by
  unfold schemaOK; exact decide_eq_true ⟨h1, h8, hg⟩
theorem schemaOK_is {l : List Col} (h : schemaOK l = true) : schemaP l := by
  unfold schemaOK at h; exact of_decide_eq_true h
theorem distinct_iff {l : List Col} : Distinct l l.length ↔ ∀ i, i < l.length → ∀ j, j < i → (colAt l j).1 ≠ (colAt l i).1 :=
  ⟨fun h i hi j hj => h j i hj hi, fun h j k hjk hk => h k hk j hjk⟩
theorem schemaOK_size {l : List Col} {D : DataW Unit} (h1 : 1 ≤ l.length) (h8 : l.length ≤ 8) (hf : ∀ i, i < l.length → fineAt l i) (hN : NumOf l l.length D) : ((Maps.size D : Int) == (l.length : Int)) = schemaOK l := by
  by_cases hd : Distinct l l.length
  · rw [schemaOK_yes h1 h8 (fun i hi => ⟨hf i hi, distinct_iff.1 hd i hi⟩), beq_iff_eq, hN.size.2 hd]
  · have hne : Maps.size D ≠ l.length := fun e => hd (hN.size.1 e)
    have : schemaOK l = false := by
      unfold schemaOK
      exact decide_eq_false fun H => hd (distinct_iff.2 fun i hi => (H.2.2 i hi).2)
    rw [this, beq_eq_false_iff_ne]
    omega

def BoolPost (w : World) (b : Bool) (e : Ending) (w' : World) : Prop := e = .returned (.bool b) ∧ Below w.heap.size w w'

set_option maxRecDepth 100000 in
set_option maxHeartbeats 1000000 in
theorem rowSchema_any (p : Option Addr) (l : List Col) (cap : Nat) (hm : l.length ≤ 9223372036854775807) (hsz : ∀ j, (colAt l j).1.size ≤ maxLen) (w : World) (hX : ColsIn w p l) :
    Calls Tryd.prog 12 #[.slice p l.length cap] w (BoolPost w (schemaOK l)) := by
  by_cases h0 : l.length = 0
  · have hn : schemaOK l = false := schemaOK_len (by omega)
    have h0' : ((l.length : Int) == 0) = true := by rw [beq_iff_eq]; omega
    rw [hn]
    clear hn hX hsz
    go_enter Tryd.func12, Tryd.ntmps12
    go_wp2_with fail
    go_ret
    exact ⟨rfl, Below.refl _ _⟩
  · have h0' : ((l.length : Int) == 0) = false := by rw [beq_eq_false_iff_ne]; omega
    by_cases h8 : 8 < l.length
    · have hn : schemaOK l = false := schemaOK_len (by omega)
      have h8' : (8 : Int) < (l.length : Int) := by omega
      rw [hn]
      clear hn hX hsz h0
      go_enter Tryd.func12, Tryd.ntmps12
      go_wp2_with fail
      go_ret
      exact ⟨rfl, Below.refl _ _⟩
    · have h8' : (l.length : Int) ≤ 8 := by omega
      have hp : 0 < l.length := by omega
      have hnum := fun W (h : Below w.heap.size w W) => numbers_any p l cap (by omega) hsz W (hX.belowV h)
      have hno := fun i (hi : i < l.length) (h : ¬ goodAt l i) => schemaOK_no hi h
      have hfin := fun (hf : ∀ i, i < l.length → fineAt l i) D (hN : NumOf l l.length D) => schemaOK_size (by omega) (by omega) hf hN
      generalize schemaOK l = res at hno hfin ⊢
      have HNO := Lib.hid hno
      have HFIN := Lib.hid hfin
      have HNUM := Lib.hid hnum
      have HX := Lib.hid hX
      have HSZ := Lib.hid hsz
      have HNM := Lib.hid rowName_any
      have HWD := Lib.hid word_any
      clear hX hsz hno hfin hnum h0
      go_enter Tryd.func12, Tryd.ntmps12
      go_wp2_with fail
      go_loopw [15] (fun t wr => ∃ i : Nat, t = .int .i64 i ∧ i ≤ l.length ∧ Hid (∀ j, j < i → fineAt l j) ∧ Below w.heap.size w wr) (fun t _ => l.length - (intOf t).toNat)
      case atStart => exact ⟨0, rfl, Nat.zero_le _, fun j h => absurd h (by omega), Below.refl _ _⟩
      case round =>
        obtain ⟨i, rfl, hi, hv, hB⟩ := hrel
        have hBs := hB.size
        by_cases hlt : i < l.length
        · obtain ⟨b, off, rfl, hbl, hra⟩ := HX.out (by omega)
          obtain ⟨k0, k1⟩ := (hra.belowV hB hbl) i hlt
          have hi0 : (0 : Int) ≤ (i : Int) := by omega
          have hi1 : (i : Int) < (l.length : Int) := by omega
          have hname := HNM.out (colAt l i).1 (Nat.le_trans (HSZ.out i) (by decide))
          have hword := HWD.out (colAt l i).2
          have hnx : fineAt l i → ∀ j, j < i + 1 → fineAt l j := fun h j hj => by
            by_cases e : j = i
            · subst e; exact h
            · exact hv.out j (by omega)
          have hbad : ¬ fineAt l i → res = false := fun h => HNO.out i hlt (fun hg => h hg.1)
          unfold fineAt at hnx hbad
          clear hra hv
          generalize (colAt l i).1 = nm at k0 hname hnx hbad
          generalize (colAt l i).2 = kd at k1 hword hnx hbad
          have hB2 : Below w.heap.size w (wr.alloc (.cells #[.string nm, .int .i64 kd] 39)) := hB.alloc hBs _
          cases hq : nameOK nm with
          | false =>
            rw [hq] at hname
            have HN := Lib.hid (hbad (by rw [hq]; simp))
            have HC := Lib.hid hname
            clear hname hword hnx hbad hq
            go_wp2_with fail
            refine (HC.out _).mono ?_
            rintro e w2 ⟨rfl, rfl⟩
            go_wp2_with fail
            go_ret
            exact ⟨retB HN.out.symm, hB2⟩
          | true =>
            rw [hq] at hname
            by_cases hk : kd = 1 ∨ kd = 2
            · rw [decide_eq_true hk] at hword
              have HN := Lib.hid (hnx ⟨hq, hk⟩)
              have HC := Lib.hid hname
              have HW := Lib.hid hword
              clear hname hword hnx hbad hq hk
              go_wp2_with fail
              refine (HC.out _).mono ?_
              rintro e w2 ⟨rfl, rfl⟩
              go_wp2_with fail
              refine (HW.out _).mono ?_
              rintro e w2 ⟨t, rfl, ht, rfl⟩
              have ht' : t.toList.isEmpty = false := ht
              clear ht
              go_wp2_with fail
              go_roundw
              case rel => exact ⟨i + 1, by go_num, by omega, HN.out, hB2⟩
              case measure => simp [intOf]; omega
            · rw [decide_eq_false hk] at hword
              have HN := Lib.hid (hbad (fun h => hk h.2))
              have HC := Lib.hid hname
              have HW := Lib.hid hword
              clear hname hword hnx hbad hq hk
              go_wp2_with fail
              refine (HC.out _).mono ?_
              rintro e w2 ⟨rfl, rfl⟩
              go_wp2_with fail
              refine (HW.out _).mono ?_
              rintro e w2 ⟨t, rfl, ht, rfl⟩
              have ht' : t.toList.isEmpty = true := ht
              clear ht
              go_wp2_with fail
              go_ret
              exact ⟨retB HN.out.symm, hB2⟩
        · have hge : l.length ≤ i := by omega
          have HF := Lib.hid (HFIN.out (fun j hj => hv.out j (by omega)))
          have HNW := Lib.hid (HNUM.out _ hB)
          clear HFIN HNUM hv
          go_wp2_with fail
          refine HNW.out.mono ?_
          rintro e w2 ⟨bm, D, rfl, hown, hD, hB3⟩
          have HE := Lib.hid (HF.out D hD)
          go_wp2_with (at_len; refine wpList_len_own _ rfl _ 54 rfl 9 3 mapT _ bm l.length D rfl hown ?_)
          go_ret
          exact ⟨retB HE.out, hB.trans (hB3.mono hBs)⟩
end Go.Proofs.YtlhhkiglpehnfaaDoor
