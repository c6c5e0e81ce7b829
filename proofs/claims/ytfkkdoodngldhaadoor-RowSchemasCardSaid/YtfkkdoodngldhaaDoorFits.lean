/-
  Fits, in both packages.
-/
import Derived.Test.YtfkkdoodngldhaaDoorFind
import Derived.Test.YtfkkdoodngldhaaDoorText
namespace Go.Proofs.YtfkkdoodngldhaaDoor
open Go.RowKit
set_option linter.unusedVariables false

def valAt (xs : List Val) (i : Nat) : Val := xs[i]?.getD v0
def fitAt (l : List Col) (xs : List Val) (i : Nat) : Prop := (valAt xs i).1 = 0 ∨ (valAt xs i).1 = (colAt l i).2
instance (l : List Col) (xs : List Val) (i : Nat) : Decidable (fitAt l xs i) := by unfold fitAt; infer_instance
def fitOK (l : List Col) (xs : List Val) : Bool := schemaOK l && (validRow xs && (decide (xs.length = l.length) && decide (∀ i, i < xs.length → fitAt l xs i)))

set_option maxRecDepth 100000 in
set_option maxHeartbeats 2000000 in
theorem rowFits_any (p q : Option Addr) (l : List Col) (cap : Nat) (xs : List Val) (d : Nat) (hm : l.length ≤ 9223372036854775807) (hmx : xs.length ≤ 9223372036854775807) (hsz : ∀ j, (colAt l j).1.size ≤ maxLen) (w : World) (hX : ColsIn w p l) (hV : ValsIn w q xs) :
    Calls Tryd.prog 21 #[.slice p l.length cap, .slice q xs.length d] w (BoolPost w (fitOK l xs)) := by
  have hv := rowSchema_any p l cap hm hsz w hX
  cases hq : schemaOK l with
  | false =>
    have he : fitOK l xs = false := by unfold fitOK; rw [hq]; rfl
    rw [he]
    rw [hq] at hv
    have HV := Lib.hid hv
    clear hv he hX hV hq hsz
    go_enter Tryd.func21, Tryd.ntmps21
    go_wp2_with fail
    refine HV.out.mono ?_
    rintro e w1 ⟨rfl, hb1⟩
    go_wp2_with fail
    go_ret
    exact ⟨rfl, hb1⟩
  | true =>
    rw [hq] at hv
    have hr := fun W (h : Below w.heap.size w W) => rowValid_any q xs d W (hV.belowV h)
    cases hq2 : validRow xs with
    | false =>
      have he : fitOK l xs = false := by unfold fitOK; rw [hq, hq2]; rfl
      rw [he]
      rw [hq2] at hr
      have HV := Lib.hid hv
      have HR := Lib.hid hr
      clear hv hr he hX hV hq hq2 hsz
      go_enter Tryd.func21, Tryd.ntmps21
      go_wp2_with fail
      refine HV.out.mono ?_
      rintro e w1 ⟨rfl, hb1⟩
      go_wp2_with fail
      refine (HR.out _ hb1).mono ?_
      rintro e w2 ⟨rfl, hb2⟩
      go_wp2_with fail
      go_ret
      exact ⟨rfl, hb1.trans (hb2.mono hb1.size)⟩
    | true =>
      rw [hq2] at hr
      by_cases hlen : xs.length = l.length
      · have hno : ∀ i, i < xs.length → ¬ fitAt l xs i → fitOK l xs = false := fun i hi h => by
          unfold fitOK; rw [hq, hq2, decide_eq_true hlen, decide_eq_false (fun H => h (H i hi))]; rfl
        have hyes : (∀ i, i < xs.length → fitAt l xs i) → fitOK l xs = true := fun h => by
          unfold fitOK; rw [hq, hq2, decide_eq_true hlen, decide_eq_true h]; rfl
        have hne : ((xs.length : Int) != (l.length : Int)) = false := by rw [bne_eq_false_iff_eq]; omega
        generalize fitOK l xs = res at hno hyes ⊢
        have HNO := Lib.hid hno
        have HYES := Lib.hid hyes
        have HV := Lib.hid hv
        have HR := Lib.hid hr
        have HX := Lib.hid hX
        have HY := Lib.hid hV
        have HLEN := Lib.hid hlen
        clear hv hr hno hyes hX hV hq hq2 hsz hlen
        go_enter Tryd.func21, Tryd.ntmps21
        go_wp2_with fail
        refine HV.out.mono ?_
        rintro e w1 ⟨rfl, hb1⟩
        go_wp2_with fail
        refine (HR.out _ hb1).mono ?_
        rintro e w2 ⟨rfl, hb2⟩
        have hB0 : Below w.heap.size w w2 := hb1.trans (hb2.mono hb1.size)
        clear HV HR hb1 hb2
        go_wp2_with fail
        go_loopw [24] (fun t wr => ∃ i : Nat, t = .int .i64 i ∧ i ≤ xs.length ∧ Hid (∀ j, j < i → fitAt l xs j) ∧ Below w.heap.size w wr) (fun t _ => xs.length - (intOf t).toNat)
        case atStart => exact ⟨0, rfl, Nat.zero_le _, fun j h => absurd h (by omega), hB0⟩
        case round =>
          clear hB0
          obtain ⟨i, rfl, hi, hf, hB⟩ := hrel
          have hBs := hB.size
          by_cases hlt : i < xs.length
          · have hll := HLEN.out
            obtain ⟨b, off, rfl, hbl, hra⟩ := HY.out (by omega)
            obtain ⟨b2, off2, rfl, hbl2, hra2⟩ := HX.out (by omega)
            obtain ⟨k0, k1, k2⟩ := (hra.belowV hB hbl) i hlt
            have hi0 : (0 : Int) ≤ (i : Int) := by omega
            have hi1 : (i : Int) < (xs.length : Int) := by omega
            have hi2 : (i : Int) < (l.length : Int) := by omega
            have hnx : fitAt l xs i → ∀ j, j < i + 1 → fitAt l xs j := fun h j hj => by
              by_cases e : j = i
              · subst e; exact h
              · exact hf.out j (by omega)
            have hbad : ¬ fitAt l xs i → res = false := fun h => HNO.out i hlt h
            have m1 := fun x0 x1 x2 => ((hra2.belowV (hB.alloc hBs (.cells #[.int .i64 x0, .int .i64 x1, .string x2] 30)) hbl2) i (by omega)).2
            unfold fitAt valAt at hnx hbad
            clear hra hra2 hf hll
            generalize (colAt l i).2 = kd at m1 hnx hbad
            generalize (xs[i]?.getD v0) = x at k0 k1 k2 hnx hbad
            obtain ⟨x0, x1, x2⟩ := x
            dsimp only at k0 k1 k2 hnx hbad
            have hB2 : Below w.heap.size w (wr.alloc (.cells #[.int .i64 x0, .int .i64 x1, .string x2] 30)) := hB.alloc hBs _
            have m2 := m1 x0 x1 x2
            have n0 : (wr.alloc (.cells #[.int .i64 x0, .int .i64 x1, .string x2] 30)).cell? ⟨wr.heap.size, 0, none⟩ = some (.int .i64 x0) := (Blk.new wr 30 #[.int .i64 x0, .int .i64 x1, .string x2]).cell 0
            clear m1
            by_cases hx0 : x0 = 0
            · have HN := Lib.hid (hnx (.inl hx0))
              subst hx0
              clear hnx hbad
              go_wp2_with fail
              go_quiet (fail)
              go_wp2_with fail
              go_roundw
              case rel => exact ⟨i + 1, by go_num, by omega, HN.out, below_drewN hB2 _⟩
              case measure => simp [intOf]; omega
            · have d1 : (x0 != 0) = true := by rw [bne_iff_ne]; exact hx0
              by_cases hxk : x0 = kd
              · have HN := Lib.hid (hnx (.inr hxk))
                subst hxk
                clear hnx hbad hx0
                go_wp2_with fail
                go_quiet (fail)
                go_wp2_with fail
                go_roundw
                case rel => exact ⟨i + 1, by go_num, by omega, HN.out, below_drewN hB2 _⟩
                case measure => simp [intOf]; omega
              · have HN := Lib.hid (hbad (fun h => h.elim hx0 hxk))
                have d2 : (x0 != kd) = true := by rw [bne_iff_ne]; exact hxk
                clear hnx hbad hx0 hxk
                go_wp2_with fail
                go_quiet (fail)
                go_wp2_with fail
                go_ret
                exact ⟨retB HN.out.symm, below_drewN hB2 _⟩
          · have hge : xs.length ≤ i := by omega
            have HN := Lib.hid (HYES.out (fun j hj => hf.out j (by omega)))
            clear hf
            go_wp2_with fail
            go_ret
            exact ⟨retB HN.out.symm, hB⟩
      · have he : fitOK l xs = false := by unfold fitOK; rw [hq, hq2, decide_eq_false hlen]; rfl
        have hne : ((xs.length : Int) != (l.length : Int)) = true := by rw [bne_iff_ne]; omega
        rw [he]
        have HV := Lib.hid hv
        have HR := Lib.hid hr
        clear hv hr he hX hV hq hq2 hsz hlen
        go_enter Tryd.func21, Tryd.ntmps21
        go_wp2_with fail
        refine HV.out.mono ?_
        rintro e w1 ⟨rfl, hb1⟩
        go_wp2_with fail
        refine (HR.out _ hb1).mono ?_
        rintro e w2 ⟨rfl, hb2⟩
        go_wp2_with fail
        go_ret
        exact ⟨rfl, hb1.trans (hb2.mono hb1.size)⟩

set_option maxRecDepth 100000 in
set_option maxHeartbeats 2000000 in
theorem refFits_any (p q : Option Addr) (l : List Col) (cap : Nat) (xs : List Val) (d : Nat) (hcap : l.length ≤ cap) (hmc : cap ≤ 9223372036854775807) (hm : l.length ≤ 9223372036854775807) (hmx : xs.length ≤ 9223372036854775807) (hsz : ∀ j, (colAt l j).1.size ≤ maxLen) (w : World) (hX : ColsIn w p l) (hV : ValsIn w q xs) :
    Calls Tryd.prog 22 #[.slice p l.length cap, .slice q xs.length d] w (BoolPost w (fitOK l xs)) := by
  have hv := refSchema_any p l cap hcap hm hmc hsz w hX
  cases hq : schemaOK l with
  | false =>
    have he : fitOK l xs = false := by unfold fitOK; rw [hq]; rfl
    rw [he]
    rw [hq] at hv
    have HV := Lib.hid hv
    clear hv he hX hV hq hsz
    go_enter Tryd.func22, Tryd.ntmps22
    go_wp2_with fail
    refine HV.out.mono ?_
    rintro e w1 ⟨rfl, hb1⟩
    go_wp2_with fail
    go_ret
    exact ⟨rfl, hb1⟩
  | true =>
    rw [hq] at hv
    have hr := fun W (h : Below w.heap.size w W) => refValid_any q xs d hmx W (hV.belowV h)
    cases hq2 : validRow xs with
    | false =>
      have he : fitOK l xs = false := by unfold fitOK; rw [hq, hq2]; rfl
      rw [he]
      rw [hq2] at hr
      have HV := Lib.hid hv
      have HR := Lib.hid hr
      clear hv hr he hX hV hq hq2 hsz
      go_enter Tryd.func22, Tryd.ntmps22
      go_wp2_with fail
      refine HV.out.mono ?_
      rintro e w1 ⟨rfl, hb1⟩
      go_wp2_with fail
      refine (HR.out _ hb1).mono ?_
      rintro e w2 ⟨rfl, hb2⟩
      go_wp2_with fail
      go_ret
      exact ⟨rfl, hb1.trans (hb2.mono hb1.size)⟩
    | true =>
      rw [hq2] at hr
      by_cases hlen : xs.length = l.length
      · have hno : ∀ i, i < xs.length → ¬ fitAt l xs i → fitOK l xs = false := fun i hi h => by
          unfold fitOK; rw [hq, hq2, decide_eq_true hlen, decide_eq_false (fun H => h (H i hi))]; rfl
        have hyes : (∀ i, i < xs.length → fitAt l xs i) → fitOK l xs = true := fun h => by
          unfold fitOK; rw [hq, hq2, decide_eq_true hlen, decide_eq_true h]; rfl
        have hne : ((xs.length : Int) != (l.length : Int)) = false := by rw [bne_eq_false_iff_eq]; omega
        generalize fitOK l xs = res at hno hyes ⊢
        have HNO := Lib.hid hno
        have HYES := Lib.hid hyes
        have HV := Lib.hid hv
        have HR := Lib.hid hr
        have HX := Lib.hid hX
        have HY := Lib.hid hV
        have HLEN := Lib.hid hlen
        clear hv hr hno hyes hX hV hq hq2 hsz hlen
        go_enter Tryd.func22, Tryd.ntmps22
        go_wp2_with fail
        refine HV.out.mono ?_
        rintro e w1 ⟨rfl, hb1⟩
        go_wp2_with fail
        refine (HR.out _ hb1).mono ?_
        rintro e w2 ⟨rfl, hb2⟩
        have hB0 : Below w.heap.size w w2 := hb1.trans (hb2.mono hb1.size)
        clear HV HR hb1 hb2
        go_wp2_with fail
        go_loopw [5] (fun t wr => ∃ i : Nat, t = .int .i64 i ∧ i ≤ xs.length ∧ Hid (∀ j, j < i → fitAt l xs j) ∧ Below w.heap.size w wr) (fun t _ => xs.length - (intOf t).toNat)
        case atStart => exact ⟨0, rfl, Nat.zero_le _, fun j h => absurd h (by omega), hB0⟩
        case round =>
          clear hB0
          obtain ⟨i, rfl, hi, hf, hB⟩ := hrel
          have hBs := hB.size
          by_cases hlt : i < xs.length
          · have hll := HLEN.out
            obtain ⟨b, off, rfl, hbl, hra⟩ := HY.out (by omega)
            obtain ⟨b2, off2, rfl, hbl2, hra2⟩ := HX.out (by omega)
            obtain ⟨k0, k1, k2⟩ := (hra.belowV hB hbl) i hlt
            have hi0 : (0 : Int) ≤ (i : Int) := by omega
            have hi1 : (i : Int) < (xs.length : Int) := by omega
            have hi2 : (i : Int) < (l.length : Int) := by omega
            have hnx : fitAt l xs i → ∀ j, j < i + 1 → fitAt l xs j := fun h j hj => by
              by_cases e : j = i
              · subst e; exact h
              · exact hf.out j (by omega)
            have hbad : ¬ fitAt l xs i → res = false := fun h => HNO.out i hlt h
            have m2 := ((hra2.belowV hB hbl2) i (by omega)).2
            unfold fitAt valAt at hnx hbad
            clear hra hra2 hf hll
            generalize (colAt l i).2 = kd at m2 hnx hbad
            generalize (xs[i]?.getD v0) = x at k0 k1 k2 hnx hbad
            obtain ⟨x0, x1, x2⟩ := x
            dsimp only at k0 k1 k2 hnx hbad
            have hB2 : Below w.heap.size w wr := hB
            by_cases hx0 : x0 = 0
            · have HN := Lib.hid (hnx (.inl hx0))
              subst hx0
              clear hnx hbad
              go_wp2_with fail
              go_quiet (fail)
              go_wp2_with fail
              go_roundw
              case rel => exact ⟨i + 1, by go_num, by omega, HN.out, below_drewN hB2 _⟩
              case measure => simp [intOf]; omega
            · have d1 : (x0 != 0) = true := by rw [bne_iff_ne]; exact hx0
              by_cases hxk : x0 = kd
              · have HN := Lib.hid (hnx (.inr hxk))
                subst hxk
                clear hnx hbad hx0
                go_wp2_with fail
                go_quiet (fail)
                go_wp2_with fail
                go_roundw
                case rel => exact ⟨i + 1, by go_num, by omega, HN.out, below_drewN hB2 _⟩
                case measure => simp [intOf]; omega
              · have HN := Lib.hid (hbad (fun h => h.elim hx0 hxk))
                have d2 : (x0 != kd) = true := by rw [bne_iff_ne]; exact hxk
                clear hnx hbad hx0 hxk
                go_wp2_with fail
                go_quiet (fail)
                go_wp2_with fail
                go_ret
                exact ⟨retB HN.out.symm, below_drewN hB2 _⟩
          · have hge : xs.length ≤ i := by omega
            have HN := Lib.hid (HYES.out (fun j hj => hf.out j (by omega)))
            clear hf
            go_wp2_with fail
            go_ret
            exact ⟨retB HN.out.symm, hB⟩
      · have he : fitOK l xs = false := by unfold fitOK; rw [hq, hq2, decide_eq_false hlen]; rfl
        have hne : ((xs.length : Int) != (l.length : Int)) = true := by rw [bne_iff_ne]; omega
        rw [he]
        have HV := Lib.hid hv
        have HR := Lib.hid hr
        clear hv hr he hX hV hq hq2 hsz hlen
        go_enter Tryd.func22, Tryd.ntmps22
        go_wp2_with fail
        refine HV.out.mono ?_
        rintro e w1 ⟨rfl, hb1⟩
        go_wp2_with fail
        refine (HR.out _ hb1).mono ?_
        rintro e w2 ⟨rfl, hb2⟩
        go_wp2_with fail
        go_ret
        exact ⟨rfl, hb1.trans (hb2.mono hb1.size)⟩
end Go.Proofs.YtfkkdoodngldhaaDoor
