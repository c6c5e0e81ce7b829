/-
  validChanges of package bag and ValidChanges of the document, as contracts.
-/
import Derived.Test.YthoimepdioeckaaGreatDoorWhole
namespace Go.Proofs.YthoimepdioeckaaGreatDoor
open Go.RowKit

def okC (c : Ch) : Bool := chgOK c.1 c.2.1 c.2.2
def badC (c : Ch) : Bool := !okC c
def validCs (l : List Ch) : Bool := decide (l.length ≤ 400) && !(l.any badC)
theorem validCs_iff {l : List Ch} : validCs l = true ↔ l.length ≤ 400 ∧ ∀ c ∈ l, okC c = true := by
  unfold validCs badC
  rw [Bool.and_eq_true, decide_eq_true_eq, Bool.not_eq_true', List.any_eq_false]
  simp

theorem notVC_any (c : ChR) (w : World) (b : Bool) (hb : badC (chv c) = b) (hR : RowOK w c.2.1) : Calls Tryz.prog 91 #[nChg c] w (BelowB w b) := by
  have hbA : Below w.heap.size w (w.alloc (oChg c)) := (Below.refl _ _).alloc (Nat.le_refl _) _
  have hv := bagVC_any c.1 c.2.1 c.2.2 (w.alloc (oChg c)) (hR.belowV hbA)
  have e : chgOK c.1 c.2.1.2.1 c.2.2 = !b := by rw [← hb]; unfold badC okC chv; simp
  rw [e] at hv
  have HV := Lib.hid hv
  clear hv e hR hb
  obtain ⟨t, ⟨q, xs, qc⟩, n⟩ := c
  dsimp only [rowv, nChg, oChg] at *
  go_enter Tryz.func91, Tryz.ntmps91
  go_wp2_with fail
  refine HV.out.mono ?_
  rintro e w1 ⟨rfl, hb1⟩
  have hB := hbA.trans (hb1.mono hbA.size)
  cases b with
  | true =>
    go_wp2_with fail
    go_ret
    exact ⟨rfl, hB⟩
  | false =>
    go_wp2_with fail
    go_ret
    exact ⟨rfl, hB⟩
theorem badC_at {l : List Ch} {i : Nat} (hi : i < l.length) (h : badC (l[i]?.getD ch0) = true) : l.any badC = true := by
  rw [List.any_eq_true]
  rw [List.getElem?_eq_getElem hi] at h
  exact ⟨l[i], List.getElem_mem hi, h⟩
theorem badC_none {l : List Ch} (h : ∀ k, k < l.length → badC (l[k]?.getD ch0) = false) : l.any badC = false := by
  rw [List.any_eq_false]
  intro x hx
  obtain ⟨k, hk, rfl⟩ := List.mem_iff_getElem.1 hx
  have := h k hk
  rw [List.getElem?_eq_getElem hk] at this
  simpa using this

set_option maxRecDepth 100000 in
set_option maxHeartbeats 1000000 in
theorem indexC_any (p : Option Addr) (cs : List ChR) (c : Nat) (hm : cs.length ≤ 9223372036854775807) (w : World) (hX : ChgIn w p cs) :
    Calls Tryz.prog 101 #[.slice p cs.length c, .func (.func 91) #[] #[]] w (NegPost w ((cvals cs).any badC)) := by
  have HX := Lib.hid hX
  clear hX
  go_enter Tryz.func101, Tryz.ntmps101
  go_wp2_with fail
  go_loopw [8] (fun s wr => ∃ i : Nat, i ≤ cs.length ∧ s = .int .i64 i ∧ Hid (∀ k, k < i → badC (chv (cs[k]?.getD cr0)) = false) ∧ Below w.heap.size w wr) (fun s _ => cs.length - (intOf s).toNat)
  case atStart => exact ⟨0, Nat.zero_le _, rfl, (fun k hk => by omega), Below.refl _ _⟩
  case round =>
    obtain ⟨i, hi, rfl, hE, hB⟩ := hrel
    by_cases hlt : i < cs.length
    · obtain ⟨b, off, rfl, hbl, hra⟩ := HX.out (by omega)
      obtain ⟨c0, c1, c2, c3, _⟩ := (hra.belowV hB hbl) i hlt
      have hi0 : (0 : Int) ≤ (i : Int) := by omega
      have hi1 : (i : Int) < (cs.length : Int) := by omega
      clear hra
      cases hn : badC (chv (cs[i]?.getD cr0)) with
      | false =>
        have HE := Lib.hid (show ∀ k, k < i + 1 → badC (chv (cs[k]?.getD cr0)) = false from fun k hk => by
          by_cases hki : k = i
          · rw [hki]; exact hn
          · exact hE.out k (by omega))
        have HC := Lib.hid (notVC_any _ wr false hn c3)
        clear hE hn c3
        generalize (cs[i]?.getD cr0) = x at c0 c1 c2 HC
        obtain ⟨xt, ⟨xq, xs, xc⟩, xn⟩ := x
        dsimp only [nChg, rowv] at *
        go_wp2_with fail
        refine HC.out.mono ?_
        rintro e w1 ⟨rfl, hb1⟩
        have hB4 := hB.trans (hb1.mono hB.size)
        go_wp2_with fail
        go_roundw
        case rel => exact ⟨i + 1, by omega, by go_num, HE.out, hB4⟩
        case measure => simp [intOf]; omega
      | true =>
        have HE := Lib.hid (show (cvals cs).any badC = true from badC_at (by rw [cvals_len]; exact hlt) (by rw [cvals_get]; exact hn))
        have HC := Lib.hid (notVC_any _ wr true hn c3)
        clear hE hn c3
        generalize (cs[i]?.getD cr0) = x at c0 c1 c2 HC
        obtain ⟨xt, ⟨xq, xs, xc⟩, xn⟩ := x
        dsimp only [nChg, rowv] at *
        go_wp2_with fail
        refine HC.out.mono ?_
        rintro e w1 ⟨rfl, hb1⟩
        have hB4 := hB.trans (hb1.mono hB.size)
        go_wp2_with fail
        go_ret
        exact ⟨_, rfl, by rw [HE.out]; exact decide_eq_true hi0, hB4⟩
    · have hge : cs.length ≤ i := by omega
      have HE := Lib.hid (show (cvals cs).any badC = false from badC_none fun k hk => by rw [cvals_get]; exact hE.out k (by rw [cvals_len] at hk; omega))
      go_wp2_with fail
      go_ret
      exact ⟨_, rfl, by rw [HE.out]; decide, hB⟩

theorem containsC_any (p : Option Addr) (cs : List ChR) (c : Nat) (hm : cs.length ≤ 9223372036854775807) (w : World) (hX : ChgIn w p cs) :
    Calls Tryz.prog 93 #[.slice p cs.length c, .func (.func 91) #[] #[]] w (BelowB w ((cvals cs).any badC)) := by
  have H := Lib.hid (indexC_any p cs c hm w hX)
  clear hX
  generalize (cvals cs).any badC = b at H ⊢
  go_enter Tryz.func93, Tryz.ntmps93
  go_wp2_with fail
  refine H.out.mono ?_
  rintro e w1 ⟨k, rfl, hk, hb⟩
  have HK := Lib.hid hk
  clear hk
  go_wp2_with fail
  go_ret
  exact ⟨by rw [← HK.out] <;> rfl, hb⟩

theorem bagVCs_any (p : Option Addr) (cs : List ChR) (c : Nat) (hm : cs.length ≤ 9223372036854775807) (w : World) (hX : ChgIn w p cs) :
    Calls Tryz.prog 35 #[.slice p cs.length c] w (BelowB w (validCs (cvals cs))) := by
  have H := Lib.hid (containsC_any p cs c hm w hX)
  clear hX
  unfold validCs
  rw [cvals_len]
  generalize (cvals cs).any badC = b at H ⊢
  by_cases hl : cs.length ≤ 400
  · have hl' : (cs.length : Int) ≤ 400 := by omega
    rw [decide_eq_true hl]
    clear hl
    cases b with
    | true =>
      go_enter Tryz.func35, Tryz.ntmps35
      go_wp2_with fail
      refine H.out.mono ?_
      rintro e w1 ⟨rfl, hb⟩
      go_wp2_with fail
      go_ret
      exact ⟨rfl, hb⟩
    | false =>
      go_enter Tryz.func35, Tryz.ntmps35
      go_wp2_with fail
      refine H.out.mono ?_
      rintro e w1 ⟨rfl, hb⟩
      go_wp2_with fail
      go_ret
      exact ⟨rfl, hb⟩
  · have hl' : (400 : Int) < cs.length := by omega
    rw [decide_eq_false hl]
    clear hl
    go_enter Tryz.func35, Tryz.ntmps35
    go_wp2_with fail
    go_ret
    exact ⟨rfl, Below.refl _ _⟩

set_option maxRecDepth 100000 in
set_option maxHeartbeats 1000000 in
theorem refVCs_any (p : Option Addr) (cs : List ChR) (c : Nat) (hm : cs.length ≤ 9223372036854775807) (w : World) (hX : ChgIn w p cs) :
    Calls Tryz.prog 38 #[.slice p cs.length c] w (BelowB w (validCs (cvals cs))) := by
  have HX := Lib.hid hX
  have HV := Lib.hid refVC_any
  clear hX
  go_enter Tryz.func38, Tryz.ntmps38
  go_wp2_with fail
  go_loopw [3] (fun s wr => ∃ i : Nat, i ≤ cs.length ∧ s = .int .i64 i ∧ Hid (∀ k, k < i → badC (chv (cs[k]?.getD cr0)) = false) ∧ Below w.heap.size w wr) (fun s _ => cs.length - (intOf s).toNat)
  case atStart => exact ⟨0, Nat.zero_le _, rfl, (fun k hk => by omega), Below.refl _ _⟩
  case round =>
    obtain ⟨i, hi, rfl, hE, hB⟩ := hrel
    by_cases hlt : i < cs.length
    · obtain ⟨b, off, rfl, hbl, hra⟩ := HX.out (by omega)
      obtain ⟨c0, c1, c2, c3, _⟩ := (hra.belowV hB hbl) i hlt
      have hi0 : (0 : Int) ≤ (i : Int) := by omega
      have hi1 : (i : Int) < (cs.length : Int) := by omega
      clear hra
      have hc := HV.out (cs[i]?.getD cr0).1 (cs[i]?.getD cr0).2.1 (cs[i]?.getD cr0).2.2 wr c3
      cases hn : badC (chv (cs[i]?.getD cr0)) with
      | false =>
        have HE := Lib.hid (show ∀ k, k < i + 1 → badC (chv (cs[k]?.getD cr0)) = false from fun k hk => by
          by_cases hki : k = i
          · rw [hki]; exact hn
          · exact hE.out k (by omega))
        have e : chgOK (cs[i]?.getD cr0).1 (cs[i]?.getD cr0).2.1.2.1 (cs[i]?.getD cr0).2.2 = true := by unfold badC okC chv at hn; simpa using hn
        rw [e] at hc
        have HC := Lib.hid hc
        clear hE hn c3 hc e
        generalize (cs[i]?.getD cr0) = x at c0 c1 c2 HC
        obtain ⟨xt, ⟨xq, xs, xc⟩, xn⟩ := x
        dsimp only [nChg, rowv] at *
        go_wp2_with fail
        refine HC.out.mono ?_
        rintro e w1 ⟨rfl, hb1⟩
        have hB4 := hB.trans (hb1.mono hB.size)
        go_wp2_with fail
        go_roundw
        case rel => exact ⟨i + 1, by omega, by go_num, HE.out, hB4⟩
        case measure => simp [intOf]; omega
      | true =>
        have HE := Lib.hid (show validCs (cvals cs) = false by unfold validCs; rw [badC_at (by rw [cvals_len]; exact hlt) (by rw [cvals_get]; exact hn)]; simp)
        have e : chgOK (cs[i]?.getD cr0).1 (cs[i]?.getD cr0).2.1.2.1 (cs[i]?.getD cr0).2.2 = false := by unfold badC okC chv at hn; simpa using hn
        rw [e] at hc
        have HC := Lib.hid hc
        clear hE hn c3 hc e
        generalize (cs[i]?.getD cr0) = x at c0 c1 c2 HC
        obtain ⟨xt, ⟨xq, xs, xc⟩, xn⟩ := x
        dsimp only [nChg, rowv] at *
        go_wp2_with fail
        refine HC.out.mono ?_
        rintro e w1 ⟨rfl, hb1⟩
        have hB4 := hB.trans (hb1.mono hB.size)
        go_wp2_with fail
        go_ret
        exact ⟨by rw [HE.out] <;> rfl, hB4⟩
    · have hge : cs.length ≤ i := by omega
      have HE := Lib.hid (show validCs (cvals cs) = decide (cs.length ≤ 400) by unfold validCs; rw [badC_none fun k hk => by rw [cvals_get]; exact hE.out k (by rw [cvals_len] at hk; omega), cvals_len]; simp)
      by_cases hl : cs.length ≤ 400
      · have hl' : (cs.length : Int) ≤ 400 := by omega
        rw [decide_eq_true hl] at HE
        clear hl
        go_wp2_with fail
        go_ret
        exact ⟨by rw [HE.out] <;> rfl, hB⟩
      · have hl' : (400 : Int) < cs.length := by omega
        rw [decide_eq_false hl] at HE
        have hd : decide ((cs.length : Int) ≤ 400) = false := by simp; omega
        clear hl
        go_wp2_with fail
        go_ret
        exact ⟨by rw [HE.out] <;> rfl, hB⟩
#print axioms refVCs_any
end Go.Proofs.YthoimepdioeckaaGreatDoor
