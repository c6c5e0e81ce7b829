/-
  Set, Idle, Busy, Close of a meet of package mark, as contracts.
-/
import Derived.Test.YtmnbcofonhlplaaMp
namespace Go.Proofs.Ytmnbcofonhlplaa
open Go.RowKit Go.Lib
set_option linter.unusedSimpArgs false

theorem wake_any (b j : Nat) (a : Bool) (w : World) (hc : w.cell? ⟨b, j + 1, none⟩ = some (.bool a)) (hf : w.frozen? ⟨b, j + 1, none⟩ = false) :
    Calls Try.prog 44 #[.pointer (some ⟨b, j, none⟩)] w fun e w' => e = .returned (.tuple #[]) ∧ w' = w.setCell ⟨b, j + 1, none⟩ (.bool false) := by
  go_enter Try.func44, Try.ntmps44
  go_wp2
  exact bodyPost_end (results_none rfl _ _ _) rfl ⟨rfl, rfl⟩
theorem rest_any (b j : Nat) (a : Bool) (w : World) (hc : w.cell? ⟨b, j + 1, none⟩ = some (.bool a)) (hf : w.frozen? ⟨b, j + 1, none⟩ = false) :
    Calls Try.prog 58 #[.pointer (some ⟨b, j, none⟩)] w fun e w' => e = .returned (.tuple #[]) ∧ w' = w.setCell ⟨b, j + 1, none⟩ (.bool true) := by
  go_enter Try.func58, Try.ntmps58
  go_wp2
  exact bodyPost_end (results_none rfl _ _ _) rfl ⟨rfl, rfl⟩

/-- What lies in the block of the inputs when one of them was changed. -/
theorem MeetP.cells {W : World} {lo B I : Nat} {xs : List Inp} {at_ : Int} (h : MeetP W lo B I xs at_) {i : Nat} (hi : i < xs.length) : W.cell? ⟨I, i * 3, none⟩ = some (.int .i64 ((xs[i]?.getD in0).1 + 1000000000000)) ∧ W.cell? ⟨I, i * 3 + 1, none⟩ = some (.bool (xs[i]?.getD in0).2.1) ∧ W.cell? ⟨I, i * 3 + 2, none⟩ = some (.bool (xs[i]?.getD in0).2.2) := insP_of h.ins i hi
theorem MeetP.set1 {W : World} {lo B I : Nat} {xs : List Inp} {at_ : Int} (h : MeetP W lo B I xs at_) {i : Nat} (hi : i < xs.length) (a : Bool) : MeetP (W.setCell ⟨I, i * 3 + 1, none⟩ (.bool a)) lo B I (xs.set i ((xs[i]?.getD in0).1, a, (xs[i]?.getD in0).2.2)) at_ ∧ Grew W I (W.setCell ⟨I, i * 3 + 1, none⟩ (.bool a)) := by
  have hg := (grew_refl W I).set (i * 3 + 1) (.bool a)
  refine ⟨h.putIns i _ (mark_at h.marks hi) hg ?_, hg⟩
  have := h.ins.setG (i * 3 + 1) (.bool a)
  rw [flatP_set1]
  simpa using this
theorem MeetP.set2 {W : World} {lo B I : Nat} {xs : List Inp} {at_ : Int} (h : MeetP W lo B I xs at_) (i : Nat) (m : Int) (hm : markR m) (a : Bool) : MeetP ((W.setCell ⟨I, i * 3, none⟩ (.int .i64 (m + 1000000000000))).setCell ⟨I, i * 3 + 1, none⟩ (.bool a)) lo B I (xs.set i (m, a, (xs[i]?.getD in0).2.2)) at_ ∧ Grew W I ((W.setCell ⟨I, i * 3, none⟩ (.int .i64 (m + 1000000000000))).setCell ⟨I, i * 3 + 1, none⟩ (.bool a)) := by
  have hg := ((grew_refl W I).set (i * 3) (.int .i64 (m + 1000000000000))).set (i * 3 + 1) (.bool a)
  refine ⟨h.putIns i _ hm hg ?_, hg⟩
  have := (h.ins.setG (i * 3) (.int .i64 (m + 1000000000000))).setG (i * 3 + 1) (.bool a)
  rw [flatP_set2]
  simpa using this
theorem MeetP.set3 {W : World} {lo B I : Nat} {xs : List Inp} {at_ : Int} (h : MeetP W lo B I xs at_) (i : Nat) (m : Int) (hm : markR m) (a b : Bool) : MeetP (((W.setCell ⟨I, i * 3, none⟩ (.int .i64 (m + 1000000000000))).setCell ⟨I, i * 3 + 1, none⟩ (.bool a)).setCell ⟨I, i * 3 + 2, none⟩ (.bool b)) lo B I (xs.set i (m, a, b)) at_ ∧ Grew W I (((W.setCell ⟨I, i * 3, none⟩ (.int .i64 (m + 1000000000000))).setCell ⟨I, i * 3 + 1, none⟩ (.bool a)).setCell ⟨I, i * 3 + 2, none⟩ (.bool b)) := by
  have hg := (((grew_refl W I).set (i * 3) (.int .i64 (m + 1000000000000))).set (i * 3 + 1) (.bool a)).set (i * 3 + 2) (.bool b)
  refine ⟨h.putIns i _ hm hg ?_, hg⟩
  have := ((h.ins.setG (i * 3) (.int .i64 (m + 1000000000000))).setG (i * 3 + 1) (.bool a)).setG (i * 3 + 2) (.bool b)
  rw [flatP_set3]
  simpa using this
theorem frozP {W : World} {lo B I : Nat} {xs : List Inp} {at_ : Int} (h : MeetP W lo B I xs at_) (j : Nat) : W.frozen? ⟨I, j, none⟩ = false := h.ins.froz j
theorem closeI_any (I i : Nat) (m : Int) (a b : Bool) (hm : markR m) (w : World) (h0 : w.cell? ⟨I, i * 3, none⟩ = some (.int .i64 (m + 1000000000000))) (h1 : w.cell? ⟨I, i * 3 + 1, none⟩ = some (.bool a)) (h2 : w.cell? ⟨I, i * 3 + 2, none⟩ = some (.bool b)) (hf : ∀ j, w.frozen? ⟨I, j, none⟩ = false) :
    Calls Try.prog 42 #[.pointer (some ⟨I, i * 3, none⟩)] w fun e w' => e = .returned (.tuple #[]) ∧ w' = ((w.setCell ⟨I, i * 3, none⟩ (.int .i64 (1000000000001 + 1000000000000))).setCell ⟨I, i * 3 + 1, none⟩ (.bool false)).setCell ⟨I, i * 3 + 2, none⟩ (.bool true) := by
  have hr := raise_any I (i * 3) m 1000000000001 (by omega) w h0 (hf _)
  rw [show max m 1000000000001 = 1000000000001 by unfold markR at hm; omega] at hr
  have HR := Lib.hid hr
  have hf1 := hf (i * 3 + 1)
  have hf2 := hf (i * 3 + 2)
  have HW := Lib.hid (wake_any I (i * 3) a (w.setCell ⟨I, i * 3, none⟩ (.int .i64 (1000000000001 + 1000000000000))) (by go_simp) (by rw [World.frozen?_setCell]; exact hf1))
  clear hr hf
  go_enter Try.func42, Try.ntmps42
  go_wp2_with fail
  refine HR.out.mono ?_
  rintro e w1 ⟨rfl, rfl⟩
  go_wp2_with fail
  refine HW.out.mono ?_
  rintro e w1 ⟨rfl, rfl⟩
  go_wp2_with fail
  exact bodyPost_end (results_none rfl _ _ _) rfl ⟨rfl, rfl⟩

theorem keep2_of_grew {w w1 : World} {B I : Nat} (k : Grew w I w1) : Keep2 w w1 B (some I) := keep2_of_grown k
/-- What Set comes to: its error, the inputs and the mark behind it. -/
def setErr (xs : List Inp) (i m : Int) : Int := if inR i 0 ((xs.length : Int) - 1) = false ∨ inR m (-1000000000000) 1000000000001 = false then 7 else if m < (xs[i.toNat]?.getD in0).1 then 10 else 0
def setXs (xs : List Inp) (i m : Int) : List Inp := if setErr xs i m = 0 then xs.set i.toNat (m, false, (xs[i.toNat]?.getD in0).2.2) else xs
def setAt (xs : List Inp) (i m at_ : Int) : Int := if setErr xs i m = 0 then onM (setXs xs i m) at_ else at_

set_option maxRecDepth 100000 in
set_option maxHeartbeats 1000000 in
theorem mkSet_any {lo B I : Nat} {xs : List Inp} {at_ : Int} (i m : Int) (w : World) (h : MeetP w lo B I xs at_) :
    Calls Try.prog 19 #[.pointer (some ⟨B, 0, none⟩), .int .i64 i, .int .i64 m] w (MeetPost w lo B I (setXs xs i m) (setAt xs i m at_) (.int .i64 (setErr xs i m))) := by
  have hh := mkHas_any i w h
  have hp := h
  have c0 := h.blk.cell 0
  simp only [List.getElem?_toArray, List.getElem?_cons_zero] at c0
  cases q1 : inR i 0 ((xs.length : Int) - 1) with
  | false =>
    have hE : setErr xs i m = 7 := by simp [setErr, q1]
    rw [setAt, setXs, if_neg (by omega), if_neg (by omega), hE]
    rw [q1] at hh
    have HH := Lib.hid hh
    have HP := Lib.hid hp
    clear hh h hp hE q1
    go_enter Try.func19, Try.ntmps19
    go_wp2_with fail
    refine HH.out.mono ?_
    rintro e w1 ⟨rfl, rfl⟩
    go_wp2_with fail
    go_ret
    exact ⟨rfl, HP.out, keep2_refl _ _ _⟩
  | true =>
    rw [q1] at hh
    cases q2 : inR m (-1000000000000) 1000000000001 with
    | false =>
      have hE : setErr xs i m = 7 := by simp [setErr, q2]
      have hw := mkWithin_any m (-1000000000000) 1000000000001 w
      rw [q2] at hw
      rw [setAt, setXs, if_neg (by omega), if_neg (by omega), hE]
      have HH := Lib.hid hh
      have HP := Lib.hid hp
      have HW := Lib.hid hw
      clear hh h hp hE q1 q2 hw
      go_enter Try.func19, Try.ntmps19
      go_wp2_with fail
      refine HH.out.mono ?_
      rintro e w1 ⟨rfl, rfl⟩
      go_wp2_with fail
      refine HW.out.mono ?_
      rintro e w1 ⟨rfl, rfl⟩
      go_wp2_with fail
      go_ret
      exact ⟨rfl, HP.out, keep2_refl _ _ _⟩
    | true =>
      have hw := mkWithin_any m (-1000000000000) 1000000000001 w
      rw [q2] at hw
      obtain ⟨n, rfl⟩ : ∃ n : Nat, i = (n : Int) := Int.eq_ofNat_of_zero_le (inR_iff.1 q1).1
      have hn : n < xs.length := by have := inR_iff.1 q1; omega
      have hmr : markR m := inR_iff.1 q2
      obtain ⟨d0, d1, d2⟩ := h.cells hn
      have hr := mark_at h.marks hn
      have hl := lmark_any _ hr
      have hn0 : (0 : Int) ≤ (n : Int) := by omega
      have hn1 : (n : Int) < (xs.length : Int) := by omega
      have hs2 := h.set2 n m hmr false
      have hfr := frozP h
      by_cases hlt : m < (xs[n]?.getD in0).1
      · have hE : setErr xs (n : Int) m = 10 := by simp only [setErr, Int.toNat_natCast, q1, q2, if_pos hlt]; simp
        rw [setAt, setXs, if_neg (by omega), if_neg (by omega), hE]
        have HH := Lib.hid hh
        have HP := Lib.hid hp
        have HW := Lib.hid hw
        clear hh h hp hE q1 q2 hw hs2 hfr hmr hr
        generalize xs[n]?.getD in0 = x at *
        obtain ⟨x, a, b⟩ := x
        dsimp only at *
        go_enter Try.func19, Try.ntmps19
        go_wp2_with fail
        refine HH.out.mono ?_
        rintro e w1 ⟨rfl, rfl⟩
        go_wp2_with fail
        refine HW.out.mono ?_
        rintro e w1 ⟨rfl, rfl⟩
        go_wp2_with fail
        refine (hl _).mono ?_
        rintro e w1 ⟨rfl, rfl⟩
        go_wp2_with fail
        go_ret
        exact ⟨rfl, HP.out, keep2_refl _ _ _⟩
      · have hE : setErr xs (n : Int) m = 0 := by simp only [setErr, Int.toNat_natCast, q1, q2, if_neg hlt]; simp
        rw [setAt, if_pos hE, show setXs xs (n : Int) m = xs.set n (m, false, (xs[n]?.getD in0).2.2) by rw [setXs, if_pos hE]; rfl, hE]
        have HA := Lib.hid (advance_any _ hs2.1)
        have HK := Lib.hid hs2.2
        have hra := raise_any I (n * 3) (xs[n]?.getD in0).1 m (by unfold markR at hmr; omega) w d0 (hfr _)
        rw [show max (xs[n]?.getD in0).1 m = m by omega] at hra
        have hwk := wake_any I (n * 3) (xs[n]?.getD in0).2.1 (w.setCell ⟨I, n * 3, none⟩ (.int .i64 (m + 1000000000000))) (by go_simp) (by rw [World.frozen?_setCell]; exact hfr _)
        have hB : B ≠ I := h.ne
        have HH := Lib.hid hh
        have HR := Lib.hid hra
        have HX := Lib.hid hwk
        have HW := Lib.hid hw
        have hd : decide (m < (xs[n]?.getD in0).1) = false := decide_eq_false hlt
        clear hh h hp hE q1 q2 hw hs2 hfr hmr hr hra hwk hlt
        generalize (xs.set n (m, false, (xs[n]?.getD in0).2.2)) = ys at *
        generalize xs[n]?.getD in0 = x at *
        obtain ⟨x, a, b⟩ := x
        dsimp only at *
        go_enter Try.func19, Try.ntmps19
        go_wp2_with fail
        refine HH.out.mono ?_
        rintro e w1 ⟨rfl, rfl⟩
        go_wp2_with fail
        refine HW.out.mono ?_
        rintro e w1 ⟨rfl, rfl⟩
        go_wp2_with fail
        refine (hl _).mono ?_
        rintro e w1 ⟨rfl, rfl⟩
        go_wp2_with fail
        refine HR.out.mono ?_
        rintro e w1 ⟨rfl, rfl⟩
        go_wp2_with fail
        refine HX.out.mono ?_
        rintro e w1 ⟨rfl, rfl⟩
        go_wp2_with fail
        refine HA.out.mono ?_
        rintro e w3 ⟨rfl, hm3, hk3⟩
        have HF := Lib.hid (And.intro hm3 ((keep2_of_grew HK.out).trans hk3 (fun x e => .inl e)))
        clear hm3 hk3
        go_wp2_with fail
        go_ret
        exact ⟨rfl, HF.out.1, HF.out.2⟩
/-- What Idle, Busy and Close come to. -/
def chgErr (xs : List Inp) (i : Int) : Int := if inR i 0 ((xs.length : Int) - 1) = false then 7 else if (xs[i.toNat]?.getD in0).2.2 = true then 10 else 0
def turnI (k : Int) (x : Inp) : Inp := if k = 1 then (x.1, true, x.2.2) else if k = 2 then (x.1, false, x.2.2) else (1000000000001, false, true)
def chgXs (k : Int) (xs : List Inp) (i : Int) : List Inp := if chgErr xs i = 0 then xs.set i.toNat (turnI k (xs[i.toNat]?.getD in0)) else xs
def chgAt (k : Int) (xs : List Inp) (i at_ : Int) : Int := if chgErr xs i = 0 then onM (chgXs k xs i) at_ else at_
end Go.Proofs.Ytmnbcofonhlplaa
