/-
  Idle, Busy, Close of a meet of package mark, as contracts.
-/
import Derived.Test.YtmnbcofonhlplaaMq
namespace Go.Proofs.Ytmnbcofonhlplaa
open Go.RowKit Go.Lib
set_option linter.unusedSimpArgs false


set_option maxRecDepth 100000 in
set_option maxHeartbeats 1000000 in
theorem changeIdle_any {lo B I : Nat} {xs : List Inp} {at_ : Int} (i : Int) (w : World) (h : MeetP w lo B I xs at_) :
    Calls Try.prog 41 #[.pointer (some ⟨B, 0, none⟩), .int .i64 i, .func (.func 58) #[] #[]] w (MeetPost w lo B I (chgXs 1 xs i) (chgAt 1 xs i at_) (.int .i64 (chgErr xs i))) := by
  have hh := mkHas_any i w h
  have hp := h
  have c0 := h.blk.cell 0
  simp only [List.getElem?_toArray, List.getElem?_cons_zero] at c0
  cases q1 : inR i 0 ((xs.length : Int) - 1) with
  | false =>
    have hE : chgErr xs i = 7 := by simp [chgErr, q1]
    rw [chgAt, chgXs, if_neg (by omega), if_neg (by omega), hE]
    rw [q1] at hh
    have HH := Lib.hid hh
    have HP := Lib.hid hp
    clear hh h hp hE q1
    go_enter Try.func41, Try.ntmps41
    go_wp2_with fail
    refine HH.out.mono ?_
    rintro e w1 ⟨rfl, rfl⟩
    go_wp2_with fail
    go_ret
    exact ⟨rfl, HP.out, keep2_refl _ _ _⟩
  | true =>
    rw [q1] at hh
    obtain ⟨n, rfl⟩ : ∃ n : Nat, i = (n : Int) := Int.eq_ofNat_of_zero_le (inR_iff.1 q1).1
    have hn : n < xs.length := by have := inR_iff.1 q1; omega
    obtain ⟨d0, d1, d2⟩ := h.cells hn
    have hr := mark_at h.marks hn
    have hn0 : (0 : Int) ≤ (n : Int) := by omega
    have hn1 : (n : Int) < (xs.length : Int) := by omega
    have hfr := frozP h
    have hs := h.set1 hn true
    have hct := rest_any I (n * 3) (xs[n]?.getD in0).2.1 w d1 (hfr _)
    cases q2 : (xs[n]?.getD in0).2.2 with
    | true =>
      have hE : chgErr xs (n : Int) = 10 := by simp [chgErr, q1, q2]
      rw [chgAt, chgXs, if_neg (by omega), if_neg (by omega), hE]
      rw [q2] at d2
      have HH := Lib.hid hh
      have HP := Lib.hid hp
      clear hh h hp hE q1 q2 hs hct hfr hr d0 d1
      go_enter Try.func41, Try.ntmps41
      go_wp2_with fail
      refine HH.out.mono ?_
      rintro e w1 ⟨rfl, rfl⟩
      go_wp2_with fail
      go_ret
      exact ⟨rfl, HP.out, keep2_refl _ _ _⟩
    | false =>
      have hE : chgErr xs (n : Int) = 0 := by simp [chgErr, q1, q2]
      rw [chgAt, if_pos hE, show chgXs 1 xs (n : Int) = xs.set n (turnI 1 (xs[n]?.getD in0)) by rw [chgXs, if_pos hE]; rfl, hE]
      rw [show turnI 1 (xs[n]?.getD in0) = ((xs[n]?.getD in0).1, true, (xs[n]?.getD in0).2.2) from rfl]
      rw [q2] at d2
      have HA := Lib.hid (advance_any _ hs.1)
      have HK := Lib.hid hs.2
      have HH := Lib.hid hh
      have HR := Lib.hid hct
      have hB : B ≠ I := h.ne
      clear hh h hp hE q1 q2 hs hct hfr hr d0 d1
      generalize (xs.set n ((xs[n]?.getD in0).1, true, (xs[n]?.getD in0).2.2)) = ys at *
      go_enter Try.func41, Try.ntmps41
      go_wp2_with fail
      refine HH.out.mono ?_
      rintro e w1 ⟨rfl, rfl⟩
      go_wp2_with fail
      refine HR.out.mono ?_
      rintro e w1 ⟨rfl, rfl⟩
      go_wp2_with fail
      refine HA.out.mono ?_
      rintro e w3 ⟨rfl, hm3, hk3⟩
      have HF := Lib.hid (And.intro hm3 ((keep2_of_grew HK.out).trans hk3 (fun x e => .inl e)))
      clear hm3 hk3
      go_wp2_with fail
      go_ret
      exact ⟨rfl, HF.out.1, HF.out.2⟩
theorem mkIdle_any {lo B I : Nat} {xs : List Inp} {at_ : Int} (i : Int) (w : World) (h : MeetP w lo B I xs at_) :
    Calls Try.prog 32 #[.pointer (some ⟨B, 0, none⟩), .int .i64 i] w (MeetPost w lo B I (chgXs 1 xs i) (chgAt 1 xs i at_) (.int .i64 (chgErr xs i))) := by
  have HC := Lib.hid (changeIdle_any i w h)
  clear h
  generalize chgXs 1 xs i = ys at *
  generalize chgAt 1 xs i at_ = yt at *
  generalize chgErr xs i = er at *
  go_enter Try.func32, Try.ntmps32
  go_wp2_with fail
  refine HC.out.mono ?_
  rintro e w1 ⟨rfl, hm1, hk1⟩
  have HF := Lib.hid (And.intro hm1 hk1)
  clear hm1 hk1
  go_wp2_with fail
  go_ret
  exact ⟨rfl, HF.out.1, HF.out.2⟩

set_option maxRecDepth 100000 in
set_option maxHeartbeats 1000000 in
theorem changeBusy_any {lo B I : Nat} {xs : List Inp} {at_ : Int} (i : Int) (w : World) (h : MeetP w lo B I xs at_) :
    Calls Try.prog 41 #[.pointer (some ⟨B, 0, none⟩), .int .i64 i, .func (.func 44) #[] #[]] w (MeetPost w lo B I (chgXs 2 xs i) (chgAt 2 xs i at_) (.int .i64 (chgErr xs i))) := by
  have hh := mkHas_any i w h
  have hp := h
  have c0 := h.blk.cell 0
  simp only [List.getElem?_toArray, List.getElem?_cons_zero] at c0
  cases q1 : inR i 0 ((xs.length : Int) - 1) with
  | false =>
    have hE : chgErr xs i = 7 := by simp [chgErr, q1]
    rw [chgAt, chgXs, if_neg (by omega), if_neg (by omega), hE]
    rw [q1] at hh
    have HH := Lib.hid hh
    have HP := Lib.hid hp
    clear hh h hp hE q1
    go_enter Try.func41, Try.ntmps41
    go_wp2_with fail
    refine HH.out.mono ?_
    rintro e w1 ⟨rfl, rfl⟩
    go_wp2_with fail
    go_ret
    exact ⟨rfl, HP.out, keep2_refl _ _ _⟩
  | true =>
    rw [q1] at hh
    obtain ⟨n, rfl⟩ : ∃ n : Nat, i = (n : Int) := Int.eq_ofNat_of_zero_le (inR_iff.1 q1).1
    have hn : n < xs.length := by have := inR_iff.1 q1; omega
    obtain ⟨d0, d1, d2⟩ := h.cells hn
    have hr := mark_at h.marks hn
    have hn0 : (0 : Int) ≤ (n : Int) := by omega
    have hn1 : (n : Int) < (xs.length : Int) := by omega
    have hfr := frozP h
    have hs := h.set1 hn false
    have hct := wake_any I (n * 3) (xs[n]?.getD in0).2.1 w d1 (hfr _)
    cases q2 : (xs[n]?.getD in0).2.2 with
    | true =>
      have hE : chgErr xs (n : Int) = 10 := by simp [chgErr, q1, q2]
      rw [chgAt, chgXs, if_neg (by omega), if_neg (by omega), hE]
      rw [q2] at d2
      have HH := Lib.hid hh
      have HP := Lib.hid hp
      clear hh h hp hE q1 q2 hs hct hfr hr d0 d1
      go_enter Try.func41, Try.ntmps41
      go_wp2_with fail
      refine HH.out.mono ?_
      rintro e w1 ⟨rfl, rfl⟩
      go_wp2_with fail
      go_ret
      exact ⟨rfl, HP.out, keep2_refl _ _ _⟩
    | false =>
      have hE : chgErr xs (n : Int) = 0 := by simp [chgErr, q1, q2]
      rw [chgAt, if_pos hE, show chgXs 2 xs (n : Int) = xs.set n (turnI 2 (xs[n]?.getD in0)) by rw [chgXs, if_pos hE]; rfl, hE]
      rw [show turnI 2 (xs[n]?.getD in0) = ((xs[n]?.getD in0).1, false, (xs[n]?.getD in0).2.2) from rfl]
      rw [q2] at d2
      have HA := Lib.hid (advance_any _ hs.1)
      have HK := Lib.hid hs.2
      have HH := Lib.hid hh
      have HR := Lib.hid hct
      have hB : B ≠ I := h.ne
      clear hh h hp hE q1 q2 hs hct hfr hr d0 d1
      generalize (xs.set n ((xs[n]?.getD in0).1, false, (xs[n]?.getD in0).2.2)) = ys at *
      go_enter Try.func41, Try.ntmps41
      go_wp2_with fail
      refine HH.out.mono ?_
      rintro e w1 ⟨rfl, rfl⟩
      go_wp2_with fail
      refine HR.out.mono ?_
      rintro e w1 ⟨rfl, rfl⟩
      go_wp2_with fail
      refine HA.out.mono ?_
      rintro e w3 ⟨rfl, hm3, hk3⟩
      have HF := Lib.hid (And.intro hm3 ((keep2_of_grew HK.out).trans hk3 (fun x e => .inl e)))
      clear hm3 hk3
      go_wp2_with fail
      go_ret
      exact ⟨rfl, HF.out.1, HF.out.2⟩
theorem mkBusy_any {lo B I : Nat} {xs : List Inp} {at_ : Int} (i : Int) (w : World) (h : MeetP w lo B I xs at_) :
    Calls Try.prog 34 #[.pointer (some ⟨B, 0, none⟩), .int .i64 i] w (MeetPost w lo B I (chgXs 2 xs i) (chgAt 2 xs i at_) (.int .i64 (chgErr xs i))) := by
  have HC := Lib.hid (changeBusy_any i w h)
  clear h
  generalize chgXs 2 xs i = ys at *
  generalize chgAt 2 xs i at_ = yt at *
  generalize chgErr xs i = er at *
  go_enter Try.func34, Try.ntmps34
  go_wp2_with fail
  refine HC.out.mono ?_
  rintro e w1 ⟨rfl, hm1, hk1⟩
  have HF := Lib.hid (And.intro hm1 hk1)
  clear hm1 hk1
  go_wp2_with fail
  go_ret
  exact ⟨rfl, HF.out.1, HF.out.2⟩

set_option maxRecDepth 100000 in
set_option maxHeartbeats 1000000 in
theorem changeClose_any {lo B I : Nat} {xs : List Inp} {at_ : Int} (i : Int) (w : World) (h : MeetP w lo B I xs at_) :
    Calls Try.prog 41 #[.pointer (some ⟨B, 0, none⟩), .int .i64 i, .func (.func 42) #[] #[]] w (MeetPost w lo B I (chgXs 3 xs i) (chgAt 3 xs i at_) (.int .i64 (chgErr xs i))) := by
  have hh := mkHas_any i w h
  have hp := h
  have c0 := h.blk.cell 0
  simp only [List.getElem?_toArray, List.getElem?_cons_zero] at c0
  cases q1 : inR i 0 ((xs.length : Int) - 1) with
  | false =>
    have hE : chgErr xs i = 7 := by simp [chgErr, q1]
    rw [chgAt, chgXs, if_neg (by omega), if_neg (by omega), hE]
    rw [q1] at hh
    have HH := Lib.hid hh
    have HP := Lib.hid hp
    clear hh h hp hE q1
    go_enter Try.func41, Try.ntmps41
    go_wp2_with fail
    refine HH.out.mono ?_
    rintro e w1 ⟨rfl, rfl⟩
    go_wp2_with fail
    go_ret
    exact ⟨rfl, HP.out, keep2_refl _ _ _⟩
  | true =>
    rw [q1] at hh
    obtain ⟨n, rfl⟩ : ∃ n : Nat, i = (n : Int) := Int.eq_ofNat_of_zero_le (inR_iff.1 q1).1
    have hn : n < xs.length := by have := inR_iff.1 q1; omega
    obtain ⟨d0, d1, d2⟩ := h.cells hn
    have hr := mark_at h.marks hn
    have hn0 : (0 : Int) ≤ (n : Int) := by omega
    have hn1 : (n : Int) < (xs.length : Int) := by omega
    have hfr := frozP h
    have hs := h.set3 n 1000000000001 (by unfold markR; omega) false true
    have hct := closeI_any I n _ _ _ hr w d0 d1 d2 hfr
    cases q2 : (xs[n]?.getD in0).2.2 with
    | true =>
      have hE : chgErr xs (n : Int) = 10 := by simp [chgErr, q1, q2]
      rw [chgAt, chgXs, if_neg (by omega), if_neg (by omega), hE]
      rw [q2] at d2
      have HH := Lib.hid hh
      have HP := Lib.hid hp
      clear hh h hp hE q1 q2 hs hct hfr hr d0 d1
      go_enter Try.func41, Try.ntmps41
      go_wp2_with fail
      refine HH.out.mono ?_
      rintro e w1 ⟨rfl, rfl⟩
      go_wp2_with fail
      go_ret
      exact ⟨rfl, HP.out, keep2_refl _ _ _⟩
    | false =>
      have hE : chgErr xs (n : Int) = 0 := by simp [chgErr, q1, q2]
      rw [chgAt, if_pos hE, show chgXs 3 xs (n : Int) = xs.set n (turnI 3 (xs[n]?.getD in0)) by rw [chgXs, if_pos hE]; rfl, hE]
      rw [show turnI 3 (xs[n]?.getD in0) = (1000000000001, false, true) from rfl]
      rw [q2] at d2
      have HA := Lib.hid (advance_any _ hs.1)
      have HK := Lib.hid hs.2
      have HH := Lib.hid hh
      have HR := Lib.hid hct
      have hB : B ≠ I := h.ne
      clear hh h hp hE q1 q2 hs hct hfr hr d0 d1
      generalize (xs.set n (1000000000001, false, true)) = ys at *
      go_enter Try.func41, Try.ntmps41
      go_wp2_with fail
      refine HH.out.mono ?_
      rintro e w1 ⟨rfl, rfl⟩
      go_wp2_with fail
      refine HR.out.mono ?_
      rintro e w1 ⟨rfl, rfl⟩
      go_wp2_with fail
      refine HA.out.mono ?_
      rintro e w3 ⟨rfl, hm3, hk3⟩
      have HF := Lib.hid (And.intro hm3 ((keep2_of_grew HK.out).trans hk3 (fun x e => .inl e)))
      clear hm3 hk3
      go_wp2_with fail
      go_ret
      exact ⟨rfl, HF.out.1, HF.out.2⟩
theorem mkClose_any {lo B I : Nat} {xs : List Inp} {at_ : Int} (i : Int) (w : World) (h : MeetP w lo B I xs at_) :
    Calls Try.prog 18 #[.pointer (some ⟨B, 0, none⟩), .int .i64 i] w (MeetPost w lo B I (chgXs 3 xs i) (chgAt 3 xs i at_) (.int .i64 (chgErr xs i))) := by
  have HC := Lib.hid (changeClose_any i w h)
  clear h
  generalize chgXs 3 xs i = ys at *
  generalize chgAt 3 xs i at_ = yt at *
  generalize chgErr xs i = er at *
  go_enter Try.func18, Try.ntmps18
  go_wp2_with fail
  refine HC.out.mono ?_
  rintro e w1 ⟨rfl, hm1, hk1⟩
  have HF := Lib.hid (And.intro hm1 hk1)
  clear hm1 hk1
  go_wp2_with fail
  go_ret
  exact ⟨rfl, HF.out.1, HF.out.2⟩
end Go.Proofs.Ytmnbcofonhlplaa
