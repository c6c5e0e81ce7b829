/-
  Set, Idle, Busy, Close of the document's own meets, as contracts.
-/
import Derived.Test.YtmnbcofonhlplaaRm
namespace Go.Proofs.Ytmnbcofonhlplaa
open Go.RowKit Go.Lib
set_option linter.unusedSimpArgs false

theorem MeetR.drewR {W : World} {lo B g c : Nat} {xs : List Inp} {at_ : Int} (h : MeetR W lo B g c xs at_) : MeetR W.drew lo B g c xs at_ := h.belowV (Below.refl _ W).drew
set_option maxRecDepth 100000 in
set_option maxHeartbeats 1000000 in
theorem rkSet_any {lo B g c : Nat} {xs : List Inp} {at_ : Int} (i m : Int) (w : World) (h : MeetR w lo B g c xs at_) :
    Calls Try.prog 31 #[.pointer (some ⟨B, 0, none⟩), .int .i64 i, .int .i64 m] w (MeetRP w lo B g c (setXs xs i m) (setAt xs i m at_) (.int .i64 (setErr xs i m))) := by
  have hh := rkWrong_any i w h
  have hp := h
  have c0 := h.blk.cell 0
  simp only [List.getElem?_toArray, List.getElem?_cons_zero] at c0
  cases q1 : inR i 0 ((xs.length : Int) - 1) with
  | false =>
    have hE : setErr xs i m = 7 := by simp [setErr, q1]
    rw [setAt, setXs, if_neg (by omega), if_neg (by omega), hE]
    rw [q1, if_neg (by decide)] at hh
    have HH := Lib.hid hh
    have HP := Lib.hid hp
    clear hh h hp hE q1
    go_enter Try.func31, Try.ntmps31
    go_wp2_with fail
    refine HH.out.mono ?_
    rintro e w1 ⟨rfl, rfl⟩
    go_wp2_with fail
    go_ret
    exact ⟨rfl, HP.out, keep2_refl _ _ _⟩
  | true =>
    rw [q1, if_pos rfl] at hh
    cases q2 : inR m (-1000000000000) 1000000000001 with
    | false =>
      have hE : setErr xs i m = 7 := by simp [setErr, q2]
      have hw := rkWithin_any m (-1000000000000) 1000000000001 w
      rw [q2] at hw
      rw [setAt, setXs, if_neg (by omega), if_neg (by omega), hE]
      have HH := Lib.hid hh
      have HP := Lib.hid hp
      have HW := Lib.hid hw
      clear hh h hp hE q1 q2 hw
      go_enter Try.func31, Try.ntmps31
      go_wp2_with fail
      refine HH.out.mono ?_
      rintro e w1 ⟨rfl, rfl⟩
      go_wp2_with fail
      refine HW.out.mono ?_
      rintro e w1 ⟨rfl, rfl⟩
      go_wp2_with fail
      go_ret
      exact ⟨rfl, HP.out, keep2_refl _ _ _⟩
    | true =>
      have hw := rkWithin_any m (-1000000000000) 1000000000001 w
      rw [q2] at hw
      obtain ⟨n, rfl⟩ : ∃ n : Nat, i = (n : Int) := Int.eq_ofNat_of_zero_le (inR_iff.1 q1).1
      have hn : n < xs.length := by have := inR_iff.1 q1; omega
      have hmr : markR m := inR_iff.1 q2
      obtain ⟨d0, d1, d2⟩ := h.cells hn
      have hn0 : (0 : Int) ≤ (n : Int) := by omega
      have hn1 : (n : Int) < (xs.length : Int) := by omega
      have hs2 := h.setM n m hmr false
      by_cases hlt : m < (xs[n]?.getD in0).1
      · have hE : setErr xs (n : Int) m = 10 := by simp only [setErr, Int.toNat_natCast, q1, q2, if_pos hlt]; simp
        rw [setAt, setXs, if_neg (by omega), if_neg (by omega), hE]
        have HH := Lib.hid hh
        have HP := Lib.hid hp
        have HW := Lib.hid hw
        clear hh h hp hE q1 q2 hw hs2 hmr
        generalize xs[n]?.getD in0 = x at *
        obtain ⟨x, a, b⟩ := x
        dsimp only at *
        go_enter Try.func31, Try.ntmps31
        go_wp2_with fail
        refine HH.out.mono ?_
        rintro e w1 ⟨rfl, rfl⟩
        go_wp2_with fail
        refine HW.out.mono ?_
        rintro e w1 ⟨rfl, rfl⟩
        go_wp2_with fail
        go_ret
        exact ⟨rfl, HP.out, keep2_refl _ _ _⟩
      · have hE : setErr xs (n : Int) m = 0 := by simp only [setErr, Int.toNat_natCast, q1, q2, if_neg hlt]; simp
        rw [setAt, if_pos hE, show setXs xs (n : Int) m = xs.set n (m, false, (xs[n]?.getD in0).2.2) by rw [setXs, if_pos hE]; rfl, hE]
        have HS2 := Lib.hid hs2
        have hB : B ≠ g := h.ne
        have HH := Lib.hid hh
        have HW := Lib.hid hw
        have f0 := frozR h (n * 3)
        have f1 := frozR h (n * 3 + 1)
        have hd : decide (m < (xs[n]?.getD in0).1) = false := decide_eq_false hlt
        clear hh h hp hE q1 q2 hw hs2 hmr hlt
        generalize (xs.set n (m, false, (xs[n]?.getD in0).2.2)) = ys at *
        generalize xs[n]?.getD in0 = x at *
        obtain ⟨x, a, b⟩ := x
        dsimp only at *
        go_enter Try.func31, Try.ntmps31
        go_wp2_with fail
        refine HH.out.mono ?_
        rintro e w1 ⟨rfl, rfl⟩
        go_wp2_with fail
        refine HW.out.mono ?_
        rintro e w1 ⟨rfl, rfl⟩
        go_wp2_with fail
        go_region
        go_wp2_with fail
        refine (rkOn_any _ (HS2.out.1.drewR)).mono ?_
        rintro e w3 ⟨rfl, hm3, hk3⟩
        have HF := Lib.hid (And.intro hm3 ((keep2_of_grew HS2.out.2.drewG).trans hk3 (fun x e => .inl e)))
        clear hm3 hk3
        go_wp2_with fail
        go_ret
        exact ⟨rfl, HF.out.1, HF.out.2⟩

set_option maxRecDepth 100000 in
set_option maxHeartbeats 1000000 in
theorem turnIdle_any {lo B g c : Nat} {xs : List Inp} {at_ : Int} (i : Int) (w : World) (h : MeetR w lo B g c xs at_) :
    Calls Try.prog 59 #[.pointer (some ⟨B, 0, none⟩), .int .i64 i, .bool true, .bool false] w (MeetRP w lo B g c (chgXs 1 xs i) (chgAt 1 xs i at_) (.int .i64 (chgErr xs i))) := by
  have hh := rkWrong_any i w h
  have hp := h
  have c0 := h.blk.cell 0
  simp only [List.getElem?_toArray, List.getElem?_cons_zero] at c0
  cases q1 : inR i 0 ((xs.length : Int) - 1) with
  | false =>
    have hE : chgErr xs i = 7 := by simp [chgErr, q1]
    rw [chgAt, chgXs, if_neg (by omega), if_neg (by omega), hE]
    rw [q1, if_neg (by decide)] at hh
    have HH := Lib.hid hh
    have HP := Lib.hid hp
    clear hh h hp hE q1
    go_enter Try.func59, Try.ntmps59
    go_wp2_with fail
    refine HH.out.mono ?_
    rintro e w1 ⟨rfl, rfl⟩
    go_wp2_with fail
    go_ret
    exact ⟨rfl, HP.out, keep2_refl _ _ _⟩
  | true =>
    rw [q1, if_pos rfl] at hh
    obtain ⟨n, rfl⟩ : ∃ n : Nat, i = (n : Int) := Int.eq_ofNat_of_zero_le (inR_iff.1 q1).1
    have hn : n < xs.length := by have := inR_iff.1 q1; omega
    obtain ⟨d0, d1, d2⟩ := h.cells hn
    have hn0 : (0 : Int) ≤ (n : Int) := by omega
    have hn1 : (n : Int) < (xs.length : Int) := by omega
    have hs := h.setT hn true false
    cases q2 : (xs[n]?.getD in0).2.2 with
    | true =>
      have hE : chgErr xs (n : Int) = 10 := by simp [chgErr, q1, q2]
      rw [chgAt, chgXs, if_neg (by omega), if_neg (by omega), hE]
      rw [q2] at d2
      have HH := Lib.hid hh
      have HP := Lib.hid hp
      clear hh h hp hE q1 q2 hs d0 d1
      go_enter Try.func59, Try.ntmps59
      go_wp2_with fail
      refine HH.out.mono ?_
      rintro e w1 ⟨rfl, rfl⟩
      go_wp2_with fail
      go_ret
      exact ⟨rfl, HP.out, keep2_refl _ _ _⟩
    | false =>
      have hE : chgErr xs (n : Int) = 0 := by simp [chgErr, q1, q2]
      rw [chgAt, if_pos hE, show chgXs 1 xs (n : Int) = xs.set n (turnI 1 (xs[n]?.getD in0)) by rw [chgXs, if_pos hE]; rfl, hE]
      rw [show turnI 1 (xs[n]?.getD in0) = ((xs[n]?.getD in0).1, true, (xs[n]?.getD in0).2.2) from rfl]
      rw [show ((xs[n]?.getD in0).1, true, false) = ((xs[n]?.getD in0).1, true, (xs[n]?.getD in0).2.2) by rw [q2]] at hs
      rw [q2] at d2
      have HS := Lib.hid hs
      have HH := Lib.hid hh
      have hB : B ≠ g := h.ne
      have f0 := frozR h (n * 3)
      have f1 := frozR h (n * 3 + 1)
      have f2 := frozR h (n * 3 + 2)
      clear hh h hp hE q1 q2 hs
      generalize (xs.set n ((xs[n]?.getD in0).1, true, (xs[n]?.getD in0).2.2)) = ys at *
      generalize xs[n]?.getD in0 = x at *
      obtain ⟨x, a, b⟩ := x
      dsimp only at *
      go_enter Try.func59, Try.ntmps59
      go_wp2_with fail
      refine HH.out.mono ?_
      rintro e w1 ⟨rfl, rfl⟩
      go_wp2_with fail
      go_region
      go_wp2_with fail
      refine (rkOn_any _ (HS.out.1.drewR)).mono ?_
      rintro e w3 ⟨rfl, hm3, hk3⟩
      have HF := Lib.hid (And.intro hm3 ((keep2_of_grew HS.out.2.drewG).trans hk3 (fun x e => .inl e)))
      clear hm3 hk3
      go_wp2_with fail
      go_ret
      exact ⟨rfl, HF.out.1, HF.out.2⟩
theorem rkIdle_any {lo B g c : Nat} {xs : List Inp} {at_ : Int} (i : Int) (w : World) (h : MeetR w lo B g c xs at_) :
    Calls Try.prog 33 #[.pointer (some ⟨B, 0, none⟩), .int .i64 i] w (MeetRP w lo B g c (chgXs 1 xs i) (chgAt 1 xs i at_) (.int .i64 (chgErr xs i))) := by
  have HC := Lib.hid (turnIdle_any i w h)
  clear h
  generalize chgXs 1 xs i = ys at *
  generalize chgAt 1 xs i at_ = yt at *
  generalize chgErr xs i = er at *
  go_enter Try.func33, Try.ntmps33
  go_wp2_with fail
  refine HC.out.mono ?_
  rintro e w1 ⟨rfl, hm1, hk1⟩
  have HF := Lib.hid (And.intro hm1 hk1)
  clear hm1 hk1
  go_wp2_with fail
  go_ret
  exact ⟨rfl, HF.out.1, HF.out.2⟩

set_option maxRecDepth 100000 in
set_option maxHeartbeats 1000000 in
theorem turnBusy_any {lo B g c : Nat} {xs : List Inp} {at_ : Int} (i : Int) (w : World) (h : MeetR w lo B g c xs at_) :
    Calls Try.prog 59 #[.pointer (some ⟨B, 0, none⟩), .int .i64 i, .bool false, .bool false] w (MeetRP w lo B g c (chgXs 2 xs i) (chgAt 2 xs i at_) (.int .i64 (chgErr xs i))) := by
  have hh := rkWrong_any i w h
  have hp := h
  have c0 := h.blk.cell 0
  simp only [List.getElem?_toArray, List.getElem?_cons_zero] at c0
  cases q1 : inR i 0 ((xs.length : Int) - 1) with
  | false =>
    have hE : chgErr xs i = 7 := by simp [chgErr, q1]
    rw [chgAt, chgXs, if_neg (by omega), if_neg (by omega), hE]
    rw [q1, if_neg (by decide)] at hh
    have HH := Lib.hid hh
    have HP := Lib.hid hp
    clear hh h hp hE q1
    go_enter Try.func59, Try.ntmps59
    go_wp2_with fail
    refine HH.out.mono ?_
    rintro e w1 ⟨rfl, rfl⟩
    go_wp2_with fail
    go_ret
    exact ⟨rfl, HP.out, keep2_refl _ _ _⟩
  | true =>
    rw [q1, if_pos rfl] at hh
    obtain ⟨n, rfl⟩ : ∃ n : Nat, i = (n : Int) := Int.eq_ofNat_of_zero_le (inR_iff.1 q1).1
    have hn : n < xs.length := by have := inR_iff.1 q1; omega
    obtain ⟨d0, d1, d2⟩ := h.cells hn
    have hn0 : (0 : Int) ≤ (n : Int) := by omega
    have hn1 : (n : Int) < (xs.length : Int) := by omega
    have hs := h.setT hn false false
    cases q2 : (xs[n]?.getD in0).2.2 with
    | true =>
      have hE : chgErr xs (n : Int) = 10 := by simp [chgErr, q1, q2]
      rw [chgAt, chgXs, if_neg (by omega), if_neg (by omega), hE]
      rw [q2] at d2
      have HH := Lib.hid hh
      have HP := Lib.hid hp
      clear hh h hp hE q1 q2 hs d0 d1
      go_enter Try.func59, Try.ntmps59
      go_wp2_with fail
      refine HH.out.mono ?_
      rintro e w1 ⟨rfl, rfl⟩
      go_wp2_with fail
      go_ret
      exact ⟨rfl, HP.out, keep2_refl _ _ _⟩
    | false =>
      have hE : chgErr xs (n : Int) = 0 := by simp [chgErr, q1, q2]
      rw [chgAt, if_pos hE, show chgXs 2 xs (n : Int) = xs.set n (turnI 2 (xs[n]?.getD in0)) by rw [chgXs, if_pos hE]; rfl, hE]
      rw [show turnI 2 (xs[n]?.getD in0) = ((xs[n]?.getD in0).1, false, (xs[n]?.getD in0).2.2) from rfl]
      rw [show ((xs[n]?.getD in0).1, false, false) = ((xs[n]?.getD in0).1, false, (xs[n]?.getD in0).2.2) by rw [q2]] at hs
      rw [q2] at d2
      have HS := Lib.hid hs
      have HH := Lib.hid hh
      have hB : B ≠ g := h.ne
      have f0 := frozR h (n * 3)
      have f1 := frozR h (n * 3 + 1)
      have f2 := frozR h (n * 3 + 2)
      clear hh h hp hE q1 q2 hs
      generalize (xs.set n ((xs[n]?.getD in0).1, false, (xs[n]?.getD in0).2.2)) = ys at *
      generalize xs[n]?.getD in0 = x at *
      obtain ⟨x, a, b⟩ := x
      dsimp only at *
      go_enter Try.func59, Try.ntmps59
      go_wp2_with fail
      refine HH.out.mono ?_
      rintro e w1 ⟨rfl, rfl⟩
      go_wp2_with fail
      go_region
      go_wp2_with fail
      refine (rkOn_any _ (HS.out.1.drewR)).mono ?_
      rintro e w3 ⟨rfl, hm3, hk3⟩
      have HF := Lib.hid (And.intro hm3 ((keep2_of_grew HS.out.2.drewG).trans hk3 (fun x e => .inl e)))
      clear hm3 hk3
      go_wp2_with fail
      go_ret
      exact ⟨rfl, HF.out.1, HF.out.2⟩
theorem rkBusy_any {lo B g c : Nat} {xs : List Inp} {at_ : Int} (i : Int) (w : World) (h : MeetR w lo B g c xs at_) :
    Calls Try.prog 35 #[.pointer (some ⟨B, 0, none⟩), .int .i64 i] w (MeetRP w lo B g c (chgXs 2 xs i) (chgAt 2 xs i at_) (.int .i64 (chgErr xs i))) := by
  have HC := Lib.hid (turnBusy_any i w h)
  clear h
  generalize chgXs 2 xs i = ys at *
  generalize chgAt 2 xs i at_ = yt at *
  generalize chgErr xs i = er at *
  go_enter Try.func35, Try.ntmps35
  go_wp2_with fail
  refine HC.out.mono ?_
  rintro e w1 ⟨rfl, hm1, hk1⟩
  have HF := Lib.hid (And.intro hm1 hk1)
  clear hm1 hk1
  go_wp2_with fail
  go_ret
  exact ⟨rfl, HF.out.1, HF.out.2⟩

set_option maxRecDepth 100000 in
set_option maxHeartbeats 1000000 in
theorem turnClose_any {lo B g c : Nat} {xs : List Inp} {at_ : Int} (i : Int) (w : World) (h : MeetR w lo B g c xs at_) :
    Calls Try.prog 59 #[.pointer (some ⟨B, 0, none⟩), .int .i64 i, .bool false, .bool true] w (MeetRP w lo B g c (chgXs 3 xs i) (chgAt 3 xs i at_) (.int .i64 (chgErr xs i))) := by
  have hh := rkWrong_any i w h
  have hp := h
  have c0 := h.blk.cell 0
  simp only [List.getElem?_toArray, List.getElem?_cons_zero] at c0
  cases q1 : inR i 0 ((xs.length : Int) - 1) with
  | false =>
    have hE : chgErr xs i = 7 := by simp [chgErr, q1]
    rw [chgAt, chgXs, if_neg (by omega), if_neg (by omega), hE]
    rw [q1, if_neg (by decide)] at hh
    have HH := Lib.hid hh
    have HP := Lib.hid hp
    clear hh h hp hE q1
    go_enter Try.func59, Try.ntmps59
    go_wp2_with fail
    refine HH.out.mono ?_
    rintro e w1 ⟨rfl, rfl⟩
    go_wp2_with fail
    go_ret
    exact ⟨rfl, HP.out, keep2_refl _ _ _⟩
  | true =>
    rw [q1, if_pos rfl] at hh
    obtain ⟨n, rfl⟩ : ∃ n : Nat, i = (n : Int) := Int.eq_ofNat_of_zero_le (inR_iff.1 q1).1
    have hn : n < xs.length := by have := inR_iff.1 q1; omega
    obtain ⟨d0, d1, d2⟩ := h.cells hn
    have hn0 : (0 : Int) ≤ (n : Int) := by omega
    have hn1 : (n : Int) < (xs.length : Int) := by omega
    have hs := h.set3 n 1000000000001 (by unfold markR; omega) false true
    cases q2 : (xs[n]?.getD in0).2.2 with
    | true =>
      have hE : chgErr xs (n : Int) = 10 := by simp [chgErr, q1, q2]
      rw [chgAt, chgXs, if_neg (by omega), if_neg (by omega), hE]
      rw [q2] at d2
      have HH := Lib.hid hh
      have HP := Lib.hid hp
      clear hh h hp hE q1 q2 hs d0 d1
      go_enter Try.func59, Try.ntmps59
      go_wp2_with fail
      refine HH.out.mono ?_
      rintro e w1 ⟨rfl, rfl⟩
      go_wp2_with fail
      go_ret
      exact ⟨rfl, HP.out, keep2_refl _ _ _⟩
    | false =>
      have hE : chgErr xs (n : Int) = 0 := by simp [chgErr, q1, q2]
      rw [chgAt, if_pos hE, show chgXs 3 xs (n : Int) = xs.set n (turnI 3 (xs[n]?.getD in0)) by rw [chgXs, if_pos hE]; rfl, hE]
      rw [show turnI 3 (xs[n]?.getD in0) = (1000000000001, false, true) from rfl]
      skip
      rw [q2] at d2
      have HS := Lib.hid hs
      have HH := Lib.hid hh
      have hB : B ≠ g := h.ne
      have f0 := frozR h (n * 3)
      have f1 := frozR h (n * 3 + 1)
      have f2 := frozR h (n * 3 + 2)
      clear hh h hp hE q1 q2 hs
      generalize (xs.set n (1000000000001, false, true)) = ys at *
      generalize xs[n]?.getD in0 = x at *
      obtain ⟨x, a, b⟩ := x
      dsimp only at *
      go_enter Try.func59, Try.ntmps59
      go_wp2_with fail
      refine HH.out.mono ?_
      rintro e w1 ⟨rfl, rfl⟩
      go_wp2_with fail
      go_region
      go_wp2_with fail
      refine (rkOn_any _ (HS.out.1.drewR)).mono ?_
      rintro e w3 ⟨rfl, hm3, hk3⟩
      have HF := Lib.hid (And.intro hm3 ((keep2_of_grew HS.out.2.drewG).trans hk3 (fun x e => .inl e)))
      clear hm3 hk3
      go_wp2_with fail
      go_ret
      exact ⟨rfl, HF.out.1, HF.out.2⟩
theorem rkClose_any {lo B g c : Nat} {xs : List Inp} {at_ : Int} (i : Int) (w : World) (h : MeetR w lo B g c xs at_) :
    Calls Try.prog 36 #[.pointer (some ⟨B, 0, none⟩), .int .i64 i] w (MeetRP w lo B g c (chgXs 3 xs i) (chgAt 3 xs i at_) (.int .i64 (chgErr xs i))) := by
  have HC := Lib.hid (turnClose_any i w h)
  clear h
  generalize chgXs 3 xs i = ys at *
  generalize chgAt 3 xs i at_ = yt at *
  generalize chgErr xs i = er at *
  go_enter Try.func36, Try.ntmps36
  go_wp2_with fail
  refine HC.out.mono ?_
  rintro e w1 ⟨rfl, hm1, hk1⟩
  have HF := Lib.hid (And.intro hm1 hk1)
  clear hm1 hk1
  go_wp2_with fail
  go_ret
  exact ⟨rfl, HF.out.1, HF.out.2⟩
end Go.Proofs.Ytmnbcofonhlplaa
