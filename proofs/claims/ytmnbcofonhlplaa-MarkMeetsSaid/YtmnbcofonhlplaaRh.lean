/-
  Held of the document's own meets, as a contract; the methods of no meet at all.
-/
import Derived.Test.YtmnbcofonhlplaaRi
namespace Go.Proofs.Ytmnbcofonhlplaa
open Go.RowKit Go.Lib
set_option linter.unusedSimpArgs false

theorem foldL_true (xs : List Inp) : ∀ a : Int × Bool, a.2 = true → (xs.foldl stepL a).2 = true := by
  induction xs with
  | nil => intro a ha; exact ha
  | cons x xs ih =>
    intro a ha
    refine ih _ ?_
    unfold stepL
    split
    · rfl
    · exact ha
theorem foldL_busy (xs : List Inp) : ∀ a : Int × Bool, (∃ x ∈ xs, x.2.1 = false) → (xs.foldl stepL a).2 = true := by
  induction xs with
  | nil => rintro a ⟨x, hx, _⟩; cases hx
  | cons y xs ih =>
    rintro a ⟨x, hx, h⟩
    rcases List.mem_cons.1 hx with rfl | hx
    · refine foldL_true xs _ ?_
      unfold stepL
      split
      · rfl
      · rename_i hn
        cases q : a.2 with
        | true => rfl
        | false => exact absurd ⟨h, .inl q⟩ hn
    · exact ih _ ⟨x, hx, h⟩
theorem least_busy {xs : List Inp} {i : Nat} (hi : i < xs.length) (h : (xs[i]?.getD in0).2.1 = false) : (leastM xs).2 = true :=
  foldL_busy xs _ ⟨_, by rw [List.getElem?_eq_getElem hi] at h ⊢; exact List.getElem_mem hi, h⟩

set_option maxRecDepth 100000 in
set_option maxHeartbeats 2000000 in
theorem rkHeld_any {lo B g c : Nat} {xs : List Inp} {at_ : Int} (d : Int) (w : World) (h : MeetR w lo B g c xs at_) :
    Calls Try.prog 38 #[.pointer (some ⟨B, 0, none⟩), .int .i64 d] w (ListPost2 w (heldM xs d) (heldErr d)) := by
  obtain ⟨i0, hii, hz0, hz1, hz2⟩ := info_parts infoN
  have c0 := h.blk.cell 0
  simp only [List.getElem?_toArray, List.getElem?_cons_zero] at c0
  have hsp := rkWithin_any d 0 1000000000 w
  unfold heldM heldErr
  cases q1 : inR d 0 1000000000 with
  | false =>
    rw [q1] at hsp
    have HSP := Lib.hid hsp
    rw [if_neg (by decide), if_neg (by decide)]
    clear h hsp q1
    go_enter Try.func38, Try.ntmps38
    go_wp2_with fail
    refine HSP.out.mono ?_
    rintro e w1 ⟨rfl, rfl⟩
    go_wp2_with fail
    go_ret2
    exact ⟨none, 0, rfl, (fun h => absurd h (by simp)), Below.refl _ _⟩
  | true =>
    rw [q1] at hsp
    have HSP := Lib.hid hsp
    rw [if_pos rfl, if_pos rfl]
    have hd := inR_iff.1 q1
    have HSL := Lib.hid (rkLeast_any w h)
    unfold LeastPost at HSL
    have hls := least_in h.marks
    have HP := Lib.hid (fun i => show isHeld xs d i = (!(xs[i]?.getD in0).2.1 && decide (d < (xs[i]?.getD in0).1 - (leastM xs).1)) from rfl)
    have HBU := Lib.hid (fun i (hi : i < xs.length) => least_busy (xs := xs) hi)
    generalize leastM xs = q at HSL hls HP HBU
    obtain ⟨f, q⟩ := q
    dsimp only at HSL hls HP HBU
    have HM := Lib.hid h
    have hx9 : xs.length ≤ 8 := h.len.2
    unfold markR at hls
    have qs : IntKind.i64.wrap (f + d) = f + d := by rw [IntKind.wrap_i64]; omega
    clear h hsp q1
    go_enter Try.func38, Try.ntmps38
    go_wp2_with fail
    refine HSP.out.mono ?_
    rintro e w1 ⟨rfl, rfl⟩
    go_wp2_with fail
    refine HSL.out.mono ?_
    rintro e w1 ⟨rfl, hb1⟩
    have HB1 := Lib.hid hb1
    have hM1 := HM.out.belowV hb1
    have HM1 := Lib.hid hM1
    clear hM1 hb1 c0
    go_wp2_with fail
    go_loopw [6, 9] (fun o s wr => ∃ i : Nat, s = .int .i64 i ∧ i ≤ xs.length ∧ wr.ownsRow w1.heap.size 3 1 o (heldTo xs d i).length (flatN (heldTo xs d i)) ∧ Below w1.heap.size w1 wr) (fun _ s _ => xs.length - (RowKit.intOf s).toNat)
    case atStart => exact ⟨0, rfl, Nat.zero_le _, World.ownsRow_nil _ _ _ _, Below.refl _ _⟩
    case round =>
      obtain ⟨i, rfl, hin, hrow, hB⟩ := hrel
      have hBs := hB.size
      have hBw := HB1.out.size
      have c0 := (HM1.out.belowV hB).blk.cell 0
      simp only [List.getElem?_toArray, List.getElem?_cons_zero] at c0
      by_cases hlt : i < xs.length
      · obtain ⟨d0, d1, d2⟩ := (HM1.out.belowV hB).cells hlt
        have hp := HP.out i
        have hbu := HBU.out i hlt
        have hnx := heldTo_next xs d i
        have hln := heldTo_len xs d i
        have hi0 : (0 : Int) ≤ (i : Int) := by omega
        have hi1 : (i : Int) < (xs.length : Int) := by omega
        generalize isHeld xs d i = hh at hp hnx
        generalize xs[i]?.getD in0 = x at d0 d1 d2 hp hbu
        obtain ⟨m, a, b⟩ := x
        dsimp only at d0 d1 d2 hp hbu
        cases a with
        | true =>
          rw [hp] at hnx
          have HNX := Lib.hid (show heldTo xs d (i + 1) = heldTo xs d i by simpa using hnx)
          have HB2 := Lib.hid hB
          have HR2 := Lib.hid hrow
          clear hp hnx hln hrow hbu
          cases q with
          | true =>
            go_wp2_with fail
            go_roundw
            case rel => exact ⟨i + 1, by go_num, by omega, by rw [HNX.out]; exact HR2.out, HB2.out⟩
            case measure => simp [RowKit.intOf]; omega
          | false =>
            go_wp2_with fail
            go_roundw
            case rel => exact ⟨i + 1, by go_num, by omega, by rw [HNX.out]; exact HR2.out, HB2.out⟩
            case measure => simp [RowKit.intOf]; omega
        | false =>
          obtain rfl := hbu rfl
          clear hbu
          by_cases hdm : d < m - f
          · rw [hp] at hnx
            have HNX := Lib.hid (show heldTo xs d (i + 1) = heldTo xs d i ++ [(i : Int)] by simpa [hdm] using hnx)
            have hgt : f + d < m := by omega
            generalize hLL : heldTo xs d i = L at hrow HNX hln
            clear hp hnx hLL
            go_wp2_with (at_builtin; refine wpList_append_own _ rfl _ _ 36 rfl w1.heap.size 3 i0 (.int .i64 0) 1 8 Try.underlying36 hii hz0 hz1 hz2 rfl (by decide) _ _ _ rfl (hrow.alloc _) ⟨wr.heap.size, 0, none⟩ 1 1 [.int .i64 (i : Int)] rfl rfl (cells_new _ _ _) (by simp [Value.oneCell']) (by unfold maxLen; omega) (by omega) (by simp <;> omega) ?_; intro v' w5 hown' hgrow _)
            have HB5 := Lib.hid ((hB.alloc hBs (.cells #[.int .i64 (i : Int)] 3)).grown hgrow (by simp; omega) (fun k e => (hrow.lt k e).1))
            have HO5 := Lib.hid hown'
            clear hown' hgrow
            go_roundw
            case rel => exact ⟨i + 1, by go_num, by omega, by rw [HNX.out]; simpa [flatN] using HO5.out, HB5.out⟩
            case measure => simp [RowKit.intOf]; omega
          · rw [hp] at hnx
            have HNX := Lib.hid (show heldTo xs d (i + 1) = heldTo xs d i by simpa [hdm] using hnx)
            have HB2 := Lib.hid hB
            have HR2 := Lib.hid hrow
            have hdd : decide (f + d < m) = false := decide_eq_false (by omega)
            clear hp hnx hln hrow hdm
            go_wp2_with fail
            go_roundw
            case rel => exact ⟨i + 1, by go_num, by omega, by rw [HNX.out]; exact HR2.out, HB2.out⟩
            case measure => simp [RowKit.intOf]; omega
      · have hge : xs.length ≤ i := by omega
        have hie : i = xs.length := by omega
        rw [hie] at hrow
        obtain ⟨p, c, hv, hP⟩ := intsIn_of_owns hrow
        have HP2 := Lib.hid hP
        have HV := Lib.hid hv
        have HB2 := Lib.hid (HB1.out.trans (hB.mono HB1.out.size))
        clear hrow hie hP hv
        go_wp2_with fail
        go_ret2
        exact ⟨p, c, by rw [← HV.out]; rfl, HP2.out, HB2.out⟩

theorem rkWrong_nil (i : Int) (w : World) : Calls Try.prog 40 #[.pointer none, .int .i64 i] w fun e w' => e = .returned (.int .i64 1) ∧ w = w' := by
  go_enter Try.func40, Try.ntmps40
  go_wp2_with fail
  go_ret
  exact ⟨rfl, rfl⟩
theorem rkMark_nil (w : World) : Calls Try.prog 12 #[.pointer none] w fun e w' => e = .returned (.int .i64 (-1000000000000)) ∧ w = w' := by
  go_enter Try.func12, Try.ntmps12
  go_wp2_with fail
  go_ret
  exact ⟨rfl, rfl⟩
theorem rkInputs_nil (w : World) : Calls Try.prog 15 #[.pointer none] w fun e w' => e = .returned (.slice none 0 0) ∧ w = w' := by
  go_enter Try.func15, Try.ntmps15
  go_wp2_with fail
  go_ret
  exact ⟨rfl, rfl⟩
theorem rkHeld_nil (i : Int) (w : World) : Calls Try.prog 38 #[.pointer none, .int .i64 i] w fun e w' => e = .returned (.tuple #[.slice none 0 0, .int .i64 1]) ∧ w = w' := by
  go_enter Try.func38, Try.ntmps38
  go_wp2_with fail
  go_ret2
  exact ⟨rfl, rfl⟩
theorem rkSet_nil (i m : Int) (w : World) : Calls Try.prog 31 #[.pointer none, .int .i64 i, .int .i64 m] w fun e w' => e = .returned (.int .i64 1) ∧ w = w' := by
  go_enter Try.func31, Try.ntmps31
  go_wp2_with fail
  refine (rkWrong_nil _ _).mono ?_
  rintro e w1 ⟨rfl, rfl⟩
  go_wp2_with fail
  go_ret
  exact ⟨rfl, rfl⟩
theorem rkIsIdle_nil (i : Int) (w : World) : Calls Try.prog 17 #[.pointer none, .int .i64 i] w fun e w' => e = .returned (.bool false) ∧ w = w' := by
  go_enter Try.func17, Try.ntmps17
  go_wp2_with fail
  refine (rkWrong_nil _ _).mono ?_
  rintro e w1 ⟨rfl, rfl⟩
  go_wp2_with fail
  go_ret
  exact ⟨rfl, rfl⟩
theorem turnIdle_nil (i : Int) (w : World) : Calls Try.prog 59 #[.pointer none, .int .i64 i, .bool true, .bool false] w fun e w' => e = .returned (.int .i64 1) ∧ w = w' := by
  go_enter Try.func59, Try.ntmps59
  go_wp2_with fail
  refine (rkWrong_nil _ _).mono ?_
  rintro e w1 ⟨rfl, rfl⟩
  go_wp2_with fail
  go_ret
  exact ⟨rfl, rfl⟩
theorem rkIdle_nil (i : Int) (w : World) : Calls Try.prog 33 #[.pointer none, .int .i64 i] w fun e w' => e = .returned (.int .i64 1) ∧ w = w' := by
  go_enter Try.func33, Try.ntmps33
  go_wp2_with fail
  refine (turnIdle_nil _ _).mono ?_
  rintro e w1 ⟨rfl, rfl⟩
  go_wp2_with fail
  go_ret
  exact ⟨rfl, rfl⟩
theorem turnBusy_nil (i : Int) (w : World) : Calls Try.prog 59 #[.pointer none, .int .i64 i, .bool false, .bool false] w fun e w' => e = .returned (.int .i64 1) ∧ w = w' := by
  go_enter Try.func59, Try.ntmps59
  go_wp2_with fail
  refine (rkWrong_nil _ _).mono ?_
  rintro e w1 ⟨rfl, rfl⟩
  go_wp2_with fail
  go_ret
  exact ⟨rfl, rfl⟩
theorem rkBusy_nil (i : Int) (w : World) : Calls Try.prog 35 #[.pointer none, .int .i64 i] w fun e w' => e = .returned (.int .i64 1) ∧ w = w' := by
  go_enter Try.func35, Try.ntmps35
  go_wp2_with fail
  refine (turnBusy_nil _ _).mono ?_
  rintro e w1 ⟨rfl, rfl⟩
  go_wp2_with fail
  go_ret
  exact ⟨rfl, rfl⟩
theorem turnClose_nil (i : Int) (w : World) : Calls Try.prog 59 #[.pointer none, .int .i64 i, .bool false, .bool true] w fun e w' => e = .returned (.int .i64 1) ∧ w = w' := by
  go_enter Try.func59, Try.ntmps59
  go_wp2_with fail
  refine (rkWrong_nil _ _).mono ?_
  rintro e w1 ⟨rfl, rfl⟩
  go_wp2_with fail
  go_ret
  exact ⟨rfl, rfl⟩
theorem rkClose_nil (i : Int) (w : World) : Calls Try.prog 36 #[.pointer none, .int .i64 i] w fun e w' => e = .returned (.int .i64 1) ∧ w = w' := by
  go_enter Try.func36, Try.ntmps36
  go_wp2_with fail
  refine (turnClose_nil _ _).mono ?_
  rintro e w1 ⟨rfl, rfl⟩
  go_wp2_with fail
  go_ret
  exact ⟨rfl, rfl⟩
end Go.Proofs.Ytmnbcofonhlplaa
