/-
  Held of a meet of package mark, as a contract; the methods of no meet at all.
-/
import Derived.Test.YtmnbcofonhlplaaMi
namespace Go.Proofs.Ytmnbcofonhlplaa
open Go.RowKit Go.Lib
set_option linter.unusedSimpArgs false

theorem foldL_in (xs : List Inp) (h : ∀ x ∈ xs, markR x.1) : ∀ a : Int × Bool, markR a.1 → markR (xs.foldl stepL a).1 := by
  induction xs with
  | nil => intro a ha; exact ha
  | cons x xs ih =>
    intro a ha
    refine ih (fun y hy => h y (by simp [hy])) _ ?_
    unfold stepL
    split
    · exact h x (by simp)
    · exact ha
theorem least_in {xs : List Inp} (h : ∀ x ∈ xs, markR x.1) : markR (leastM xs).1 := foldL_in xs h _ (by unfold markR; decide)
/-- Whether an input is held. -/
def isHeld (xs : List Inp) (d : Int) (i : Nat) : Bool := !(xs[i]?.getD in0).2.1 && decide (d < (xs[i]?.getD in0).1 - (leastM xs).1)
def heldTo (xs : List Inp) (d : Int) (i : Nat) : List Int := ((List.range i).filter (isHeld xs d)).map fun (k : Nat) => (k : Int)
theorem heldTo_next (xs : List Inp) (d : Int) (i : Nat) : heldTo xs d (i + 1) = if isHeld xs d i = true then heldTo xs d i ++ [(i : Int)] else heldTo xs d i := by
  unfold heldTo
  rw [List.range_succ, List.filter_append, List.map_append]
  cases h : isHeld xs d i <;> simp [h]
theorem heldTo_len (xs : List Inp) (d : Int) (i : Nat) : (heldTo xs d i).length ≤ i := by
  unfold heldTo
  rw [List.length_map]
  exact Nat.le_trans (List.length_filter_le _ _) (by simp)
def heldErr (d : Int) : Int := if inR d 0 1000000000 = true then 0 else 7
def heldM (xs : List Inp) (d : Int) : List Int := if inR d 0 1000000000 = true then heldTo xs d xs.length else []

set_option maxRecDepth 100000 in
set_option maxHeartbeats 2000000 in
theorem mkHeld_any {lo B I : Nat} {xs : List Inp} {at_ : Int} (d : Int) (w : World) (h : MeetP w lo B I xs at_) :
    Calls Try.prog 37 #[.pointer (some ⟨B, 0, none⟩), .int .i64 d] w (ListPost2 w (heldM xs d) (heldErr d)) := by
  obtain ⟨i0, hii, hz0, hz1, hz2⟩ := info_parts infoN
  have c0 := h.blk.cell 0
  simp only [List.getElem?_toArray, List.getElem?_cons_zero] at c0
  have hsp := isSpan_any d w
  unfold heldM heldErr
  cases q1 : inR d 0 1000000000 with
  | false =>
    rw [q1] at hsp
    have HSP := Lib.hid hsp
    rw [if_neg (by decide), if_neg (by decide)]
    clear h hsp q1
    go_enter Try.func37, Try.ntmps37
    go_wp2_with fail
    refine HSP.out.mono ?_
    rintro e w1 ⟨rfl, rfl⟩
    go_wp2_with fail
    go_ret2
    exact ⟨none, 0, rfl, (fun h => absurd h (by simp)), Below.refl _ _⟩
  | true =>
    rw [q1] at hsp
    have HSP := Lib.hid hsp
    rw [if_pos rfl, if_pos rfl]
    have hd := inR_iff.1 q1
    have HSL := Lib.hid (slowest_any w h)
    unfold LeastPost at HSL
    have hls := least_in h.marks
    have HP := Lib.hid (fun i => show isHeld xs d i = (!(xs[i]?.getD in0).2.1 && decide (d < (xs[i]?.getD in0).1 - (leastM xs).1)) from rfl)
    generalize leastM xs = q at HSL hls HP
    obtain ⟨f, q⟩ := q
    dsimp only at HSL hls HP
    have HM := Lib.hid h
    have hx9 : xs.length ≤ 8 := h.len.2
    clear h hsp q1
    go_enter Try.func37, Try.ntmps37
    go_wp2_with fail
    refine HSP.out.mono ?_
    rintro e w1 ⟨rfl, rfl⟩
    go_wp2_with fail
    refine HSL.out.mono ?_
    rintro e w1 ⟨rfl, hb1⟩
    have HB1 := Lib.hid hb1
    have hM1 := HM.out.belowV hb1
    have e0 := hM1.blk.cell 0
    simp only [List.getElem?_toArray, List.getElem?_cons_zero] at e0
    have HM1 := Lib.hid hM1
    clear hM1 hb1 c0
    go_wp2_with fail
    go_loopw [8, 26] (fun o s wr => ∃ i : Nat, s = .int .i64 i ∧ i ≤ xs.length ∧ wr.ownsRow w1.heap.size 3 1 o (heldTo xs d i).length (flatN (heldTo xs d i)) ∧ Below w1.heap.size w1 wr) (fun _ s _ => xs.length - (RowKit.intOf s).toNat)
    case atStart => exact ⟨0, rfl, Nat.zero_le _, World.ownsRow_nil _ _ _ _, Below.refl _ _⟩
    case round =>
      obtain ⟨i, rfl, hin, hrow, hB⟩ := hrel
      have hBs := hB.size
      have hBw := HB1.out.size
      by_cases hlt : i < xs.length
      · obtain ⟨d0, d1, d2⟩ := (HM1.out.belowV hB).cells hlt
        have hr := mark_at HM1.out.marks hlt
        have hp := HP.out i
        have hnx := heldTo_next xs d i
        have hln := heldTo_len xs d i
        have hi0 : (0 : Int) ≤ (i : Int) := by omega
        have hi1 : (i : Int) < (xs.length : Int) := by omega
        have hlm := lmark_any _ hr
        generalize isHeld xs d i = hh at hp hnx
        generalize xs[i]?.getD in0 = x at d0 d1 d2 hlm hp hr
        obtain ⟨m, a, b⟩ := x
        dsimp only at d0 d1 d2 hlm hp hr
        unfold markR at hr hls
        have qs : IntKind.i64.wrap (m - f) = m - f := by rw [IntKind.wrap_i64]; omega
        cases a with
        | true =>
          rw [hp] at hnx
          have HNX := Lib.hid (show heldTo xs d (i + 1) = heldTo xs d i by simpa using hnx)
          have HB2 := Lib.hid (hB.alloc hBs (.cells #[.int .i64 (m + 1000000000000), .bool true, .bool b] 69))
          have HR2 := Lib.hid (hrow.alloc (.cells #[.int .i64 (m + 1000000000000), .bool true, .bool b] 69))
          clear hp hnx hln hr hrow
          go_wp2_with fail
          go_roundw
          case rel => exact ⟨i + 1, by go_num, by omega, by rw [HNX.out]; exact HR2.out, HB2.out⟩
          case measure => simp [RowKit.intOf]; omega
        | false =>
          by_cases hdm : d < m - f
          · rw [hp] at hnx
            have HNX := Lib.hid (show heldTo xs d (i + 1) = heldTo xs d i ++ [(i : Int)] by simpa [hdm] using hnx)
            have hB2 := hB.alloc hBs (.cells #[.int .i64 (m + 1000000000000), .bool false, .bool b] 69)
            have hR2 := hrow.alloc (.cells #[.int .i64 (m + 1000000000000), .bool false, .bool b] 69)
            generalize hLL : heldTo xs d i = L at hR2 HNX hln
            clear hp hnx hr hrow hLL
            go_wp2_with fail
            refine (hlm _).mono ?_
            rintro e w2 ⟨rfl, rfl⟩
            generalize hW2 : wr.alloc (.cells #[.int .i64 (m + 1000000000000), .bool false, .bool b] 69) = W2 at hB2 hR2 ⊢
            have hs2 : w1.heap.size ≤ W2.heap.size := hB2.size
            clear hW2
            go_wp2_with (at_builtin; refine wpList_append_own _ rfl _ _ 36 rfl w1.heap.size 3 i0 (.int .i64 0) 1 8 Try.underlying36 hii hz0 hz1 hz2 rfl (by decide) _ _ _ rfl (hR2.alloc _) ⟨W2.heap.size, 0, none⟩ 1 1 [.int .i64 (i : Int)] rfl rfl (cells_new _ _ _) (by simp [Value.oneCell']) (by unfold maxLen; omega) (by omega) (by simp <;> omega) ?_; intro v' w5 hown' hgrow _)
            have HB5 := Lib.hid ((hB2.alloc hs2 (.cells #[.int .i64 (i : Int)] 3)).grown hgrow (by simp; omega) (fun k e => (hR2.lt k e).1))
            have HO5 := Lib.hid hown'
            clear hown' hgrow
            go_roundw
            case rel => exact ⟨i + 1, by go_num, by omega, by rw [HNX.out]; simpa [flatN] using HO5.out, HB5.out⟩
            case measure => simp [RowKit.intOf]; omega
          · rw [hp] at hnx
            have HNX := Lib.hid (show heldTo xs d (i + 1) = heldTo xs d i by simpa [hdm] using hnx)
            have HB2 := Lib.hid (hB.alloc hBs (.cells #[.int .i64 (m + 1000000000000), .bool false, .bool b] 69))
            have HR2 := Lib.hid (hrow.alloc (.cells #[.int .i64 (m + 1000000000000), .bool false, .bool b] 69))
            have hdd : decide (d < m - f) = false := decide_eq_false hdm
            clear hp hnx hln hr hrow
            go_wp2_with fail
            refine (hlm _).mono ?_
            rintro e w2 ⟨rfl, rfl⟩
            go_wp2_with fail
            go_roundw
            case rel => exact ⟨i + 1, by go_num, by omega, by rw [HNX.out]; exact HR2.out, HB2.out⟩
            case measure => simp [RowKit.intOf]; omega
      · have hge : xs.length ≤ i := by omega
        have hie : i = xs.length := by omega
        rw [hie] at hrow
        obtain ⟨p, c, hv, hP⟩ := intsIn_of_owns hrow
        have HP2 := Lib.hid hP
        have HV := Lib.hid hv
        have HB2 := Lib.hid (HB1.out.trans (hB.mono HB1.out.size))
        clear hrow hie hP hv
        go_wp2_with fail
        go_ret2
        exact ⟨p, c, by rw [← HV.out]; rfl, HP2.out, HB2.out⟩
theorem mkSet_nil (i m : Int) (w : World) : Calls Try.prog 19 #[.pointer none, .int .i64 i, .int .i64 m] w fun e w' => e = .returned (.int .i64 1) ∧ w = w' := by
  go_enter Try.func19, Try.ntmps19
  go_wp2_with fail
  go_ret
  exact ⟨rfl, rfl⟩
theorem changeIdle_nil (i : Int) (w : World) : Calls Try.prog 41 #[.pointer none, .int .i64 i, .func (.func 58) #[] #[]] w fun e w' => e = .returned (.int .i64 1) ∧ w = w' := by
  go_enter Try.func41, Try.ntmps41
  go_wp2_with fail
  go_ret
  exact ⟨rfl, rfl⟩
theorem mkIdle_nil (i : Int) (w : World) : Calls Try.prog 32 #[.pointer none, .int .i64 i] w fun e w' => e = .returned (.int .i64 1) ∧ w = w' := by
  go_enter Try.func32, Try.ntmps32
  go_wp2_with fail
  refine (changeIdle_nil _ _).mono ?_
  rintro e w1 ⟨rfl, rfl⟩
  go_wp2_with fail
  go_ret
  exact ⟨rfl, rfl⟩
theorem changeBusy_nil (i : Int) (w : World) : Calls Try.prog 41 #[.pointer none, .int .i64 i, .func (.func 44) #[] #[]] w fun e w' => e = .returned (.int .i64 1) ∧ w = w' := by
  go_enter Try.func41, Try.ntmps41
  go_wp2_with fail
  go_ret
  exact ⟨rfl, rfl⟩
theorem mkBusy_nil (i : Int) (w : World) : Calls Try.prog 34 #[.pointer none, .int .i64 i] w fun e w' => e = .returned (.int .i64 1) ∧ w = w' := by
  go_enter Try.func34, Try.ntmps34
  go_wp2_with fail
  refine (changeBusy_nil _ _).mono ?_
  rintro e w1 ⟨rfl, rfl⟩
  go_wp2_with fail
  go_ret
  exact ⟨rfl, rfl⟩
theorem changeClose_nil (i : Int) (w : World) : Calls Try.prog 41 #[.pointer none, .int .i64 i, .func (.func 42) #[] #[]] w fun e w' => e = .returned (.int .i64 1) ∧ w = w' := by
  go_enter Try.func41, Try.ntmps41
  go_wp2_with fail
  go_ret
  exact ⟨rfl, rfl⟩
theorem mkClose_nil (i : Int) (w : World) : Calls Try.prog 18 #[.pointer none, .int .i64 i] w fun e w' => e = .returned (.int .i64 1) ∧ w = w' := by
  go_enter Try.func18, Try.ntmps18
  go_wp2_with fail
  refine (changeClose_nil _ _).mono ?_
  rintro e w1 ⟨rfl, rfl⟩
  go_wp2_with fail
  go_ret
  exact ⟨rfl, rfl⟩
theorem mkHeld_nil (i : Int) (w : World) : Calls Try.prog 37 #[.pointer none, .int .i64 i] w fun e w' => e = .returned (.tuple #[.slice none 0 0, .int .i64 1]) ∧ w = w' := by
  go_enter Try.func37, Try.ntmps37
  go_wp2_with fail
  go_ret2
  exact ⟨rfl, rfl⟩
end Go.Proofs.Ytmnbcofonhlplaa
