/-
  clock's checkSessions, as a contract.
-/
import Derived.Test.YthbpdalkifocaaaTimes
namespace Go.Proofs.Ythbpdalkifocaaa
open Go.RowKit

theorem badTime_any (t : Int) (w : World) :
    Calls Try.prog 41 #[.int .i64 t] w fun e w' => e = .returned (.bool (!inR t (-1000000000000) 1000000000000)) ∧ w = w' := by
  have h := fun W => clkValid_any t W
  generalize inR t (-1000000000000) 1000000000000 = q at h ⊢
  go_enter Try.func41, Try.ntmps41
  go_wp2_with (go_at_call 28; refine (h _).mono ?_; rintro e w' ⟨rfl, rfl⟩)
  go_ret
  exact ⟨rfl, rfl⟩

/-- Some time of the row lies outside. -/
def badTimes (ts : List Int) : Bool := ts.any fun t => !inR t (-1000000000000) 1000000000000
theorem inTime_of_bad {ts : List Int} (h : badTimes ts = false) : ∀ t ∈ ts, inTime t := fun t ht => by
  unfold badTimes at h
  rw [List.any_eq_false] at h
  have := h t ht
  simp only [Bool.not_eq_true, Bool.not_eq_false'] at this
  exact (inR_iff _ _ _).1 this
theorem badTimes_split (ts : List Int) (i : Nat) : badTimes ts = (badTimes (ts.take (i + 1)) || badTimes (ts.drop (i + 1))) := by
  unfold badTimes; rw [← List.any_append, List.take_append_drop]
theorem badTimes_next {ts : List Int} {i : Nat} (h : i < ts.length) (ht : badTimes (ts.take i) = false) : badTimes (ts.take (i + 1)) = !inR (ts[i]?.getD 0) (-1000000000000) 1000000000000 := by
  rw [List.take_succ_eq_append_getElem h]; unfold badTimes at ht ⊢; rw [List.any_append, ht]; simp [h]

set_option maxRecDepth 100000 in
set_option maxHeartbeats 1000000 in
theorem indexTime_any (bk off cap : Nat) (ts : List Int) (hm : ts.length ≤ 10000) (w : World) (hX : TimesAt w bk off ts) :
    Calls Try.prog 51 #[.slice (some ⟨bk, off, none⟩) ts.length cap, .func (.func 41) #[] #[]] w fun e w' =>
      (∃ r : Int, e = .returned (.int .i64 r) ∧ -1 ≤ r ∧ r ≤ 10000 ∧ badTimes ts = decide (0 ≤ r)) ∧ w' = w := by
  have HX := Lib.hid hX
  have hc := Lib.hid badTime_any
  clear hX
  go_enter Try.func51, Try.ntmps51
  go_wp2
  go_loopw [8] (fun s wr => ∃ i : Nat, s = .int .i64 i ∧ i ≤ ts.length ∧ Hid (badTimes (ts.take i) = false) ∧ w = wr) (fun s _ => ts.length - (intOf s).toNat)
  case atStart => exact ⟨0, rfl, Nat.zero_le _, rfl, rfl⟩
  case round =>
    obtain ⟨i, rfl, hi, ht, rfl⟩ := hrel
    by_cases hlt : i < ts.length
    · have cx := HX.out i hlt
      have hlt' : (i : Int) < (ts.length : Int) := by omega
      have hi0 : (0 : Int) ≤ (i : Int) := by omega
      have HA := Lib.hid (badTimes_next hlt ht.out)
      have HS := Lib.hid (badTimes_split ts i)
      generalize ts[i]?.getD 0 = t at HA cx
      have HC1 := Lib.hid fun W => hc.out t W
      rcases hb : inR t (-1000000000000) 1000000000000 with _ | _
      · rw [hb] at HC1 HA
        go_wp2_with (go_at_call 41; refine (HC1.out _).mono ?_; rintro e w' ⟨rfl, rfl⟩)
        go_ret
        exact ⟨⟨i, rfl, by omega, by omega, by rw [HS.out, HA.out, decide_eq_true hi0]; rfl⟩, rfl⟩
      · rw [hb] at HC1 HA
        go_wp2_with (go_at_call 41; refine (HC1.out _).mono ?_; rintro e w' ⟨rfl, rfl⟩)
        go_roundw
        case rel => exact ⟨i + 1, by go_num, by omega, HA.out, trivial⟩
        case measure => simp [intOf]; omega
    · have hi' : i = ts.length := by omega
      have hge : ts.length ≤ i := by omega
      have hE : badTimes ts = false := by have := ht.out; rw [hi', List.take_length] at this; exact this
      have HE := Lib.hid hE
      clear hE
      go_wp2_with fail
      go_ret
      exact ⟨⟨-1, rfl, by omega, by omega, by rw [HE.out]; rfl⟩, rfl⟩

theorem containsTime_any (bk off cap : Nat) (ts : List Int) (hm : ts.length ≤ 10000) (w : World) (hX : TimesAt w bk off ts) :
    Calls Try.prog 43 #[.slice (some ⟨bk, off, none⟩) ts.length cap, .func (.func 41) #[] #[]] w fun e w' =>
      e = .returned (.bool (badTimes ts)) ∧ w' = w := by
  have hc := Lib.hid (indexTime_any bk off cap ts hm w hX)
  clear hX
  go_enter Try.func43, Try.ntmps43
  go_wp2_with (go_at_call 51; refine hc.out.mono ?_; rintro e w' ⟨⟨r, rfl, hr1, hr2, hr3⟩, rfl⟩)
  go_ret
  exact ⟨by rw [hr3]; rfl, rfl⟩

/-- What checkSessions says. -/
def sessErr (g : Int) (ts : List Int) : Int := if 400 < ts.length then 1 else if 1 ≤ g ∧ g ≤ 1000000000 ∧ badTimes ts = false then 0 else 7

theorem checkSessions_some (g : Int) (bk off cap : Nat) (ts : List Int) (w : World) (hX : TimesAt w bk off ts) :
    Calls Try.prog 24 #[.int .i64 g, .slice (some ⟨bk, off, none⟩) ts.length cap] w fun e w' => e = .returned (.int .i64 (sessErr g ts)) ∧ w' = w := by
  by_cases hm : 400 < ts.length
  · have h' : (400 : Int) < (ts.length : Int) := by omega
    have he : sessErr g ts = 1 := by unfold sessErr; rw [if_pos hm]
    rw [he]
    clear he hX
    go_enter Try.func24, Try.ntmps24
    go_wp2_with fail
    go_ret
    exact ⟨rfl, rfl⟩
  · have h' : (ts.length : Int) ≤ 400 := by omega
    have hc := containsTime_any bk off cap ts (by omega) w hX
    have hw := fun W => within_any g 1 1000000000 W
    by_cases hg : 1 ≤ g ∧ g ≤ 1000000000
    · rw [inR_yes hg] at hw
      have he : sessErr g ts = if badTimes ts = true then 7 else 0 := by
        unfold sessErr; rw [if_neg hm]
        cases badTimes ts <;> simp [hg.1, hg.2]
      rw [he]
      have HW := Lib.hid hw
      cases hb : badTimes ts with
      | true =>
        rw [hb] at hc
        have HC := Lib.hid hc
        clear he hw hc hX hb hm hg
        go_enter Try.func24, Try.ntmps24
        go_wp2_with (first | (go_at_call 42; refine (HW.out _).mono ?_; rintro e w' ⟨rfl, rfl⟩) | (go_at_call 43; refine HC.out.mono ?_; rintro e w' ⟨rfl, rfl⟩))
        go_ret
        exact ⟨rfl, rfl⟩
      | false =>
        rw [hb] at hc
        have HC := Lib.hid hc
        clear he hw hc hX hb hm hg
        go_enter Try.func24, Try.ntmps24
        go_wp2_with (first | (go_at_call 42; refine (HW.out _).mono ?_; rintro e w' ⟨rfl, rfl⟩) | (go_at_call 43; refine HC.out.mono ?_; rintro e w' ⟨rfl, rfl⟩))
        go_ret
        exact ⟨rfl, rfl⟩
    · rw [inR_no hg] at hw
      have he : sessErr g ts = 7 := by unfold sessErr; rw [if_neg hm, if_neg (by omega)]
      rw [he]
      have HW := Lib.hid hw
      clear he hw hc hX hm hg
      go_enter Try.func24, Try.ntmps24
      go_wp2_with (go_at_call 42; refine (HW.out _).mono ?_; rintro e w' ⟨rfl, rfl⟩)
      go_ret
      exact ⟨rfl, rfl⟩
#print axioms checkSessions_some
end Go.Proofs.Ythbpdalkifocaaa
