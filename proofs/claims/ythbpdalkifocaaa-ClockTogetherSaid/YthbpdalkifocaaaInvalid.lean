/-
  slices.ContainsFunc at windows, with the closure of Merge: does some window not keep the rules?
-/
import Derived.Test.YthbpdalkifocaaaValues
import Derived.Test.YthbpdalkifocaaaRefs
namespace Go.Proofs.Ythbpdalkifocaaa
open Go.RowKit

theorem invalid1_any (a b : Int) (w : World) :
    Calls Try.prog 17 #[.agg #[.int .i64 a, .int .i64 b]] w fun e w' => e = .returned (.bool (!winOK a b)) ∧ Below w.heap.size w w' := by
  have h := fun W => clkValidWindow_any a b W
  generalize winOK a b = q at h ⊢
  go_enter Try.func17, Try.ntmps17
  go_wp2_with (go_at_call 18; refine (h _).mono ?_; rintro e w' ⟨rfl, rfl⟩)
  go_ret
  exact ⟨rfl, ((Below.refl _ w).alloc (Nat.le_refl _) _).alloc (by simp) _⟩

/-- Some window of the row does not keep the rules. -/
def anyBad (xs : List (Int × Int)) : Bool := xs.any fun x => !winOK x.1 x.2

set_option maxRecDepth 100000 in
set_option maxHeartbeats 1000000 in
theorem indexFunc_any (bk off cap : Nat) (xs : List (Int × Int)) (hm : xs.length ≤ 10000) (w : World) (hbk : bk < w.heap.size) (hX : RowAt w bk off xs) :
    Calls Try.prog 35 #[.slice (some ⟨bk, off, none⟩) xs.length cap, .func (.func 17) #[] #[]] w fun e w' =>
      (∃ r : Int, e = .returned (.int .i64 r) ∧ -1 ≤ r ∧ r ≤ 10000 ∧ anyBad xs = decide (0 ≤ r)) ∧ Below w.heap.size w w' := by
  have HX := Lib.hid hX
  have hc := Lib.hid invalid1_any
  clear hX
  go_enter Try.func35, Try.ntmps35
  go_wp2
  go_loopw [8] (fun s wr => ∃ i : Nat, s = .int .i64 i ∧ i ≤ xs.length ∧ Hid (anyBad (xs.take i) = false) ∧ Below w.heap.size w wr) (fun s _ => xs.length - (intOf s).toNat)
  case atStart => exact ⟨0, rfl, Nat.zero_le _, rfl, Below.refl _ _⟩
  case round =>
    obtain ⟨i, rfl, hi, ht, hBi⟩ := hrel
    by_cases hlt : i < xs.length
    · obtain ⟨cx0, cx1⟩ := HX.out.belowV hBi hbk i hlt
      have hlt' : (i : Int) < (xs.length : Int) := by omega
      have hi0 : (0 : Int) ≤ (i : Int) := by omega
      have hq : xs.take (i + 1) = xs.take i ++ [xs[i]?.getD (0, 0)] := (take_snoc hlt).symm
      have hsplit : anyBad xs = (anyBad (xs.take (i + 1)) || anyBad (xs.drop (i + 1))) := by
        unfold anyBad; rw [← List.any_append, List.take_append_drop]
      have ha1 : anyBad (xs.take (i + 1)) = !winOK (xs[i]?.getD (0, 0)).1 (xs[i]?.getD (0, 0)).2 := by
        rw [hq]; have := ht.out; unfold anyBad at this ⊢; rw [List.any_append, this]; simp
      have HS := Lib.hid hsplit
      have HA := Lib.hid ha1
      clear hsplit ha1 hq
      generalize (xs[i]?.getD (0, 0)) = x at HA cx0 cx1
      obtain ⟨x1, x2⟩ := x
      dsimp only at HA cx0 cx1
      have hc1 := fun W => hc.out x1 x2 W
      have HC1 := Lib.hid hc1
      clear hc1
      rcases hb : winOK x1 x2 with _ | _
      · rw [hb] at HC1 HA
        go_wp2_with (go_at_call 17; refine (HC1.out _).mono ?_; rintro e w' ⟨rfl, hb1⟩)
        go_ret
        exact ⟨⟨i, rfl, by omega, by omega, by rw [HS.out, HA.out, decide_eq_true hi0]; rfl⟩, hBi.trans (hb1.mono hBi.size)⟩
      · rw [hb] at HC1 HA
        go_wp2_with (go_at_call 17; refine (HC1.out _).mono ?_; rintro e w' ⟨rfl, hb1⟩)
        go_roundw
        case rel => exact ⟨i + 1, by go_num, by omega, HA.out, hBi.trans (hb1.mono hBi.size)⟩
        case measure => simp [intOf]; omega
    · have hi' : i = xs.length := by omega
      have hge : xs.length ≤ i := by omega
      have hE : anyBad xs = false := by have := ht.out; rw [hi', List.take_length] at this; exact this
      have HE := Lib.hid hE
      clear hE
      go_wp2_with fail
      go_ret
      exact ⟨⟨-1, rfl, by omega, by omega, by rw [HE.out]; rfl⟩, hBi⟩

theorem indexFunc_zero (p : Option Addr) (cap : Nat) (w : World) :
    Calls Try.prog 35 #[.slice p 0 cap, .func (.func 17) #[] #[]] w fun e w' => e = .returned (.int .i64 (-1)) ∧ w' = w := by
  go_enter Try.func35, Try.ntmps35
  go_wp2
  refine wp_loop_rounds 1 ?_
  rw [rounds_succ]
  go_wp2
  go_ret
  exact ⟨rfl, rfl⟩

theorem containsFunc_any (bk off cap : Nat) (xs : List (Int × Int)) (hm : xs.length ≤ 10000) (w : World) (hbk : bk < w.heap.size) (hX : RowAt w bk off xs) :
    Calls Try.prog 19 #[.slice (some ⟨bk, off, none⟩) xs.length cap, .func (.func 17) #[] #[]] w fun e w' =>
      e = .returned (.bool (anyBad xs)) ∧ Below w.heap.size w w' := by
  have hc := Lib.hid (indexFunc_any bk off cap xs hm w hbk hX)
  clear hX
  go_enter Try.func19, Try.ntmps19
  go_wp2_with (go_at_call 35; refine hc.out.mono ?_; rintro e w' ⟨⟨r, rfl, hr1, hr2, hr3⟩, hb⟩)
  go_ret
  exact ⟨by rw [hr3]; rfl, hb⟩

theorem containsFunc_zero (p : Option Addr) (cap : Nat) (w : World) :
    Calls Try.prog 19 #[.slice p 0 cap, .func (.func 17) #[] #[]] w fun e w' => e = .returned (.bool false) ∧ w' = w := by
  go_enter Try.func19, Try.ntmps19
  go_wp2_with (go_at_call 35; refine (indexFunc_zero _ _ _).mono ?_; rintro e w' ⟨rfl, rfl⟩)
  go_ret
  exact ⟨rfl, rfl⟩
#print axioms containsFunc_any
#print axioms containsFunc_zero
end Go.Proofs.Ythbpdalkifocaaa
