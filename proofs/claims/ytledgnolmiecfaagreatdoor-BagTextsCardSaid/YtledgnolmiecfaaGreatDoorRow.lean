/-
  Rows: a slice that reads as values; which rows are valid, in both packages, as contracts.
-/
import Derived.Test.YtledgnolmiecfaaGreatDoorVal
import Derived.LoopTactic
import Derived.StillTailTactics
import Derived.Below
namespace Go.Proofs.YtledgnolmiecfaaGreatDoor
open Go.RowKit
set_option linter.unusedSimpArgs false

abbrev v0 : Val := (0, 0, ⟨#[]⟩)
/-- The slice reads as these values, in this world. -/
def ValsAt (W : World) (b off : Nat) (xs : List Val) : Prop :=
  ∀ i, i < xs.length → W.cell? ⟨b, off + i * 3, none⟩ = some (.int .i64 (xs[i]?.getD v0).1) ∧ W.cell? ⟨b, off + i * 3 + 1, none⟩ = some (.int .i64 (xs[i]?.getD v0).2.1) ∧ W.cell? ⟨b, off + i * 3 + 2, none⟩ = some (.string (xs[i]?.getD v0).2.2)
theorem ValsAt.belowV {n₀ b off : Nat} {W W' : World} {xs : List Val} (h : ValsAt W b off xs) (hb : Below n₀ W W') (hbk : b < n₀) : ValsAt W' b off xs := fun i hi =>
  ⟨(hb.cell (p := ⟨b, off + i * 3, none⟩) hbk).trans (h i hi).1, (hb.cell (p := ⟨b, off + i * 3 + 1, none⟩) hbk).trans (h i hi).2.1, (hb.cell (p := ⟨b, off + i * 3 + 2, none⟩) hbk).trans (h i hi).2.2⟩
/-- A row: where it has values, it has an address, and cells. -/
def ValsIn (W : World) (p : Option Addr) (xs : List Val) : Prop :=
  0 < xs.length → ∃ b off, p = some ⟨b, off, none⟩ ∧ b < W.heap.size ∧ ValsAt W b off xs
theorem ValsIn.belowV {p : Option Addr} {W W' : World} {xs : List Val} (h : ValsIn W p xs) (hb : Below W.heap.size W W') : ValsIn W' p xs := fun hp => by
  obtain ⟨b, off, e, hl, hr⟩ := h hp
  exact ⟨b, off, e, Nat.lt_of_lt_of_le hl hb.size, hr.belowV hb hl⟩
/-- .. in every world from one on. -/
def validVs (xs : List Val) : Bool := xs.all fun x => validV x.1 x.2.1 x.2.2
def validRow (xs : List Val) : Bool := decide (xs.length ≤ 8) && validVs xs
theorem validVs_next {xs : List Val} {i : Nat} (h : i < xs.length) : validVs (xs.take (i + 1)) = (validVs (xs.take i) && validV (xs[i]?.getD v0).1 (xs[i]?.getD v0).2.1 (xs[i]?.getD v0).2.2) := by
  rw [List.take_succ_eq_append_getElem h]; unfold validVs; rw [List.all_append]; simp [h]
theorem validVs_split (xs : List Val) (i : Nat) : validVs xs = (validVs (xs.take i) && validVs (xs.drop i)) := by
  unfold validVs; rw [← List.all_append, List.take_append_drop]
theorem validVs_stop {xs : List Val} {i : Nat} (h : validVs (xs.take i) = false) : validVs xs = false := by rw [validVs_split xs i, h]; rfl

theorem refVV_b (k n : Int) (s : ByteArray) (w : World) : Calls Tryz.prog 45 #[.agg #[.int .i64 k, .int .i64 n, .string s]] w fun e w' => e = .returned (.bool (validV k n s)) ∧ Below w.heap.size w w' :=
  (refValidValue_any k n s w).mono fun _ _ ⟨h1, h2⟩ => ⟨h1, by rw [h2]; exact (Below.refl _ _).alloc (Nat.le_refl _) _⟩
theorem rowVV_b (k n : Int) (s : ByteArray) (w : World) : Calls Tryz.prog 60 #[.agg #[.int .i64 k, .int .i64 n, .string s]] w fun e w' => e = .returned (.bool (validV k n s)) ∧ Below w.heap.size w w' :=
  (rowValidValue_any k n s w).mono fun _ _ ⟨h1, h2⟩ => ⟨h1, by rw [h2]; exact (Below.refl _ _).alloc (Nat.le_refl _) _⟩

set_option maxRecDepth 100000 in
set_option maxHeartbeats 1000000 in
theorem refValid_any (p : Option Addr) (xs : List Val) (cap : Nat) (hm : xs.length ≤ 9223372036854775807) (w : World) (hX : ValsIn w p xs) :
    Calls Tryz.prog 24 #[.slice p xs.length cap] w fun e w' => e = .returned (.bool (validRow xs)) ∧ Below w.heap.size w w' := by
  have HX := Lib.hid hX
  have HC := Lib.hid refVV_b
  have HW := Lib.hid within_any
  clear hX
  go_enter Tryz.func24, Tryz.ntmps24
  go_wp2_with fail
  go_loopw [3] (fun s wr => ∃ i : Nat, s = .int .i64 i ∧ i ≤ xs.length ∧ Hid (validVs (xs.take i) = true) ∧ Below w.heap.size w wr) (fun s _ => xs.length - (intOf s).toNat)
  case atStart => exact ⟨0, rfl, Nat.zero_le _, rfl, Below.refl _ _⟩
  case round =>
    obtain ⟨i, rfl, hi, hv, hB⟩ := hrel
    by_cases hlt : i < xs.length
    · obtain ⟨b, off, rfl, hbl, hra⟩ := HX.out (by omega)
      obtain ⟨c0, c1, c2⟩ := (hra.belowV hB hbl) i hlt
      have hnx := validVs_next hlt
      rw [hv.out, Bool.true_and] at hnx
      have hi0 : (0 : Int) ≤ (i : Int) := by omega
      have hi1 : (i : Int) < (xs.length : Int) := by omega
      clear hra
      generalize (xs[i]?.getD v0) = x at hnx c0 c1 c2
      obtain ⟨x0, x1, x2⟩ := x
      dsimp only at hnx c0 c1 c2
      have HC1 := fun W => HC.out x0 x1 x2 W
      cases hq : validV x0 x1 x2 with
      | true =>
        rw [hq] at HC1 hnx
        have HC2 := Lib.hid HC1
        have HNX := Lib.hid hnx
        clear HC1 hnx hq
        go_wp2_with fail
        refine (HC2.out _).mono ?_
        rintro e w' ⟨rfl, hb⟩
        go_wp2_with fail
        go_roundw
        case rel => exact ⟨i + 1, by go_num, by omega, HNX.out, hB.trans (hb.mono hB.size)⟩
        case measure => simp [intOf]; omega
      | false =>
        rw [hq] at HC1 hnx
        have HC2 := Lib.hid HC1
        have HNX := Lib.hid (validVs_stop hnx)
        clear HC1 hnx hq
        go_wp2_with fail
        refine (HC2.out _).mono ?_
        rintro e w' ⟨rfl, hb⟩
        go_wp2_with fail
        go_ret
        exact ⟨retB (by unfold validRow; rw [HNX.out, Bool.and_false]), hB.trans (hb.mono hB.size)⟩
    · have hge : xs.length ≤ i := by omega
      have hie : i = xs.length := by omega
      have hall : validVs xs = true := by have := hv.out; rw [hie, List.take_length] at this; exact this
      have HALL := Lib.hid hall
      clear hall hie
      by_cases h8 : (xs.length : Int) ≤ 8
      · go_wp2_with fail
        go_ret
        exact ⟨retB (by unfold validRow; rw [HALL.out, Bool.and_true, decide_eq_true (by omega)]), hB⟩
      · have h8' : decide ((xs.length : Int) ≤ 8) = false := by simpa using h8
        go_wp2_with fail
        go_ret
        exact ⟨retB (by unfold validRow; rw [HALL.out, Bool.and_true, decide_eq_false (by omega)]), hB⟩

set_option maxRecDepth 100000 in
set_option maxHeartbeats 1000000 in
theorem rowValid_any (p : Option Addr) (xs : List Val) (cap : Nat) (w : World) (hX : ValsIn w p xs) :
    Calls Tryz.prog 42 #[.slice p xs.length cap] w fun e w' => e = .returned (.bool (validRow xs)) ∧ Below w.heap.size w w' := by
  by_cases h8 : 8 < xs.length
  · have h8' : (8 : Int) < (xs.length : Int) := by omega
    have hr : validRow xs = false := by unfold validRow; rw [decide_eq_false (by omega)]; rfl
    rw [hr]
    clear hr
    go_enter Tryz.func42, Tryz.ntmps42
    go_wp2_with fail
    go_ret
    exact ⟨rfl, Below.refl _ _⟩
  · have h8' : (xs.length : Int) ≤ 8 := by omega
    have hr : validRow xs = validVs xs := by unfold validRow; rw [decide_eq_true (by omega)]; rfl
    rw [hr]
    have HX := Lib.hid hX
    have HC := Lib.hid rowVV_b
    clear hX hr
    go_enter Tryz.func42, Tryz.ntmps42
    go_wp2_with fail
    go_loopw [10] (fun s wr => ∃ i : Nat, s = .int .i64 i ∧ i ≤ xs.length ∧ Hid (validVs (xs.take i) = true) ∧ Below w.heap.size w wr) (fun s _ => xs.length - (intOf s).toNat)
    case atStart => exact ⟨0, rfl, Nat.zero_le _, rfl, Below.refl _ _⟩
    case round =>
      obtain ⟨i, rfl, hi, hv, hB⟩ := hrel
      by_cases hlt : i < xs.length
      · obtain ⟨b, off, rfl, hbl, hra⟩ := HX.out (by omega)
        obtain ⟨c0, c1, c2⟩ := (hra.belowV hB hbl) i hlt
        have hnx := validVs_next hlt
        rw [hv.out, Bool.true_and] at hnx
        have hi0 : (0 : Int) ≤ (i : Int) := by omega
        have hi1 : (i : Int) < (xs.length : Int) := by omega
        clear hra
        generalize (xs[i]?.getD v0) = x at hnx c0 c1 c2
        obtain ⟨x0, x1, x2⟩ := x
        dsimp only at hnx c0 c1 c2
        have hB2 : Below w.heap.size w (wr.alloc (.cells #[.int .i64 x0, .int .i64 x1, .string x2] 40)) := hB.alloc hB.size _
        have HC1 := fun W => HC.out x0 x1 x2 W
        cases hq : validV x0 x1 x2 with
        | true =>
          rw [hq] at HC1 hnx
          have HC2 := Lib.hid HC1
          have HNX := Lib.hid hnx
          clear HC1 hnx hq
          go_wp2_with fail
          refine (HC2.out _).mono ?_
          rintro e w' ⟨rfl, hb⟩
          go_wp2_with fail
          go_roundw
          case rel => exact ⟨i + 1, by go_num, by omega, HNX.out, hB2.trans (hb.mono hB2.size)⟩
          case measure => simp [intOf]; omega
        | false =>
          rw [hq] at HC1 hnx
          have HC2 := Lib.hid HC1
          have HNX := Lib.hid (validVs_stop hnx)
          clear HC1 hnx hq
          go_wp2_with fail
          refine (HC2.out _).mono ?_
          rintro e w' ⟨rfl, hb⟩
          go_wp2_with fail
          go_ret
          exact ⟨retB (by rw [HNX.out]), hB2.trans (hb.mono hB2.size)⟩
      · have hge : xs.length ≤ i := by omega
        have hie : i = xs.length := by omega
        have hall : validVs xs = true := by have := hv.out; rw [hie, List.take_length] at this; exact this
        have HALL := Lib.hid hall
        clear hall hie
        go_wp2_with fail
        go_ret
        exact ⟨retB (by rw [HALL.out]), hB⟩
#print axioms rowValid_any
end Go.Proofs.YtledgnolmiecfaaGreatDoor
