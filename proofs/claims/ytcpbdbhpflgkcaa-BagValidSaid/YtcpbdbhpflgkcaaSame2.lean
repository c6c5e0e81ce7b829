/-
  Equal values, equal rows: the document's Same of rows and slices.Equal at rows, for any two rows.
-/
import Derived.Test.YtcpbdbhpflgkcaaSameB
import Derived.Test.YtcpbdbhpflgkcaaFollows
namespace Go.Proofs.Ytcpbdbhpflgkcaa
open Go.RowKit

theorem bytesEq {a b : ByteArray} (h : a.toList = b.toList) : a = b := by
  rw [ByteArray.toList_eq, ByteArray.toList_eq] at h
  cases a; cases b
  simpa using h
theorem listEq {α : Type} {a : α} {l m : List α} (hl : l.length = m.length) (h : ∀ k, k < l.length → l[k]?.getD a = m[k]?.getD a) : l = m := by
  refine List.ext_getElem hl fun k h1 h2 => ?_
  have := h k h1
  rwa [List.getElem?_eq_getElem h1, List.getElem?_eq_getElem h2] at this
theorem neqNe {a0 a1 b0 b1 : Int} {s t : ByteArray} (h : ¬ (a0 = b0 ∧ a1 = b1 ∧ s = t)) (w : World) :
    (binOp .neq 50 (.agg #[.int .i64 a0, .int .i64 a1, .string s]) (.agg #[.int .i64 b0, .int .i64 b1, .string t])).run Try.prog w = .ok (.bool true) w := by
  have uI := Try.underlying3
  have gI := Try.isAgg3
  have zI := Try.sizeOf3
  have uS := Try.underlying9
  have gS := Try.isAgg9
  have zS := Try.sizeOf9
  have hS : Try.prog.underlying 50 = some (.struct (Try.prog.fieldsOf 50)) := by kernel_rfl
  have hp : Try.prog.stoodInHeld 50 = false := by kernel_rfl
  rw [run_neq_struct, show (10000 : Nat) = 9999 + 1 from rfl, run_equalIn_agg w 9999 50 _ _ hS hp]
  simp only [Program.fieldsOf, Try.underlying50]
  by_cases h0 : a0 = b0
  · by_cases h1 : a1 = b1
    · have h2 : ¬ s = t := fun e => h ⟨h0, h1, e⟩
      subst h0; subst h1
      have e2 : ¬ s.toList = t.toList := fun e => h2 (bytesEq e)
      clear h h2
      go_simp
      try simp [e2]
    · have e1 : (a1 == b1) = false := by rw [beq_eq_false_iff_ne]; exact h1
      subst h0
      clear h
      go_simp
      try simp [e1]
  · have e0 : (a0 == b0) = false := by rw [beq_eq_false_iff_ne]; exact h0
    clear h
    go_simp
    try simp [e0]

set_option maxRecDepth 100000 in
set_option maxHeartbeats 1000000 in
theorem refRowSame_any (p q : Option Addr) (xs ys : List Val) (c d : Nat) (hm : xs.length ≤ 9223372036854775807) (w : World) (hX : ValsIn w p xs) (hY : ValsIn w q ys) :
    Calls Try.prog 56 #[.slice p xs.length c, .slice q ys.length d] w (BelowB w (decide (xs = ys))) := by
  by_cases hl : xs.length = ys.length
  · have HX := Lib.hid hX
    have HY := Lib.hid hY
    have HL := Lib.hid hl
    rw [← hl]
    clear hX hY hl
    go_enter Try.func56, Try.ntmps56
    have hm0 := guardV
    go_wp2_with fail
    go_loopw [5] (fun s wr => ∃ i : Nat, i ≤ xs.length ∧ s = .int .i64 i ∧ Hid (∀ k, k < i → xs[k]?.getD v0 = ys[k]?.getD v0) ∧ Below w.heap.size w wr) (fun s _ => xs.length - (intOf s).toNat)
    case atStart => exact ⟨0, Nat.zero_le _, rfl, (fun k hk => by omega), Below.refl _ _⟩
    case round =>
      obtain ⟨i, hi, rfl, hE, hB⟩ := hrel
      by_cases hlt : i < xs.length
      · obtain ⟨b, off, rfl, hbl, hra⟩ := HX.out (by omega)
        obtain ⟨b2, off2, rfl, hbl2, hra2⟩ := HY.out (by rw [← HL.out]; omega)
        obtain ⟨c0, c1, c2⟩ := (hra.belowV hB hbl) i hlt
        obtain ⟨d0, d1, d2⟩ := (hra2.belowV hB hbl2) i (by rw [← HL.out]; omega)
        have hi0 : (0 : Int) ≤ (i : Int) := by omega
        have hi1 : (i : Int) < (xs.length : Int) := by omega
        clear hra hra2
        by_cases he : xs[i]?.getD v0 = ys[i]?.getD v0
        · have HE := Lib.hid (show ∀ k, k < i + 1 → xs[k]?.getD v0 = ys[k]?.getD v0 from fun k hk => by
            by_cases hki : k = i
            · rw [hki]; exact he
            · exact hE.out k (by omega))
          clear hE
          rw [← he] at d0 d1 d2
          clear he
          generalize (xs[i]?.getD v0) = x at c0 c1 c2 d0 d1 d2
          obtain ⟨x0, x1, x2⟩ := x
          dsimp only at c0 c1 c2 d0 d1 d2
          have hq := fun W => neqV x0 x1 x2 W
          go_wp2_with fail
          go_quiet (fail)
          go_wp2_with fail
          go_roundw
          case rel => exact ⟨i + 1, by omega, by go_num, HE.out, ⟨hB.os, hB.tape, hB.output, hB.size, hB.block⟩⟩
          case measure => simp [intOf]; omega
        · have HNE := Lib.hid (show decide (xs = ys) = false from decide_eq_false fun e => he (by rw [e]))
          clear hE
          generalize (xs[i]?.getD v0) = x at c0 c1 c2 he
          generalize (ys[i]?.getD v0) = y at d0 d1 d2 he
          obtain ⟨x0, x1, x2⟩ := x
          obtain ⟨y0, y1, y2⟩ := y
          dsimp only at c0 c1 c2 d0 d1 d2
          have hq := fun W => neqNe (a0 := x0) (a1 := x1) (s := x2) (b0 := y0) (b1 := y1) (t := y2) (fun e => he (by rw [e.1, e.2.1, e.2.2])) W
          clear he
          go_wp2_with fail
          go_quiet (fail)
          go_wp2_with fail
          go_ret
          exact ⟨retB HNE.out.symm, ⟨hB.os, hB.tape, hB.output, hB.size, hB.block⟩⟩
      · have hge : xs.length ≤ i := by omega
        have HEQ := Lib.hid (show decide (xs = ys) = true from decide_eq_true (listEq HL.out fun k hk => hE.out k (by omega)))
        go_wp2_with fail
        go_ret
        exact ⟨retB HEQ.out.symm, hB⟩
  · have HNE := Lib.hid (show decide (xs = ys) = false from decide_eq_false fun e => hl (by rw [e]))
    have hz : ((xs.length : Int) == (ys.length : Int)) = false := by rw [beq_eq_false_iff_ne]; omega
    clear hl hX hY
    go_enter Try.func56, Try.ntmps56
    go_wp2_with fail
    go_ret
    exact ⟨retB HNE.out.symm, Below.refl _ _⟩

set_option maxRecDepth 100000 in
set_option maxHeartbeats 1000000 in
theorem rowsEqual_any (p q : Option Addr) (xs ys : List Val) (c d : Nat) (hm : xs.length ≤ 9223372036854775807) (w : World) (hX : ValsIn w p xs) (hY : ValsIn w q ys) :
    Calls Try.prog 55 #[.slice p xs.length c, .slice q ys.length d] w (BelowB w (decide (xs = ys))) := by
  by_cases hl : xs.length = ys.length
  · have HX := Lib.hid hX
    have HY := Lib.hid hY
    have HL := Lib.hid hl
    rw [← hl]
    clear hX hY hl
    go_enter Try.func55, Try.ntmps55
    have hm0 := guardV
    go_wp2_with fail
    go_loopw [13] (fun s wr => ∃ i : Nat, i ≤ xs.length ∧ s = .int .i64 i ∧ Hid (∀ k, k < i → xs[k]?.getD v0 = ys[k]?.getD v0) ∧ Below w.heap.size w wr) (fun s _ => xs.length - (intOf s).toNat)
    case atStart => exact ⟨0, Nat.zero_le _, rfl, (fun k hk => by omega), Below.refl _ _⟩
    case round =>
      obtain ⟨i, hi, rfl, hE, hB⟩ := hrel
      by_cases hlt : i < xs.length
      · obtain ⟨b, off, rfl, hbl, hra⟩ := HX.out (by omega)
        obtain ⟨b2, off2, rfl, hbl2, hra2⟩ := HY.out (by rw [← HL.out]; omega)
        obtain ⟨c0, c1, c2⟩ := (hra.belowV hB hbl) i hlt
        obtain ⟨d0, d1, d2⟩ := (hra2.belowV hB hbl2) i (by rw [← HL.out]; omega)
        have hi0 : (0 : Int) ≤ (i : Int) := by omega
        have hi1 : (i : Int) < (xs.length : Int) := by omega
        clear hra hra2
        by_cases he : xs[i]?.getD v0 = ys[i]?.getD v0
        · have HE := Lib.hid (show ∀ k, k < i + 1 → xs[k]?.getD v0 = ys[k]?.getD v0 from fun k hk => by
            by_cases hki : k = i
            · rw [hki]; exact he
            · exact hE.out k (by omega))
          clear hE
          rw [← he] at d0 d1 d2
          clear he
          generalize (xs[i]?.getD v0) = x at c0 c1 c2 d0 d1 d2
          obtain ⟨x0, x1, x2⟩ := x
          dsimp only at c0 c1 c2 d0 d1 d2
          have hq := fun W => neqV x0 x1 x2 W
          go_wp2_with fail
          go_quiet (fail)
          go_wp2_with fail
          go_roundw
          case rel => exact ⟨i + 1, by omega, by go_num, HE.out, ⟨hB.os, hB.tape, hB.output, hB.size, hB.block⟩⟩
          case measure => simp [intOf]; omega
        · have HNE := Lib.hid (show decide (xs = ys) = false from decide_eq_false fun e => he (by rw [e]))
          clear hE
          generalize (xs[i]?.getD v0) = x at c0 c1 c2 he
          generalize (ys[i]?.getD v0) = y at d0 d1 d2 he
          obtain ⟨x0, x1, x2⟩ := x
          obtain ⟨y0, y1, y2⟩ := y
          dsimp only at c0 c1 c2 d0 d1 d2
          have hq := fun W => neqNe (a0 := x0) (a1 := x1) (s := x2) (b0 := y0) (b1 := y1) (t := y2) (fun e => he (by rw [e.1, e.2.1, e.2.2])) W
          clear he
          go_wp2_with fail
          go_quiet (fail)
          go_wp2_with fail
          go_ret
          exact ⟨retB HNE.out.symm, ⟨hB.os, hB.tape, hB.output, hB.size, hB.block⟩⟩
      · have hge : xs.length ≤ i := by omega
        have HEQ := Lib.hid (show decide (xs = ys) = true from decide_eq_true (listEq HL.out fun k hk => hE.out k (by omega)))
        go_wp2_with fail
        go_ret
        exact ⟨retB HEQ.out.symm, hB⟩
  · have HNE := Lib.hid (show decide (xs = ys) = false from decide_eq_false fun e => hl (by rw [e]))
    have hz : ((xs.length : Int) == (ys.length : Int)) = false := by rw [beq_eq_false_iff_ne]; omega
    clear hl hX hY
    go_enter Try.func55, Try.ntmps55
    go_wp2_with fail
    go_ret
    exact ⟨retB HNE.out.symm, Below.refl _ _⟩
end Go.Proofs.Ytcpbdbhpflgkcaa
