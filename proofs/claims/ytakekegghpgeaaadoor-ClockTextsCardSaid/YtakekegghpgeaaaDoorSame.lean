/-
  The document's own 'Same': whether two lists of windows are equal.
-/
import Derived.Test.YtakekegghpgeaaaDoorLeaf
import Derived.LoopTactic
namespace Go.Proofs.YtakekegghpgeaaaDoor
open Go.RowKit

theorem neqW (a0 a1 b0 b1 : Int) (w : World) :
    (binOp .neq 36 (.agg #[.int .i64 a0, .int .i64 a1]) (.agg #[.int .i64 b0, .int .i64 b1])).run Tryd.prog w = .ok (.bool (!(a0 == b0 && a1 == b1))) w := by
  have uI := Tryd.underlying3
  have gI := Tryd.isAgg3
  have zI := Tryd.sizeOf3
  have hS : Tryd.prog.underlying 36 = some (.struct (Tryd.prog.fieldsOf 36)) := by kernel_rfl
  have hp : Tryd.prog.stoodInHeld 36 = false := by kernel_rfl
  rw [run_neq_struct, show (10000 : Nat) = 9999 + 1 from rfl, run_equalIn_agg w 9999 36 _ _ hS hp]
  simp only [Program.fieldsOf, Tryd.underlying36]
  go_simp
  by_cases h0 : a0 = b0 <;> by_cases h1 : a1 = b1 <;> simp [h0, h1]
theorem eqlW (a0 a1 b0 b1 : Int) (w : World) :
    (binOp .eql 36 (.agg #[.int .i64 a0, .int .i64 a1]) (.agg #[.int .i64 b0, .int .i64 b1])).run Tryd.prog w = .ok (.bool (a0 == b0 && a1 == b1)) w := by
  have uI := Tryd.underlying3
  have gI := Tryd.isAgg3
  have zI := Tryd.sizeOf3
  have hS : Tryd.prog.underlying 36 = some (.struct (Tryd.prog.fieldsOf 36)) := by kernel_rfl
  have hp : Tryd.prog.stoodInHeld 36 = false := by kernel_rfl
  rw [run_eql_struct, show (10000 : Nat) = 9999 + 1 from rfl, run_equalIn_agg w 9999 36 _ _ hS hp]
  simp only [Program.fieldsOf, Tryd.underlying36]
  go_simp
  by_cases h0 : a0 = b0 <;> by_cases h1 : a1 = b1 <;> simp [h0, h1]
theorem guardW : Tryd.prog.eqGuardType Tryd.prog.depth 36 = false := by kernel_rfl

/-- The world has drawn, no more. -/
def Drew (w w' : World) : Prop := ∃ nq, w' = w.drewN nq
/-- The slice reads as these windows, in this world. -/
def RowAt (W : World) (b off : Nat) (xs : List (Int × Int)) : Prop :=
  ∀ i, i < xs.length → W.cell? ⟨b, off + i * 2, none⟩ = some (.int .i64 (xs[i]?.getD (0, 0)).1) ∧ W.cell? ⟨b, off + i * 2 + 1, none⟩ = some (.int .i64 (xs[i]?.getD (0, 0)).2)

theorem Same_ne (p q : Option Addr) (n m c d : Nat) (hnm : n ≠ m) (w : World) :
    Calls Tryd.prog 11 #[.slice p n c, .slice q m d] w fun e w' => e = .returned (.bool false) ∧ w' = w := by
  have h : ((n : Int) != (m : Int)) = true := by rw [bne_iff_ne]; omega
  go_enter Tryd.func11, Tryd.ntmps11
  go_wp2
  go_ret
  exact ⟨rfl, rfl⟩

theorem Same_zero (p q : Option Addr) (c d : Nat) (w : World) :
    Calls Tryd.prog 11 #[.slice p 0 c, .slice q 0 d] w fun e w' => e = .returned (.bool true) ∧ w' = w := by
  go_enter Tryd.func11, Tryd.ntmps11
  go_wp2
  refine wp_loop_rounds 1 ?_
  rw [rounds_succ]
  go_wp2
  go_ret
  exact ⟨rfl, rfl⟩

theorem take_both {xs ys : List (Int × Int)} {i : Nat} (hi : i < xs.length) (hl : xs.length = ys.length) (h : xs.take i = ys.take i) (he : xs[i]?.getD (0, 0) = ys[i]?.getD (0, 0)) : xs.take (i + 1) = ys.take (i + 1) := by
  have hi' : i < ys.length := by omega
  rw [List.take_succ_eq_append_getElem hi, List.take_succ_eq_append_getElem hi', h]
  simp [hi, hi'] at he
  rw [he]

set_option maxHeartbeats 1000000 in
theorem Same_loop (b b' off off' c d : Nat) (xs ys : List (Int × Int)) (hlen : xs.length = ys.length) (hm : xs.length ≤ 9223372036854775807) (w : World) (hx : RowAt w b off xs) (hy : RowAt w b' off' ys) :
    Calls Tryd.prog 11 #[.slice (some ⟨b, off, none⟩) xs.length c, .slice (some ⟨b', off', none⟩) xs.length d] w fun e w' => e = .returned (.bool (decide (xs = ys))) ∧ Drew w w' := by
  have Hlen := Lib.hid hlen
  have Hx := Lib.hid hx
  have Hy := Lib.hid hy
  clear hlen hx hy
  go_enter Tryd.func11, Tryd.ntmps11
  have hm0 := guardW
  go_wp2
  go_loopw [5] (fun s wr => ∃ i : Nat, i ≤ xs.length ∧ s = .int .i64 i ∧ Hid (xs.take i = ys.take i) ∧ Drew w wr) (fun s _ => xs.length - (intOf s).toNat)
  case atStart => exact ⟨0, Nat.zero_le _, rfl, rfl, 0, rfl⟩
  case round =>
    obtain ⟨i, hi, rfl, ht, nq, rfl⟩ := hrel
    by_cases hlt : i < xs.length
    · obtain ⟨cx0, cx1⟩ := Hx.out i hlt
      obtain ⟨cy0, cy1⟩ := Hy.out i (by rw [← Hlen.out]; exact hlt)
      have hlt' : (i : Int) < (xs.length : Int) := by omega
      have hi0 : (0 : Int) ≤ (i : Int) := by omega
      by_cases he : xs[i]?.getD (0, 0) = ys[i]?.getD (0, 0)
      · have ht' := Lib.hid (take_both hlt Hlen.out ht.out he)
        rw [← he] at cy0 cy1
        clear he
        generalize (xs[i]?.getD (0, 0)).1 = x1 at *
        generalize (xs[i]?.getD (0, 0)).2 = x2 at *
        have hq := fun W => neqW x1 x2 x1 x2 W
        go_wp2_with fail
        go_quiet (fail)
        go_wp2_with fail
        go_roundw
        case rel => exact ⟨i + 1, by omega, by go_num, ht', _, rfl⟩
        case measure => simp [intOf]; omega
      · have hd : xs ≠ ys := fun h => he (by rw [h])
        have hq0 : ((xs[i]?.getD (0, 0)).1 == (ys[i]?.getD (0, 0)).1 && (xs[i]?.getD (0, 0)).2 == (ys[i]?.getD (0, 0)).2) = false := by
          rw [Bool.eq_false_iff]
          intro h
          rw [Bool.and_eq_true, beq_iff_eq, beq_iff_eq] at h
          exact he (Prod.ext h.1 h.2)
        have HD := Lib.hid hd
        clear he hd
        generalize (xs[i]?.getD (0, 0)).1 = x1 at *
        generalize (xs[i]?.getD (0, 0)).2 = x2 at *
        generalize (ys[i]?.getD (0, 0)).1 = y1 at *
        generalize (ys[i]?.getD (0, 0)).2 = y2 at *
        have hq : ∀ W, (binOp .neq 36 (.agg #[.int .i64 x1, .int .i64 x2]) (.agg #[.int .i64 y1, .int .i64 y2])).run Tryd.prog W = .ok (.bool true) W := fun W => by rw [neqW, hq0]; rfl
        clear hq0
        go_wp2_with fail
        go_quiet (fail)
        go_wp2_with fail
        go_ret
        exact ⟨by rw [decide_eq_false HD.out]; rfl, _, by rw [World.drewN_drewN]⟩
    · have hi' : i = xs.length := by omega
      have hE : xs = ys := by
        have := ht.out
        rw [hi', List.take_length, List.take_of_length_le (by rw [Hlen.out]; exact Nat.le_refl _)] at this
        exact this
      have HE := Lib.hid hE
      clear hE hi'
      have hge : xs.length ≤ i := by omega
      go_wp2_with fail
      go_ret
      exact ⟨by rw [decide_eq_true HE.out]; rfl, _, rfl⟩

theorem RowAt.drewN {W : World} {b off : Nat} {xs : List (Int × Int)} (h : RowAt W b off xs) (n : Nat) : RowAt (W.drewN n) b off xs := h

/-- A slice that reads as these windows: nil, or an address and cells. -/
def RowIs (W : World) (v : Value) (xs : List (Int × Int)) : Prop :=
  xs.length ≤ 9223372036854775807 ∧ ((v = .slice none 0 0 ∧ xs = []) ∨ ∃ b off cap, v = .slice (some ⟨b, off, none⟩) xs.length cap ∧ RowAt W b off xs)

theorem Same_any (v u : Value) (xs ys : List (Int × Int)) (w : World) (hx : RowIs w v xs) (hy : RowIs w u ys) :
    Calls Tryd.prog 11 #[v, u] w fun e w' => e = .returned (.bool (decide (xs = ys))) ∧ Drew w w' := by
  obtain ⟨hm, hx⟩ := hx
  obtain ⟨_, hy⟩ := hy
  rcases hx with ⟨rfl, rfl⟩ | ⟨b, off, c, rfl, hx⟩
  · rcases hy with ⟨rfl, rfl⟩ | ⟨b', off', d, rfl, hy⟩
    · exact (Same_zero _ _ _ _ w).mono fun e w' ⟨h1, h2⟩ => ⟨h1, 0, h2⟩
    · by_cases h : ys = []
      · subst h; exact (Same_zero _ _ _ _ w).mono fun e w' ⟨h1, h2⟩ => ⟨h1, 0, h2⟩
      · have : ys.length ≠ 0 := fun e => h (List.eq_nil_of_length_eq_zero e)
        exact (Same_ne _ _ _ _ _ _ (by omega) w).mono fun e w' ⟨h1, h2⟩ => ⟨by rw [h1, decide_eq_false (fun e => h e.symm)], 0, h2⟩
  · rcases hy with ⟨rfl, rfl⟩ | ⟨b', off', d, rfl, hy⟩
    · by_cases h : xs = []
      · subst h; exact (Same_zero _ _ _ _ w).mono fun e w' ⟨h1, h2⟩ => ⟨h1, 0, h2⟩
      · have : xs.length ≠ 0 := fun e => h (List.eq_nil_of_length_eq_zero e)
        exact (Same_ne _ _ _ _ _ _ (by omega) w).mono fun e w' ⟨h1, h2⟩ => ⟨by rw [h1, decide_eq_false h], 0, h2⟩
    · by_cases h : xs.length = ys.length
      · rw [← h]; exact Same_loop b b' off off' c d xs ys h hm w hx hy
      · exact (Same_ne _ _ _ _ _ _ h w).mono fun e w' ⟨h1, h2⟩ => ⟨by rw [h1, decide_eq_false (fun e => h (by rw [e]))], 0, h2⟩
end Go.Proofs.YtakekegghpgeaaaDoor
