/-
  slices.Values at windows, as an iterator: it reads a row that lies below n₀.
-/
import Derived.Test.YthbpdalkifocaaaCollect
import Derived.Test.YthbpdalkifocaaaAwake
namespace Go.Proofs.Ythbpdalkifocaaa
open Go.RowKit Go.Shelf
attribute [local go_sem] Oper.semAt_some

theorem RowAt.belowV {n₀ bk off : Nat} {W W' : World} {xs : List (Int × Int)} (h : RowAt W bk off xs) (hb : Below n₀ W W') (hbk : bk < n₀) : RowAt W' bk off xs := fun i hi =>
  ⟨(hb.cell (p := ⟨bk, off + i * 2, none⟩) hbk).trans (h i hi).1, (hb.cell (p := ⟨bk, off + i * 2 + 1, none⟩) hbk).trans (h i hi).2⟩

theorem take_snoc {xs : List (Int × Int)} {i : Nat} (hi : i < xs.length) : xs.take i ++ [xs[i]?.getD (0, 0)] = xs.take (i + 1) := by
  rw [List.take_succ_eq_append_getElem hi]; simp [hi]

set_option maxRecDepth 100000 in
set_option maxHeartbeats 2000000 in
theorem values1_in (n : Nat) (hn : 1 ≤ n) (l B bk off cap n₀ : Nat) (xs : List (Int × Int)) (hm : xs.length ≤ 10000) (J Jx : List (Int × Int) → World → Prop) (W : World)
    (hJ : AbidesFrom W.heap.size J) (hn₀ : n₀ ≤ W.heap.size) (hbk : bk < n₀)
    (hS : W.cell? ⟨B, 0, none⟩ = some (.slice (some ⟨bk, off, none⟩) xs.length cap)) (hX : RowAt W bk off xs)
    (hY : ∀ pre x W1, J pre W1 → pre.length < xs.length → YieldAt Fence.wide (n - 1) Try.prog l (encW x) W1 fun e W' =>
      (e = .returned (.bool true) ∧ J (pre ++ [x]) W' ∧ Below n₀ W1 W') ∨ (e = .returned (.bool false) ∧ Jx (pre ++ [x]) W')) (h0 : J [] W) :
    CallsIn Fence.wide n Try.prog 38 #[.func (.yield l) #[] #[], .pointer (some ⟨B, 0, none⟩)] W fun e W' => (∃ v, e = .returned v) ∧
      ((∃ ys, ys = xs ∧ J ys W') ∨ (∃ pre, pre <+: xs ∧ Jx pre W')) := by
  have HY := Lib.hid hY
  have HX := Lib.hid hX
  clear hY hX
  refine callsIn_of_wp Try.func38 rfl trivial ?_ rfl
  simp only [Try.ntmps38, List.size_toArray, List.length_cons, List.length_nil, Nat.reduceAdd, Nat.reduceSub, Array.replicate_succ, Array.replicate_zero, List.push_toArray, List.append_toArray, List.nil_append, List.cons_append]
  gi_wp2_with fail
  gi_loopw [7] (fun a wr => ∃ (i : Nat), a = .int .i64 i ∧ i ≤ xs.length ∧ J (xs.take i) wr ∧ Below n₀ W wr)
    (fun a _ => (xs.length - (intOf a).toNat))
  case atStart =>
    exact ⟨0, rfl, Nat.zero_le _, h0, Below.refl _ _⟩
  case round =>
    obtain ⟨i, rfl, hi, hJi, hBi⟩ := hrel
    by_cases hlt : i < xs.length
    · obtain ⟨cx0, cx1⟩ := HX.out.belowV hBi hbk i hlt
      have hlt' : (i : Int) < (xs.length : Int) := by omega
      have hi0 : (0 : Int) ≤ (i : Int) := by omega
      have hsz : n₀ ≤ wr.heap.size := Nat.le_trans hn₀ hBi.size
      have hy1 := HY.out (xs.take i) (xs[i]?.getD (0, 0)) (wr.alloc (.cells #[.int .i64 (xs[i]?.getD (0, 0)).1, .int .i64 (xs[i]?.getD (0, 0)).2] 31)) (hJ _ _ _ none hJi (World.grownBy_alloc _ _ none) (fun r e => by cases e)) (by simp; omega)
      rw [take_snoc hlt] at hy1
      generalize (xs[i]?.getD (0, 0)) = x at hy1 cx0 cx1
      obtain ⟨x1, x2⟩ := x
      dsimp only at hy1 cx0 cx1
      obtain ⟨fn, tmps, assign, body, hy, hR⟩ := hy1
      dsimp only [encW] at hy
      gi_wp2_with fail
      refine hR.mono ?_
      rintro e W3 (⟨rfl, hJ3, hk3⟩ | ⟨rfl, hJx3⟩)
      · have hB3 := (hBi.alloc hsz _).trans hk3
        gi_wp2_with fail
        go_roundw
        case rel => exact ⟨i + 1, by go_num, by omega, hJ3, hB3⟩
        case measure => simp [intOf]; omega
      · gi_wp2_with fail
        refine bodyPost_ret (results_none rfl _ _ _) rfl ?_
        exact ⟨⟨_, rfl⟩, .inr ⟨xs.take (i + 1), List.take_prefix _ _, hJx3⟩⟩
    · have hi' : i = xs.length := by omega
      have hge : xs.length ≤ i := by omega
      have hge' : (xs.length : Int) ≤ (i : Int) := by omega
      gi_wp2_with fail
      go_end0
      exact ⟨⟨_, rfl⟩, .inl ⟨xs.take i, by rw [hi', List.take_length], hJi⟩⟩

theorem values_stops (n : Nat) (hn : 1 ≤ n) (B bk off cap n₀ : Nat) (xs : List (Int × Int)) (hm : xs.length ≤ 10000) (w : World) (hn₀ : n₀ ≤ w.heap.size) (hB : B < n₀) (hbk : bk < n₀)
    (hS : w.cell? ⟨B, 0, none⟩ = some (.slice (some ⟨bk, off, none⟩) xs.length cap)) (hX : RowAt w bk off xs) :
    SeqStopsK Fence.wide n Try.prog 38 #[.pointer (some ⟨B, 0, none⟩)] encW (Below n₀) (fun ys => ys = xs) (fun pre => pre <+: xs) xs.length w := fun l J Jx W hW hJ _ hY h0 =>
  values1_in n hn l B bk off cap n₀ xs hm J Jx W hJ (Nat.le_trans hn₀ (hW.size)) hbk ((hW.cell (p := ⟨B, 0, none⟩) (Nat.lt_of_lt_of_le hB hn₀)).trans hS) (hX.belowV hW (Nat.lt_of_lt_of_le hbk hn₀)) hY h0
/-- A slice of no windows, nil too. -/
theorem values1_nil (n : Nat) (hn : 1 ≤ n) (l B cap : Nat) (p : Option Addr) (J Jx : List (Int × Int) → World → Prop) (W : World)
    (hS : W.cell? ⟨B, 0, none⟩ = some (.slice p 0 cap)) (h0 : J [] W) :
    CallsIn Fence.wide n Try.prog 38 #[.func (.yield l) #[] #[], .pointer (some ⟨B, 0, none⟩)] W fun e W' => (∃ v, e = .returned v) ∧
      ((∃ ys, ys = [] ∧ J ys W') ∨ (∃ pre, pre <+: [] ∧ Jx pre W')) := by
  have h1 := hn
  refine callsIn_of_wp Try.func38 rfl trivial ?_ rfl
  simp only [Try.ntmps38, List.size_toArray, List.length_cons, List.length_nil, Nat.reduceAdd, Nat.reduceSub, Array.replicate_succ, Array.replicate_zero, List.push_toArray, List.append_toArray, List.nil_append, List.cons_append]
  gi_wp2_with fail
  gi_loopw [7] (fun a wr => a = .int .i64 0 ∧ J [] wr) (fun a _ => 0)
  case atStart => exact ⟨rfl, h0⟩
  case round =>
    obtain ⟨rfl, hJi⟩ := hrel
    gi_wp2_with fail
    go_end0
    exact ⟨⟨_, rfl⟩, .inl ⟨[], rfl, hJi⟩⟩

theorem values_stops_nil (n : Nat) (hn : 1 ≤ n) (B cap n₀ : Nat) (p : Option Addr) (w : World) (hB : B < n₀) (hn₀ : n₀ ≤ w.heap.size)
    (hS : w.cell? ⟨B, 0, none⟩ = some (.slice p 0 cap)) :
    SeqStopsK Fence.wide n Try.prog 38 #[.pointer (some ⟨B, 0, none⟩)] encW (Below n₀) (fun ys => ys = []) (fun pre => pre <+: []) 0 w := fun l J Jx W hW _ _ _ h0 =>
  values1_nil n hn l B cap p J Jx W ((hW.cell (p := ⟨B, 0, none⟩) (Nat.lt_of_lt_of_le hB hn₀)).trans hS) h0

theorem values_any (p : Option Addr) (m cap : Nat) (w : World) :
    Calls Try.prog 21 #[.slice p m cap] w fun e w' => e = .returned (.func (.func 38) #[] #[.pointer (some ⟨w.heap.size, 0, none⟩)]) ∧ w' = w.alloc (.cells #[.slice p m cap] 22) := by
  go_enter Try.func21, Try.ntmps21
  go_wp2
  go_ret
  exact ⟨rfl, rfl⟩
#print axioms values_stops
#print axioms values_stops_nil
#print axioms values_any
end Go.Proofs.Ythbpdalkifocaaa
