/-
  'covering': the iterator over the windows of a spec that contain some time of a range.
-/
import Derived.Test.YtakekegghpgeaaaDoorLeaf
import Derived.RangeFuncNested
import Derived.RangeFuncBound
import Derived.RangeFuncCalls
import Derived.RangeFuncLeaves
import Derived.Shelf.Abstract
import Derived.Shelf.RegionOpen
import Derived.WalkKit
import Derived.OwnWalkIn
import Derived.TacticsInMore
import Derived.LoopNIn
import Derived.LoopIn
import Derived.Maps.AppendAt
namespace Go.Proofs.YtakekegghpgeaaaDoor
open Go.RowKit Go.Shelf
attribute [local go_sem] Oper.semAt_some

theorem grown_of_below {a w : World} (h : Below a.heap.size a w) : a.grownBy w none := ⟨h.os, h.tape, h.output, h.size, fun i hi _ => h.block i hi⟩

theorem SpecAt.below {n₀ B : Nat} {W W' : World} {k sz st g sh : Int} (h : SpecAt W B k sz st g sh) (hb : Below n₀ W W') (hB : B < n₀) : SpecAt W' B k sz st g sh :=
  ⟨(hb.cell (p := ⟨B, 0, none⟩) hB).trans h.1, (hb.cell (p := ⟨B, 1, none⟩) hB).trans h.2.1, (hb.cell (p := ⟨B, 2, none⟩) hB).trans h.2.2.1, (hb.cell (p := ⟨B, 3, none⟩) hB).trans h.2.2.2.1, (hb.cell (p := ⟨B, 4, none⟩) hB).trans h.2.2.2.2⟩

/-- Three blocks lie as they lay. -/
structure Keeps3 (Bs Bf Bt : Nat) (W W' : World) : Prop where
  s : W'.heap[Bs]? = W.heap[Bs]?
  f : W'.heap[Bf]? = W.heap[Bf]?
  t : W'.heap[Bt]? = W.heap[Bt]?
theorem Keeps3.refl (Bs Bf Bt : Nat) (W : World) : Keeps3 Bs Bf Bt W W := ⟨rfl, rfl, rfl⟩
theorem Keeps3.trans {Bs Bf Bt : Nat} {A B C : World} (h : Keeps3 Bs Bf Bt A B) (k : Keeps3 Bs Bf Bt B C) : Keeps3 Bs Bf Bt A C := ⟨k.s.trans h.s, k.f.trans h.f, k.t.trans h.t⟩
theorem Keeps3.of_below {n₀ Bs Bf Bt : Nat} {W W' : World} (h : Below n₀ W W') (h1 : Bs < n₀) (h2 : Bf < n₀) (h3 : Bt < n₀) : Keeps3 Bs Bf Bt W W' := ⟨h.block _ h1, h.block _ h2, h.block _ h3⟩
theorem Keeps3.alloc {Bs Bf Bt : Nat} {W : World} (o : Obj) (h1 : Bs < W.heap.size) (h2 : Bf < W.heap.size) (h3 : Bt < W.heap.size) : Keeps3 Bs Bf Bt W (W.alloc o) :=
  ⟨Below.heap_alloc W o _ h1, Below.heap_alloc W o _ h2, Below.heap_alloc W o _ h3⟩
theorem lt_of_same {W W' : World} {b : Nat} (h : W'.heap[b]? = W.heap[b]?) (hb : b < W.heap.size) : b < W'.heap.size := by
  rw [Array.getElem?_eq_getElem hb] at h
  exact (Array.getElem?_eq_some_iff.1 h).1
theorem SpecAt.keep {B : Nat} {W W' : World} {k sz st g sh : Int} (h : SpecAt W B k sz st g sh) (hb : W'.heap[B]? = W.heap[B]?) : SpecAt W' B k sz st g sh :=
  ⟨(World.cell?_of_block (a := ⟨B, 0, none⟩) hb).trans h.1, (World.cell?_of_block (a := ⟨B, 1, none⟩) hb).trans h.2.1, (World.cell?_of_block (a := ⟨B, 2, none⟩) hb).trans h.2.2.1, (World.cell?_of_block (a := ⟨B, 3, none⟩) hb).trans h.2.2.2.1, (World.cell?_of_block (a := ⟨B, 4, none⟩) hb).trans h.2.2.2.2⟩

def encW (x : Int × Int) : Array Value := #[.agg #[.int .i64 x.1, .int .i64 x.2]]

theorem covering_any (k sz st g sh fr to : Int) (w : World) :
    Calls Tryd.prog 23 #[specV k sz st g sh, .int .i64 fr, .int .i64 to] w fun e w' =>
      e = .returned (.func (.func 30) #[] #[.pointer (some ⟨w.heap.size, 0, none⟩), .pointer (some ⟨w.heap.size + 1, 0, none⟩), .pointer (some ⟨w.heap.size + 1 + 1, 0, none⟩)]) ∧
      w' = ((w.alloc (.cells #[.int .i64 k, .int .i64 sz, .int .i64 st, .int .i64 g, .int .i64 sh] 23)).alloc (.cells #[.int .i64 fr] 3)).alloc (.cells #[.int .i64 to] 3) := by
  unfold specV
  go_enter Tryd.func23, Tryd.ntmps23
  go_wp2
  go_ret
  exact ⟨rfl, rfl⟩

set_option maxRecDepth 100000 in
set_option maxHeartbeats 2000000 in
theorem cover1_in (n : Nat) (hn : 1 ≤ n) (l Bs Bf Bt : Nat) (k sz st g sh fr to : Int) (hd : 1 ≤ stepOf k sz st) (hd' : stepOf k sz st ≤ 1000000000) (hs : 0 ≤ sh) (hs' : sh ≤ 1000000000)
    (hz : 1 ≤ sz) (hz' : sz ≤ 1000000000) (hf : -1000000000000 ≤ fr) (hft : fr ≤ to) (ht : to ≤ 1000000000000) (J Jx : List (Int × Int) → World → Prop) (W : World)
    (hJ : AbidesFrom W.heap.size J) (hBs : Bs < W.heap.size) (hBf : Bf < W.heap.size) (hBt : Bt < W.heap.size)
    (hS : SpecAt W Bs k sz st g sh) (hF : W.cell? ⟨Bf, 0, none⟩ = some (.int .i64 fr)) (hT : W.cell? ⟨Bt, 0, none⟩ = some (.int .i64 to))
    (hY : ∀ pre x W1, J pre W1 → pre.length < nWin (after (stepOf k sz st) sh (fr - sz)) (stepOf k sz st) to → YieldAt Fence.wide (n - 1) Tryd.prog l (encW x) W1 fun e W' =>
      (e = .returned (.bool true) ∧ J (pre ++ [x]) W' ∧ Keeps3 Bs Bf Bt W1 W') ∨ (e = .returned (.bool false) ∧ Jx (pre ++ [x]) W')) (h0 : J [] W) :
    CallsIn Fence.wide n Tryd.prog 30 #[.func (.yield l) #[] #[], .pointer (some ⟨Bs, 0, none⟩), .pointer (some ⟨Bf, 0, none⟩), .pointer (some ⟨Bt, 0, none⟩)] W fun e W' => (∃ v, e = .returned v) ∧
      ((∃ ys, ys = upto (after (stepOf k sz st) sh (fr - sz)) (stepOf k sz st) sz (nWin (after (stepOf k sz st) sh (fr - sz)) (stepOf k sz st) to) ∧ J ys W') ∨
       (∃ pre, pre <+: upto (after (stepOf k sz st) sh (fr - sz)) (stepOf k sz st) sz (nWin (after (stepOf k sz st) sh (fr - sz)) (stepOf k sz st) to) ∧ Jx pre W')) := by
  have hab := after_bounds (stepOf k sz st) sh (fr - sz) hd
  have hlt := nWin_lt (after (stepOf k sz st) sh (fr - sz)) (stepOf k sz st) to hd
  have cA : ∀ W1 : World, CallsIn Fence.wide (n - 1) Tryd.prog 31 #[.agg #[.int .i64 k, .int .i64 sz, .int .i64 st, .int .i64 g, .int .i64 sh], .int .i64 (fr - sz)] W1 fun e w' => e = .returned (.int .i64 (after (stepOf k sz st) sh (fr - sz))) ∧ Below W1.heap.size W1 w' := fun W1 => callsIn_wide.2 (startAfter_any k sz st g sh (fr - sz) hd hd' hs hs' (by omega) (by omega) W1)
  have cS : ∀ W1 : World, CallsIn Fence.wide (n - 1) Tryd.prog 32 #[.agg #[.int .i64 k, .int .i64 sz, .int .i64 st, .int .i64 g, .int .i64 sh]] W1 fun e w' => e = .returned (.int .i64 (stepOf k sz st)) ∧ w' = W1.alloc (.cells #[.int .i64 k, .int .i64 sz, .int .i64 st, .int .i64 g, .int .i64 sh] 23) := fun W1 => callsIn_wide.2 (step_any k sz st g sh W1)
  have hcA := Lib.hid cA
  have hcS := Lib.hid cS
  clear cA cS
  revert hlt hab hY hcA hcS
  generalize hAe : after (stepOf k sz st) sh (fr - sz) = A
  generalize hde : stepOf k sz st = d at hd hd' ⊢
  clear hAe hde
  intro hY hab hlt hcA hcS
  obtain ⟨N, hN⟩ : ∃ N, nWin A d to = N := ⟨_, rfl⟩
  rw [hN] at hY hlt ⊢
  clear hN
  have Hlt := Lib.hid hlt
  have HY := Lib.hid hY
  clear hlt hY
  have HS := Lib.hid hS
  obtain ⟨s0, s1, s2, s3, s4⟩ := hS
  refine callsIn_of_wp Tryd.func30 rfl trivial ?_ rfl
  simp only [Tryd.ntmps30, List.size_toArray, List.length_cons, List.length_nil, Nat.reduceAdd, Nat.reduceSub, Array.replicate_succ, Array.replicate_zero, List.push_toArray, List.append_toArray, List.nil_append, List.cons_append]
  gi_wp2_with (refine ⟨trivial, ?_⟩; gi_at_call 31; refine (hcA.out _).mono ?_; rintro e W1 ⟨rfl, hb1⟩)
  have hJ1 : J [] W1 := hJ [] W W1 none h0 (grown_of_below hb1) (fun r e => by cases e)
  have hB1 : Keeps3 Bs Bf Bt W W1 := Keeps3.of_below hb1 hBs hBf hBt
  clear hb1
  gi_loopw [5] (fun a wr => ∃ (i : Nat) (x : Int), a = .int .i64 x ∧ Hid (x = A + i * d) ∧ A ≤ x ∧ x ≤ to + d ∧ i ≤ N ∧ J (upto A d sz i) wr ∧ Keeps3 Bs Bf Bt W wr)
    (fun a _ => (to + d - intOf a).toNat)
  case atStart =>
    exact ⟨0, A, rfl, (by show A = A + ((0 : Nat) : Int) * d; simp), by omega, by omega, Nat.zero_le _, hJ1, hB1⟩
  case round =>
    obtain ⟨i, x, rfl, hx, hx1, hx2, hiN0, hJi, hBi⟩ := hrel
    obtain ⟨c0, c1, _, _, _⟩ := HS.out.keep hBi.s
    have ct : wr.cell? ⟨Bt, 0, none⟩ = some (.int .i64 to) := (World.cell?_of_block (a := ⟨Bt, 0, none⟩) hBi.t).trans hT
    by_cases hle : x ≤ to
    · have hiN : i < N := (Hlt.out i).1 (by rw [← hx.out]; exact hle)
      have hy1 := HY.out (upto A d sz i) (x, x + sz) wr hJi (by rw [upto_len]; exact hiN)
      have hsnoc : upto A d sz i ++ [(x, x + sz)] = upto A d sz (i + 1) := by rw [upto_succ, hx.out]
      rw [hsnoc] at hy1
      have hx' : Hid (x + d = A + ((i + 1 : Nat) : Int) * d) := by
        show x + d = A + ((i + 1 : Nat) : Int) * d
        rw [hx.out, Int.natCast_add, Int.add_mul]; omega
      clear hsnoc
      have HX := Lib.hid hx'
      have HX0 := Lib.hid hx
      clear hx' hx
      obtain ⟨fn, tmps, assign, body, hy, hR⟩ := hy1
      dsimp only [encW] at hy
      gi_wp2_with fail
      refine hR.mono ?_
      rintro e W3 (⟨rfl, hJ3, hk3⟩ | ⟨rfl, hJx3⟩)
      · have hB3 := hBi.trans hk3
        obtain ⟨d0, d1, d2, d3, d4⟩ := HS.out.keep hB3.s
        gi_wp2_with (refine ⟨trivial, ?_⟩; gi_at_call 32; refine (hcS.out _).mono ?_; rintro e w' ⟨rfl, rfl⟩)
        go_roundw
        case rel => exact ⟨i + 1, x + d, rfl, HX.out, by omega, by omega, by omega, hJ _ _ _ none hJ3 (World.grownBy_alloc W3 _ none) (fun r e => by cases e), hB3.trans (Keeps3.alloc _ (lt_of_same hB3.s hBs) (lt_of_same hB3.f hBf) (lt_of_same hB3.t hBt))⟩
        case measure => simp [intOf]; omega
      · gi_wp2_with fail
        refine bodyPost_ret (results_none rfl _ _ _) rfl ?_
        exact ⟨⟨_, rfl⟩, .inr ⟨upto A d sz (i + 1), upto_pre A d sz (by omega), hJx3⟩⟩
    · have hle' : to < x := by omega
      have hiN : ¬ i < N := fun h => hle (by rw [hx.out]; exact (Hlt.out i).2 h)
      clear hle
      have HX0 := Lib.hid hx
      clear hx
      gi_wp2_with fail
      go_end0
      have hiE : N = i := by omega
      exact ⟨⟨_, rfl⟩, .inl ⟨upto A d sz i, by rw [hiE], hJi⟩⟩

/-- The value that 'covering' hands back stops, where a round says so; it tells the windows in their order. -/
theorem cover_stops3 (n : Nat) (hn : 1 ≤ n) (Bs Bf Bt : Nat) (k sz st g sh fr to : Int) (hd : 1 ≤ stepOf k sz st) (hd' : stepOf k sz st ≤ 1000000000) (hs : 0 ≤ sh) (hs' : sh ≤ 1000000000)
    (hz : 1 ≤ sz) (hz' : sz ≤ 1000000000) (hf : -1000000000000 ≤ fr) (hft : fr ≤ to) (ht : to ≤ 1000000000000) (w : World) (hBs : Bs < w.heap.size) (hBf : Bf < w.heap.size) (hBt : Bt < w.heap.size)
    (hS : SpecAt w Bs k sz st g sh) (hF : w.cell? ⟨Bf, 0, none⟩ = some (.int .i64 fr)) (hT : w.cell? ⟨Bt, 0, none⟩ = some (.int .i64 to)) :
    SeqStopsK Fence.wide n Tryd.prog 30 #[.pointer (some ⟨Bs, 0, none⟩), .pointer (some ⟨Bf, 0, none⟩), .pointer (some ⟨Bt, 0, none⟩)] encW (Keeps3 Bs Bf Bt)
      (fun ys => ys = upto (after (stepOf k sz st) sh (fr - sz)) (stepOf k sz st) sz (nWin (after (stepOf k sz st) sh (fr - sz)) (stepOf k sz st) to))
      (fun pre => pre <+: upto (after (stepOf k sz st) sh (fr - sz)) (stepOf k sz st) sz (nWin (after (stepOf k sz st) sh (fr - sz)) (stepOf k sz st) to))
      (nWin (after (stepOf k sz st) sh (fr - sz)) (stepOf k sz st) to) w := fun l J Jx W hW hJ _ hY h0 =>
  cover1_in n hn l Bs Bf Bt k sz st g sh fr to hd hd' hs hs' hz hz' hf hft ht J Jx W hJ (Nat.lt_of_lt_of_le hBs hW.size) (Nat.lt_of_lt_of_le hBf hW.size) (Nat.lt_of_lt_of_le hBt hW.size) (hS.below hW hBs)
    ((hW.cell (p := ⟨Bf, 0, none⟩) hBf).trans hF) ((hW.cell (p := ⟨Bt, 0, none⟩) hBt).trans hT) hY h0

theorem cover_stops (n : Nat) (hn : 1 ≤ n) (Bs Bf Bt n₀ : Nat) (k sz st g sh fr to : Int) (hd : 1 ≤ stepOf k sz st) (hd' : stepOf k sz st ≤ 1000000000) (hs : 0 ≤ sh) (hs' : sh ≤ 1000000000)
    (hz : 1 ≤ sz) (hz' : sz ≤ 1000000000) (hf : -1000000000000 ≤ fr) (hft : fr ≤ to) (ht : to ≤ 1000000000000) (w : World) (hBs : Bs < n₀) (hBf : Bf < n₀) (hBt : Bt < n₀) (hn₀ : n₀ ≤ w.heap.size)
    (hS : SpecAt w Bs k sz st g sh) (hF : w.cell? ⟨Bf, 0, none⟩ = some (.int .i64 fr)) (hT : w.cell? ⟨Bt, 0, none⟩ = some (.int .i64 to)) :
    SeqStopsK Fence.wide n Tryd.prog 30 #[.pointer (some ⟨Bs, 0, none⟩), .pointer (some ⟨Bf, 0, none⟩), .pointer (some ⟨Bt, 0, none⟩)] encW (Below n₀)
      (fun ys => ys = upto (after (stepOf k sz st) sh (fr - sz)) (stepOf k sz st) sz (nWin (after (stepOf k sz st) sh (fr - sz)) (stepOf k sz st) to))
      (fun pre => pre <+: upto (after (stepOf k sz st) sh (fr - sz)) (stepOf k sz st) sz (nWin (after (stepOf k sz st) sh (fr - sz)) (stepOf k sz st) to))
      (nWin (after (stepOf k sz st) sh (fr - sz)) (stepOf k sz st) to) w := fun l J Jx W hW hJ hJx hY h0 =>
  cover_stops3 n hn Bs Bf Bt k sz st g sh fr to hd hd' hs hs' hz hz' hf hft ht w (Nat.lt_of_lt_of_le hBs hn₀) (Nat.lt_of_lt_of_le hBf hn₀) (Nat.lt_of_lt_of_le hBt hn₀) hS hF hT l J Jx W hW hJ hJx
    (fun pre x W1 h1 h2 => (hY pre x W1 h1 h2).mono fun _ _ h => h.imp (fun ⟨h1, h2, h3⟩ => ⟨h1, h2, Keeps3.of_below h3 hBs hBf hBt⟩) id) h0
end Go.Proofs.YtakekegghpgeaaaDoor
