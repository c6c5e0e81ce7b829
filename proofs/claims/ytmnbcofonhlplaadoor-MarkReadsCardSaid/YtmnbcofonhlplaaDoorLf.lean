/-
  Blocks of cells; the leaf functions of package mark and of the document's own answers, as contracts.
-/
import Derived.Test.YtmnbcofonhlplaaDoorProg
import Derived.WalkKit
import Derived.ProofKit
import Derived.Lib.Hide
import Derived.KernelRfl
import Derived.Deep.QuietTactic
import Derived.BigQuiet
import Derived.Deep.RegionHeld3
import Derived.Laws.StructEq
import Derived.OneCell
import Derived.Outline
import Derived.LoopTactic
import Derived.StillTailTactics
import Derived.Below
import Derived.Laws.AppendOwn
import Derived.Laws.OwnMore
import Derived.OwnWalk
import Derived.Lib.Walk
import Derived.Laws.Rows
import Derived.Maps.AppendAt
namespace Go.Proofs.YtmnbcofonhlplaaDoor
open Go.RowKit Go.Lib

/-- A block of cells, whole. -/
def Blk (W : World) (B : Nat) (t : TypeId) (cs : Array Value) : Prop := W.heap[B]? = some (.cells cs t (0, 0))
theorem Blk.lt {W : World} {B : Nat} {t : TypeId} {cs : Array Value} (h : Blk W B t cs) : B < W.heap.size := (Array.getElem?_eq_some_iff.1 h).1
theorem Blk.cell {W : World} {B : Nat} {t : TypeId} {cs : Array Value} (h : Blk W B t cs) (j : Nat) : W.cell? ⟨B, j, none⟩ = cs[j]? := by simp [World.cell?, show W.heap[B]? = _ from h]
theorem Blk.new (W : World) (t : TypeId) (cs : Array Value) : Blk (W.alloc (.cells cs t)) W.heap.size t cs := heap_alloc_new W _
theorem Blk.belowV {n₀ B : Nat} {W W' : World} {t : TypeId} {cs : Array Value} (h : Blk W B t cs) (hb : Below n₀ W W') (hB : B < n₀) : Blk W' B t cs := (hb.block B hB).trans h
theorem cells_new (w : World) (cs : Array Value) (t : TypeId) : ∀ (j : Nat) (u : Value), cs.toList[j]? = some u → (w.alloc (.cells cs t)).cell? ((⟨w.heap.size, 0, none⟩ : Addr).add j) = some u := fun j u h => by
  have hb : (w.alloc (.cells cs t)).heap[w.heap.size]? = some (.cells cs t (0, 0)) := heap_alloc_new w _
  rw [Go.WideShapes.add_plain]
  simp only [World.cell?, hb, Nat.zero_add]
  simpa using h
theorem cells_at (w : World) (cs : Array Value) (t : TypeId) {g : Nat} (hg : w.heap.size = g) : ∀ (j : Nat) (u : Value), cs.toList[j]? = some u → (w.alloc (.cells cs t)).cell? ((⟨g, 0, none⟩ : Addr).add j) = some u := by
  subst hg; exact cells_new w cs t
theorem Blk.keepG {W W' : World} {row : Option Nat} {B : Nat} {t : TypeId} {cs : Array Value} (h : Blk W B t cs) (hg : W.grownBy W' row) (hne : some B ≠ row) : Blk W' B t cs := (hg.block B h.lt hne).trans h
theorem Blk.froz {V : World} {B : Nat} {t : TypeId} {cs : Array Value} (h : Blk V B t cs) (j : Nat) : V.frozen? ⟨B, j, none⟩ = false := by simp [World.frozen?, show V.heap[B]? = _ from h]
theorem Blk.setG {V : World} {B : Nat} {t : TypeId} {cs : Array Value} (h : Blk V B t cs) (j : Nat) (u : Value) : Blk (V.setCell ⟨B, j, none⟩ u) B t (cs.setIfInBounds j u) := by
  have hb : V.heap[B]? = some (.cells cs t (0, 0)) := h
  unfold Blk World.setCell
  simp [Array.getElem?_modify, hb]
theorem Blk.allocG {V : World} {B : Nat} {t : TypeId} {cs : Array Value} (h : Blk V B t cs) (o : Obj) : Blk (V.alloc o) B t cs := h.keepG (World.grownBy_alloc V o none) (by simp)
theorem Blk.newAt (W : World) (t : TypeId) (cs : Array Value) {g : Nat} (hg : W.heap.size = g) : Blk (W.alloc (.cells cs t)) g t cs := hg ▸ Blk.new W t cs
theorem Blk.drewG {V : World} {B : Nat} {t : TypeId} {cs : Array Value} (h : Blk V B t cs) : Blk V.drew B t cs := h
theorem Blk.setOther {V : World} {B C j : Nat} {t : TypeId} {cs : Array Value} (h : Blk V B t cs) (hne : B ≠ C) (u : Value) : Blk (V.setCell ⟨C, j, none⟩ u) B t cs := by
  have := Below.heap_setCell V ⟨C, j, none⟩ u B hne
  exact this.trans h
/-- What a call keeps that writes one block at most. -/
abbrev Grew (w : World) (B : Nat) (w' : World) : Prop := w.grownBy w' (some B)
theorem grew_refl (w : World) (B : Nat) : Grew w B w := ⟨rfl, rfl, rfl, Nat.le_refl _, fun _ _ _ => rfl⟩
theorem Grew.andG {w w1 w2 : World} {B : Nat} (h : Grew w B w1) (k : Grew w1 B w2) : Grew w B w2 := World.grownBy.trans h k
theorem Grew.set {w w1 : World} {B : Nat} (h : Grew w B w1) (j : Nat) (u : Value) : Grew w B (w1.setCell ⟨B, j, none⟩ u) :=
  ⟨h.os, h.tape, h.output, Nat.le_trans h.size (by simp [World.setCell]), fun k hk hne => (Below.heap_setCell w1 ⟨B, j, none⟩ u k (by rintro rfl; exact hne rfl)).trans (h.block k hk hne)⟩
theorem Grew.new {w w1 : World} {B : Nat} (h : Grew w B w1) (o : Obj) : Grew w B (w1.alloc o) :=
  World.grownBy.trans h (World.grownBy_alloc w1 o _)
theorem Grew.drewG {w w1 : World} {B : Nat} (h : Grew w B w1) : Grew w B w1.drew := ⟨h.os, h.tape, h.output, h.size, h.block⟩
theorem Grew.belowG {w w1 w2 : World} {B : Nat} (h : Grew w B w1) (k : Below w1.heap.size w1 w2) : Grew w B w2 :=
  ⟨k.os.trans h.os, k.tape.trans h.tape, k.output.trans h.output, Nat.le_trans h.size k.size, fun i hi hne => (k.block i (Nat.lt_of_lt_of_le hi h.size)).trans (h.block i hi hne)⟩
theorem grew_of_below {w w1 : World} {B : Nat} (k : Below w.heap.size w w1) : Grew w B w1 := (grew_refl w B).belowG k
theorem Grew.toBelow {w w1 : World} {B n₀ : Nat} (h : Grew w B w1) (hB : n₀ ≤ B) (hn : n₀ ≤ w.heap.size) : Below n₀ w w1 := (Below.refl _ _).grown h hn (fun k e => by simp at e; omega)
/-- A call that hands nothing back, and leaves these cells in the block. -/
def PutPost (w : World) (B : Nat) (t : TypeId) (cs : Array Value) (e : Ending) (w' : World) : Prop := e = .returned (.tuple #[]) ∧ Grew w B w' ∧ Blk w' B t cs

theorem retB {a b : Bool} (h : a = b) : Ending.returned (.bool a) = .returned (.bool b) := by rw [h]
theorem below_new (w : World) (o : Obj) : Below w.heap.size w (w.alloc o) := (Below.refl _ _).alloc (Nat.le_refl _) _
/-- A number is in a range. -/
def inR (n lo hi : Int) : Bool := decide (lo ≤ n ∧ n ≤ hi)
theorem inR_iff {n lo hi : Int} : inR n lo hi = true ↔ lo ≤ n ∧ n ≤ hi := by simp [inR]
theorem inR_no {n lo hi : Int} (h : ¬ (lo ≤ n ∧ n ≤ hi)) : inR n lo hi = false := by simp only [inR, decide_eq_false_iff_not]; exact h
theorem mkWithin_any (n lo hi : Int) (w : World) :
    Calls Tryd.prog 34 #[.int .i64 n, .int .i64 lo, .int .i64 hi] w fun e w' => e = .returned (.bool (inR n lo hi)) ∧ w = w' := by
  by_cases h : lo ≤ n
  · have e : inR n lo hi = decide (n ≤ hi) := by simp [inR, h]
    rw [e]
    clear e
    go_enter Tryd.func34, Tryd.ntmps34
    go_wp2
    go_ret
    exact ⟨rfl, rfl⟩
  · have e : inR n lo hi = false := inR_no (by omega)
    have h' : n < lo := by omega
    rw [e]
    clear e
    go_enter Tryd.func34, Tryd.ntmps34
    go_wp2
    go_ret
    exact ⟨rfl, rfl⟩
theorem rkWithin_any (n lo hi : Int) (w : World) :
    Calls Tryd.prog 24 #[.int .i64 n, .int .i64 lo, .int .i64 hi] w fun e w' => e = .returned (.bool (inR n lo hi)) ∧ w = w' := by
  by_cases h : lo ≤ n
  · have e : inR n lo hi = decide (n ≤ hi) := by simp [inR, h]
    rw [e]
    clear e
    go_enter Tryd.func24, Tryd.ntmps24
    go_wp2
    go_ret
    exact ⟨rfl, rfl⟩
  · have e : inR n lo hi = false := inR_no (by omega)
    have h' : n < lo := by omega
    rw [e]
    clear e
    go_enter Tryd.func24, Tryd.ntmps24
    go_wp2
    go_ret
    exact ⟨rfl, rfl⟩
theorem cwWithin_any (n lo hi : Int) (w : World) :
    Calls Tryd.prog 35 #[.int .i64 n, .int .i64 lo, .int .i64 hi] w fun e w' => e = .returned (.bool (inR n lo hi)) ∧ w = w' := by
  by_cases h : lo ≤ n
  · have e : inR n lo hi = decide (n ≤ hi) := by simp [inR, h]
    rw [e]
    clear e
    go_enter Tryd.func35, Tryd.ntmps35
    go_wp2
    go_ret
    exact ⟨rfl, rfl⟩
  · have e : inR n lo hi = false := inR_no (by omega)
    have h' : n < lo := by omega
    rw [e]
    clear e
    go_enter Tryd.func35, Tryd.ntmps35
    go_wp2
    go_ret
    exact ⟨rfl, rfl⟩
theorem rwWithin_any (n lo hi : Int) (w : World) :
    Calls Tryd.prog 36 #[.int .i64 n, .int .i64 lo, .int .i64 hi] w fun e w' => e = .returned (.bool (inR n lo hi)) ∧ w = w' := by
  by_cases h : lo ≤ n
  · have e : inR n lo hi = decide (n ≤ hi) := by simp [inR, h]
    rw [e]
    clear e
    go_enter Tryd.func36, Tryd.ntmps36
    go_wp2
    go_ret
    exact ⟨rfl, rfl⟩
  · have e : inR n lo hi = false := inR_no (by omega)
    have h' : n < lo := by omega
    rw [e]
    clear e
    go_enter Tryd.func36, Tryd.ntmps36
    go_wp2
    go_ret
    exact ⟨rfl, rfl⟩
theorem isSpan_any (n : Int) (w : World) :
    Calls Tryd.prog 23 #[.int .i64 n] w fun e w' => e = .returned (.bool (inR n 0 1000000000)) ∧ w = w' := by
  go_enter Tryd.func23, Tryd.ntmps23
  go_wp2_with (go_at_call 34; refine (mkWithin_any _ _ _ _).mono ?_; rintro e w' ⟨rfl, rfl⟩)
  go_ret
  exact ⟨rfl, rfl⟩
theorem clkValid_any (n : Int) (w : World) :
    Calls Tryd.prog 26 #[.int .i64 n] w fun e w' => e = .returned (.bool (inR n (-1000000000000) 1000000000000)) ∧ w = w' := by
  go_enter Tryd.func26, Tryd.ntmps26
  go_wp2_with (go_at_call 35; refine (cwWithin_any _ _ _ _).mono ?_; rintro e w' ⟨rfl, rfl⟩)
  go_ret
  exact ⟨rfl, rfl⟩
theorem refValid_any (n : Int) (w : World) :
    Calls Tryd.prog 28 #[.int .i64 n] w fun e w' => e = .returned (.bool (inR n (-1000000000000) 1000000000000)) ∧ w = w' := by
  go_enter Tryd.func28, Tryd.ntmps28
  go_wp2_with (go_at_call 36; refine (rwWithin_any _ _ _ _).mono ?_; rintro e w' ⟨rfl, rfl⟩)
  go_ret
  exact ⟨rfl, rfl⟩
theorem mkLate_any (n m : Int) (w : World) :
    Calls Tryd.prog 11 #[.int .i64 n, .int .i64 m] w fun e w' => e = .returned (.bool (decide (n < m))) ∧ w = w' := by
  go_enter Tryd.func11, Tryd.ntmps11
  go_wp2
  go_ret
  exact ⟨rfl, rfl⟩
/-- A level's mark. -/
theorem lmark_any (m : Int) (h : -1000000000000 ≤ m ∧ m ≤ 1000000000001) (w : World) :
    Calls Tryd.prog 25 #[.int .i64 (m + 1000000000000)] w fun e w' => e = .returned (.int .i64 m) ∧ w = w' := by
  have q : IntKind.i64.wrap (-1000000000000 + (m + 1000000000000)) = m := by rw [IntKind.wrap_i64] <;> omega
  go_enter Tryd.func25, Tryd.ntmps25
  go_wp2
  go_ret
  exact ⟨rfl, rfl⟩
/-- A level is raised where it lies. -/
theorem raise_any (b j : Nat) (m x : Int) (hx : -4000000000000 ≤ x ∧ x ≤ 4000000000000) (w : World) (hc : w.cell? ⟨b, j, none⟩ = some (.int .i64 (m + 1000000000000))) (hf : w.frozen? ⟨b, j, none⟩ = false) :
    Calls Tryd.prog 27 #[.pointer (some ⟨b, j, none⟩), .int .i64 x] w fun e w' => e = .returned (.tuple #[]) ∧ w' = w.setCell ⟨b, j, none⟩ (.int .i64 (max m x + 1000000000000)) := by
  have q : IntKind.i64.wrap (x - -1000000000000) = x + 1000000000000 := by rw [IntKind.wrap_i64] <;> omega
  have q2 : max (m + 1000000000000) (x + 1000000000000) = max m x + 1000000000000 := by omega
  go_enter Tryd.func27, Tryd.ntmps27
  go_wp2
  exact bodyPost_end (results_none rfl _ _ _) rfl ⟨rfl, rfl⟩
end Go.Proofs.YtmnbcofonhlplaaDoor
