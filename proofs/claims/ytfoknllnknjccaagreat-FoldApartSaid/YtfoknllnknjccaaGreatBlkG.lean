/-
  Blocks that a call writes, and all others, which it keeps.
-/
import Derived.Test.YtfoknllnknjccaaGreatBasA
import Derived.Laws.Rows
import Derived.OwnWalk
import Derived.Maps.AppendAt
namespace Go.Proofs.YtfoknllnknjccaaGreat
open Go.RowKit Go.Lib

theorem Blk.keepG {W W' : World} {row : Option Nat} {B : Nat} {t : TypeId} {cs : Array Value} (h : Blk W B t cs) (hg : W.grownBy W' row) (hne : some B ≠ row) : Blk W' B t cs := (hg.block B h.lt hne).trans h
theorem Blk.froz {V : World} {B : Nat} {t : TypeId} {cs : Array Value} (h : Blk V B t cs) (j : Nat) : V.frozen? ⟨B, j, none⟩ = false := by simp [World.frozen?, show V.heap[B]? = _ from h]
theorem Blk.setG {V : World} {B : Nat} {t : TypeId} {cs : Array Value} (h : Blk V B t cs) (j : Nat) (u : Value) : Blk (V.setCell ⟨B, j, none⟩ u) B t (cs.setIfInBounds j u) := by
  have hb : V.heap[B]? = some (.cells cs t (0, 0)) := h
  unfold Blk World.setCell
  simp [Array.getElem?_modify, hb]
theorem Blk.allocG {V : World} {B : Nat} {t : TypeId} {cs : Array Value} (h : Blk V B t cs) (o : Obj) : Blk (V.alloc o) B t cs := h.keepG (World.grownBy_alloc V o none) (by simp)
theorem Blk.newAt (W : World) (t : TypeId) (cs : Array Value) {g : Nat} (hg : W.heap.size = g) : Blk (W.alloc (.cells cs t)) g t cs := hg ▸ Blk.new W t cs
theorem Blk.drewG {V : World} {B : Nat} {t : TypeId} {cs : Array Value} (h : Blk V B t cs) : Blk V.drew B t cs := h
theorem Blk.setOther {V : World} {B C j : Nat} {t : TypeId} {cs : Array Value} (h : Blk V B t cs) (hne : B ≠ C) (u : Value) : Blk (V.setCell ⟨C, j, none⟩ u) B t cs := by
  have := Below.heap_setCell V ⟨C, j, none⟩ u B hne
  exact this.trans h
/-- What a call keeps that writes one block at most. -/
abbrev Grew (w : World) (B : Nat) (w' : World) : Prop := w.grownBy w' (some B)
theorem grew_refl (w : World) (B : Nat) : Grew w B w := ⟨rfl, rfl, rfl, Nat.le_refl _, fun _ _ _ => rfl⟩
theorem Grew.andG {w w1 w2 : World} {B : Nat} (h : Grew w B w1) (k : Grew w1 B w2) : Grew w B w2 := World.grownBy.trans h k
theorem Grew.set {w w1 : World} {B : Nat} (h : Grew w B w1) (j : Nat) (u : Value) : Grew w B (w1.setCell ⟨B, j, none⟩ u) :=
  ⟨h.os, h.tape, h.output, Nat.le_trans h.size (by simp [World.setCell]), fun k hk hne => (Below.heap_setCell w1 ⟨B, j, none⟩ u k (by rintro rfl; exact hne rfl)).trans (h.block k hk hne)⟩
theorem Grew.new {w w1 : World} {B : Nat} (h : Grew w B w1) (o : Obj) : Grew w B (w1.alloc o) :=
  World.grownBy.trans h (World.grownBy_alloc w1 o _)
theorem Grew.drewG {w w1 : World} {B : Nat} (h : Grew w B w1) : Grew w B w1.drew := ⟨h.os, h.tape, h.output, h.size, h.block⟩
theorem Grew.belowG {w w1 w2 : World} {B : Nat} (h : Grew w B w1) (k : Below w1.heap.size w1 w2) : Grew w B w2 :=
  ⟨k.os.trans h.os, k.tape.trans h.tape, k.output.trans h.output, Nat.le_trans h.size k.size, fun i hi hne => (k.block i (Nat.lt_of_lt_of_le hi h.size)).trans (h.block i hi hne)⟩
theorem grew_of_below {w w1 : World} {B : Nat} (k : Below w.heap.size w w1) : Grew w B w1 := (grew_refl w B).belowG k
theorem Grew.toBelow {w w1 : World} {B n₀ : Nat} (h : Grew w B w1) (hB : n₀ ≤ B) (hn : n₀ ≤ w.heap.size) : Below n₀ w w1 := (Below.refl _ _).grown h hn (fun k e => by simp at e; omega)
/-- A call that hands nothing back, and leaves these cells in the block. -/
def PutPost (w : World) (B : Nat) (t : TypeId) (cs : Array Value) (e : Ending) (w' : World) : Prop := e = .returned (.tuple #[]) ∧ Grew w B w' ∧ Blk w' B t cs
end Go.Proofs.YtfoknllnknjccaaGreat
