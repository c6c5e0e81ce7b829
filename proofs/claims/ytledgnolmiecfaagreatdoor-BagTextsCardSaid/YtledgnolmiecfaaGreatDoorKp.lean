/-
  What a call keeps that writes two blocks at most.
-/
import Derived.Test.YtledgnolmiecfaaGreatDoorJA
namespace Go.Proofs.YtledgnolmiecfaaGreatDoor
open Go.RowKit Go.Lib
set_option linter.unusedSimpArgs false

/-- A world that keeps all old blocks but two. -/
structure Keep2 (w w' : World) (B : Nat) (r : Option Nat) : Prop where
  os : w'.os = w.os
  tape : w'.tape = w.tape
  output : w'.output = w.output
  size : w.heap.size ≤ w'.heap.size
  block : ∀ k, k < w.heap.size → k ≠ B → r ≠ some k → w'.heap[k]? = w.heap[k]?
theorem keep2_refl (w : World) (B : Nat) (r : Option Nat) : Keep2 w w B r := ⟨rfl, rfl, rfl, Nat.le_refl _, fun _ _ _ _ => rfl⟩
theorem Keep2.trans {w w1 w2 : World} {B : Nat} {r r1 : Option Nat} (h : Keep2 w w1 B r) (k : Keep2 w1 w2 B r1) (hr : ∀ x, r1 = some x → r = some x ∨ w.heap.size ≤ x) : Keep2 w w2 B r :=
  ⟨k.os.trans h.os, k.tape.trans h.tape, k.output.trans h.output, Nat.le_trans h.size k.size, fun i hi hB hne => (k.block i (Nat.lt_of_lt_of_le hi h.size) hB (fun e => (hr i e).elim (fun e => hne e) (fun e => by omega))).trans (h.block i hi hB hne)⟩
theorem keep2_of_below {w w1 : World} {B : Nat} {r : Option Nat} (k : Below w.heap.size w w1) : Keep2 w w1 B r := ⟨k.os, k.tape, k.output, k.size, fun i hi _ _ => k.block i hi⟩
theorem keep2_of_grown {w w1 : World} {B : Nat} {r : Option Nat} (k : w.grownBy w1 r) : Keep2 w w1 B r := ⟨k.os, k.tape, k.output, k.size, fun i hi _ h => k.block i hi (fun e => h e.symm)⟩
theorem keep2_set (w : World) (B j : Nat) (u : Value) (r : Option Nat) : Keep2 w (w.setCell ⟨B, j, none⟩ u) B r :=
  ⟨rfl, rfl, rfl, by simp [World.setCell], fun k _ hB _ => Below.heap_setCell w ⟨B, j, none⟩ u k (fun e => hB e)⟩
theorem Keep2.toBelow {w w' : World} {lo B : Nat} {r : Option Nat} (h : Keep2 w w' B r) (hlo : lo ≤ w.heap.size) (hB : lo ≤ B) (hr : ∀ k, r = some k → lo ≤ k) : Below lo w w' :=
  ⟨h.os, h.tape, h.output, h.size, fun k hk => h.block k (by omega) (by omega) (fun e => by have := hr k e; omega)⟩
theorem own_keep2 {w w' : World} {lo B n : Nat} {r : Option Nat} {e : TypeId} {size : Nat} {u : Value} {xs : List Value} (h : w.ownsRow lo e size u n xs) (k : Keep2 w w' B r) (hB : ∀ x, u.ownBlock = some x → x ≠ B ∧ r ≠ some x) : w'.ownsRow lo e size u n xs := by
  refine ⟨h.1, ?_⟩
  rcases h.2 with hn | ⟨g, cap, cur, rfl, hg, hc, rest⟩
  · exact .inl hn
  · have := hB g rfl
    exact .inr ⟨g, cap, cur, rfl, hg, (k.block g (Array.getElem?_eq_some_iff.1 hc).1 this.1 this.2).trans hc, rest⟩
/-- The block that a row of the call's own lies in has its type. -/
theorem own_type {w : World} {lo n : Nat} {e : TypeId} {size : Nat} {u : Value} {xs : List Value} (h : w.ownsRow lo e size u n xs) : ∀ x, u.ownBlock = some x → ∃ cur, w.heap[x]? = some (.cells cur e (0, 0)) := by
  intro x hx
  rcases h.2 with ⟨rfl, _⟩ | ⟨g, cap, cur, rfl, hg, hc, rest⟩
  · cases hx
  · simp only [Value.ownBlock, Option.some.injEq] at hx
    subst hx
    exact ⟨cur, hc⟩
theorem apart_blk {w : World} {lo n B : Nat} {e t : TypeId} {size : Nat} {u : Value} {xs : List Value} {cs : Array Value} (h : w.ownsRow lo e size u n xs) (k : Blk w B t cs) (hne : e ≠ t) : ∀ x, u.ownBlock = some x → x ≠ B := by
  intro x hx e1
  obtain ⟨cur, hc⟩ := own_type h x hx
  subst e1
  rw [show w.heap[x]? = _ from k] at hc
  simp only [Option.some.injEq, Obj.cells.injEq] at hc
  exact hne hc.2.1.symm
theorem apart_own {w : World} {lo lo2 n m : Nat} {e t : TypeId} {s1 s2 : Nat} {u v : Value} {xs ys : List Value} (h : w.ownsRow lo e s1 u n xs) (k : w.ownsRow lo2 t s2 v m ys) (hne : e ≠ t) : ∀ x, u.ownBlock = some x → v.ownBlock ≠ some x := by
  intro x hx e1
  obtain ⟨cur, hc⟩ := own_type h x hx
  obtain ⟨cur2, hc2⟩ := own_type k x e1
  rw [hc2] at hc
  simp only [Option.some.injEq, Obj.cells.injEq] at hc
  exact hne hc.2.1.symm

theorem keep2_setR (w : World) (B r j : Nat) (u : Value) : Keep2 w (w.setCell ⟨r, j, none⟩ u) B (some r) :=
  ⟨rfl, rfl, rfl, by simp [World.setCell], fun k _ _ hr => Below.heap_setCell w ⟨r, j, none⟩ u k (fun e => hr (by rw [e]))⟩
theorem Blk.keep2 {w w' : World} {B X : Nat} {r : Option Nat} {t : TypeId} {cs : Array Value} (h : Blk w X t cs) (k : Keep2 w w' B r) (hB : X ≠ B) (hr : r ≠ some X) : Blk w' X t cs := (k.block X h.lt hB hr).trans h
theorem Keep2.below {w w1 w2 : World} {B : Nat} {r : Option Nat} (h : Keep2 w w1 B r) (k : Below w1.heap.size w1 w2) : Keep2 w w2 B r := h.trans (keep2_of_below (r := none) k) (fun x e => by cases e)
/-- Blocks of different types are different. -/
theorem blk_ne {w : World} {X Y : Nat} {t u : TypeId} {cs ds : Array Value} (h : Blk w X t cs) (k : Blk w Y u ds) (hne : t ≠ u) : X ≠ Y := fun e => by
  subst e
  have : some (Obj.cells cs t (0, 0)) = some (Obj.cells ds u (0, 0)) := (show w.heap[X]? = _ from h).symm.trans k
  simp only [Option.some.injEq, Obj.cells.injEq] at this
  exact hne this.2.1
end Go.Proofs.YtledgnolmiecfaaGreatDoor
