/-
  ParseSchema of package row, as a contract.
-/
import Derived.Test.YtlhhkiglpehnfaaDoorSe
import Derived.Test.YtlhhkiglpehnfaaDoorRound
import Derived.OwnWalkIn
import Derived.TacticsInMore
import Derived.RangeFuncLeaves
import Derived.Shelf.Abstract
import Derived.Deep.AppendLies
namespace Go.Proofs.YtlhhkiglpehnfaaDoor
open Go.RowKit
set_option linter.unusedSimpArgs false
set_option linter.unusedVariables false
attribute [local go_sem] Oper.semAt_some

theorem meant_any (x : ByteArray) (w : World) :
    Calls Tryd.prog 17 #[.string x] w fun e w' => e = .returned (.int .i64 (meantZ x.data.toList)) ∧ w = w' := by
  rw [← ByteArray.toList_eq]
  by_cases h1 : x.toList = [105, 110, 116]
  · have e1 : (x.toList == [105, 110, 116]) = true := by rw [h1]; rfl
    rw [show meantZ x.toList = 1 by rw [h1]; decide]
    clear h1
    go_enter Tryd.func17, Tryd.ntmps17
    go_wp2
    go_ret
    exact ⟨rfl, rfl⟩
  · have e1 : (x.toList == [105, 110, 116]) = false := by rw [beq_eq_false_iff_ne]; exact h1
    by_cases h2 : x.toList = [116, 101, 120, 116]
    · have e2 : (x.toList == [116, 101, 120, 116]) = true := by rw [h2]; rfl
      rw [show meantZ x.toList = 2 by rw [h2]; decide]
      clear h1 h2
      go_enter Tryd.func17, Tryd.ntmps17
      go_wp2
      go_ret
      exact ⟨rfl, rfl⟩
    · have e2 : (x.toList == [116, 101, 120, 116]) = false := by rw [beq_eq_false_iff_ne]; exact h2
      rw [show meantZ x.toList = 0 by unfold meantZ; rw [if_neg h1, if_neg h2]]
      clear h1 h2
      go_enter Tryd.func17, Tryd.ntmps17
      go_wp2
      go_ret
      exact ⟨rfl, rfl⟩
/-- A value's block is none of these. -/
def NotG (B TL TG : Nat) (v : Value) : Prop := ∀ x, v.ownBlock = some x → x ≠ B ∧ x ≠ TL ∧ x ≠ TG
/-- The block that a step turns holds no cells, or is B. -/
def Aside (n₀ B : Nat) (W : World) (row : Option Nat) : Prop := ∀ r, row = some r → n₀ ≤ r ∧ ((∃ o : Obj, W.heap[r]? = some o ∧ o.isCells = false) ∨ r = B)
theorem own_aside {W W' : World} {n₀ B TL TG lo n size : Nat} {e : TypeId} {v : Value} {xs : List Value} {row : Option Nat} (h : W.ownsRow lo e size v n xs) (hn : NotG B TL TG v) (hg : W.grownBy W' row) (hr : Aside n₀ B W row) : W'.ownsRow lo e size v n xs := by
  refine h.kept hg ?_
  cases hv : v.ownBlock with
  | none => exact .inl rfl
  | some x =>
    refine .inr fun e1 => ?_
    obtain ⟨cur, hc⟩ := own_type h x hv
    rcases (hr x e1.symm).2 with ⟨o, ho, hc2⟩ | h2
    · rw [ho] at hc; cases hc; cases hc2
    · exact (hn x hv).1 h2
theorem blk_aside {W W' : World} {n₀ B T : Nat} {t : TypeId} {cs : Array Value} {row : Option Nat} (h : Blk W T t cs) (hT : T ≠ B) (hg : W.grownBy W' row) (hr : Aside n₀ B W row) : Blk W' T t cs := by
  refine h.keepG hg fun e => ?_
  rcases (hr T e.symm).2 with ⟨o, ho, hc2⟩ | h2
  · rw [show W.heap[T]? = _ from h] at ho; cases ho; cases hc2
  · exact hT h2
def colsP (pre : List ByteArray) : List Col := pre.map fun x => colOf x.data.toList
/-- What the loop's body keeps. -/
def SchI (sz n₀ T B TP TV : Nat) (w0 : World) (pre : List ByteArray) (W : World) : Prop :=
  ∃ v : Value, Blk W T 23 #[v] ∧ OwnsC W n₀ v (colsP pre) ∧ NotG B TP TV v ∧ Below n₀ w0 W ∧ sz ≤ W.heap.size
theorem SchI.aside {sz n₀ T B TP TV : Nat} {w0 W W' : World} {pre : List ByteArray} {row : Option Nat} (h : SchI sz n₀ T B TP TV w0 pre W) (hT : T ≠ B) (hn : n₀ ≤ W.heap.size) (hg : W.grownBy W' row) (hr : Aside n₀ B W row) : SchI sz n₀ T B TP TV w0 pre W' := by
  obtain ⟨v, k, o, nn, hb, hsz⟩ := h
  exact ⟨v, blk_aside k hT hg hr, own_aside o nn hg hr, nn, hb.grown hg hn (fun k e => (hr k e).1), Nat.le_trans hsz hg.size⟩
theorem SchI.low {sz n₀ T B TP TV : Nat} {w0 W : World} {pre : List ByteArray} (h : SchI sz n₀ T B TP TV w0 pre W) (hn : n₀ = w0.heap.size) : n₀ ≤ W.heap.size := by
  obtain ⟨_, _, _, _, hb, _⟩ := h
  rw [hn]; exact hb.size
theorem keepsO_cells {W W' : World} {row : Option Nat} (hg : W.grownBy W' row) (hr : ∀ r, row = some r → ∃ cur t f, W.heap[r]? = some (.cells cur t f)) : KeepsOthers W W' :=
  ⟨hg.size, fun k o hk ho => (hg.block k (Array.getElem?_eq_some_iff.1 hk).1 (fun e => by
    obtain ⟨cur, t, f, hc⟩ := hr k e.symm
    rw [hk] at hc; cases hc; cases ho)).trans hk⟩
/-- The list was appended to, and put back. -/
theorem app_stepC {n₀ T B TL TG : Nat} {W W5 : World} {v : Value} {l : List Col} {x : Col} {tmp : Obj} {g cap : Nat} (kT : Blk W T 23 #[v]) (o : OwnsC W n₀ v l)
    (hn : NotG B TL TG v)
    (hown5 : W5.ownsRow n₀ 39 2 (.slice (some ⟨g, 0, none⟩) (l.length + 1) cap) (l.length + 1) (flatC (l ++ [x]))) (hg : (W.alloc tmp).grownBy W5 v.ownBlock) (hlie : v.ownBlock = some g ∨ g = W.heap.size + 1)
    (hnT : n₀ ≤ T) (hnW : n₀ ≤ W.heap.size) (hB : B < W.heap.size) (hL : TL < W.heap.size) (hG : TG < W.heap.size) (hTB : T ≠ B ∧ T ≠ TL ∧ T ≠ TG) :
    Blk (W5.setCell ⟨T, 0, none⟩ (.slice (some ⟨g, 0, none⟩) (l.length + 1) cap)) T 23 #[.slice (some ⟨g, 0, none⟩) (l.length + 1) cap] ∧
    OwnsC (W5.setCell ⟨T, 0, none⟩ (.slice (some ⟨g, 0, none⟩) (l.length + 1) cap)) n₀ (.slice (some ⟨g, 0, none⟩) (l.length + 1) cap) (l ++ [x]) ∧
    NotG B TL TG (.slice (some ⟨g, 0, none⟩) (l.length + 1) cap) ∧
    KeepsOthers W (W5.setCell ⟨T, 0, none⟩ (.slice (some ⟨g, 0, none⟩) (l.length + 1) cap)) ∧ KeepG n₀ B TL TG W (W5.setCell ⟨T, 0, none⟩ (.slice (some ⟨g, 0, none⟩) (l.length + 1) cap)) ∧ Below n₀ W (W5.setCell ⟨T, 0, none⟩ (.slice (some ⟨g, 0, none⟩) (l.length + 1) cap)) ∧ Blk W5 T 23 #[v] := by
  have k5 : Keep2 W W5 T v.ownBlock := (keep2_of_below (r := v.ownBlock) (below_newS W tmp)).trans (keep2_of_grown hg) (fun z e => .inl e)
  have k2 : Keep2 W (W5.setCell ⟨T, 0, none⟩ (.slice (some ⟨g, 0, none⟩) (l.length + 1) cap)) T v.ownBlock := k5.trans (keep2_set W5 T 0 _ none) (fun z e => by cases e)
  have hvT : some T ≠ v.ownBlock := fun e => apart_blk o kT (by decide) T e.symm rfl
  have kT5 : Blk W5 T 23 #[v] := (kT.allocG tmp).keepG hg hvT
  have hl : (l ++ [x]).length = l.length + 1 := by simp
  refine ⟨kT5.setG 0 _, ?_, ?_, ?_, ?_, ?_, kT5⟩
  · unfold OwnsC; rw [hl]; exact own_keep2 hown5 (keep2_set W5 T 0 _ none) fun z hz => ⟨apart_blk hown5 kT5 (by decide) z hz, fun e => by cases e⟩
  · intro z hz
    simp only [Value.ownBlock, Option.some.injEq] at hz
    subst hz
    rcases hlie with h | h
    · exact hn _ h
    · omega
  · exact ((KeepsOthers.alloc W tmp).trans (keepsO_cells hg fun r e => by
      obtain ⟨cur, hc⟩ := own_type (o.alloc tmp) r e
      exact ⟨cur, _, _, hc⟩)).trans (KeepsOthers.setCell _ _ _)
  · refine ⟨k2.size, fun k hk hlt => k2.block k hlt ?_ ?_⟩
    · omega
    · intro e
      have h1 := hn k e
      have h2 := (o.lt k e).1
      omega
  · exact k2.toBelow hnW hnT fun k e => (o.lt k e).1
end Go.Proofs.YtlhhkiglpehnfaaDoor
