/-
  The document's own Same at two bags that read as one list; Few.
-/
import Derived.Test.YtkldokmmboebmaaItem
import Derived.Test.YtkldokmmboebmaaSameR
namespace Go.Proofs.Ytkldokmmboebmaa
open Go.RowKit

/-- A bag's slice: its address, its items, its capacity. -/
abbrev BagV := Option Addr × List ItR × Nat
def bagv (b : BagV) : Value := .slice b.1 b.2.1.length b.2.2
abbrev b0 : BagV := (none, [], 0)
def BagOK (W : World) (b : BagV) : Prop := b.2.1.length ≤ 9223372036854775807 ∧ b.2.1.length ≤ b.2.2 ∧ ItemsIn W b.1 b.2.1
theorem BagOK.belowV {W W' : World} {b : BagV} (h : BagOK W b) (hb : Below W.heap.size W W') : BagOK W' b := ⟨h.1, h.2.1, h.2.2.belowV hb⟩
def FewPost (w : World) (bs : List BagV) (e : Ending) (w' : World) : Prop := (e = .returned (.bool false) ∨ (e = .returned (.bool true) ∧ ∀ b ∈ bs, b.2.1.length ≤ 60)) ∧ Below w.heap.size w w'
end Go.Proofs.Ytkldokmmboebmaa
