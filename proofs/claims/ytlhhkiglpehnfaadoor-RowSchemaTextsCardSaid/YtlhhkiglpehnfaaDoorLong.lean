/-
  Lists of rows; and Long, which looks at all their texts' lengths: some answer, and nothing that was there has changed.
-/
import Derived.Test.YtlhhkiglpehnfaaDoorRow
namespace Go.Proofs.YtlhhkiglpehnfaaDoor
open Go.RowKit

/-- A row's slice: its address, its values, its capacity. -/
abbrev RowV := Option Addr × List Val × Nat
def rowv (r : RowV) : Value := .slice r.1 r.2.1.length r.2.2
abbrev r0 : RowV := (none, [], 0)
def RowOK (W : World) (r : RowV) : Prop := r.2.1.length ≤ 9223372036854775807 ∧ ValsIn W r.1 r.2.1
def RowsAt (W : World) (b off : Nat) (rs : List RowV) : Prop := ∀ i, i < rs.length → W.cell? ⟨b, off + i, none⟩ = some (rowv (rs[i]?.getD r0)) ∧ RowOK W (rs[i]?.getD r0)
theorem RowsAt.belowV {b off : Nat} {W W' : World} {rs : List RowV} (h : RowsAt W b off rs) (hb : Below W.heap.size W W') (hbk : b < W.heap.size) : RowsAt W' b off rs := fun i hi =>
  ⟨(hb.cell (p := ⟨b, off + i, none⟩) hbk).trans (h i hi).1, (h i hi).2.1, (h i hi).2.2.belowV hb⟩
def RowsIn (W : World) (p : Option Addr) (rs : List RowV) : Prop :=
  0 < rs.length → ∃ b off, p = some ⟨b, off, none⟩ ∧ b < W.heap.size ∧ RowsAt W b off rs
theorem RowsIn.belowV {p : Option Addr} {W W' : World} {rs : List RowV} (h : RowsIn W p rs) (hb : Below W.heap.size W W') : RowsIn W' p rs := fun hp => by
  obtain ⟨b, off, e, hl, hr⟩ := h hp
  exact ⟨b, off, e, Nat.lt_of_lt_of_le hl hb.size, hr.belowV hb hl⟩
def SomeBool (w : World) (e : Ending) (w' : World) : Prop := ∃ q : Bool, e = .returned (.bool q) ∧ w = w'

end Go.Proofs.YtlhhkiglpehnfaaDoor
