/-
  Slices of numbers.
-/
import Derived.Test.YtkldokmmboebmaaFlat
import Derived.Laws.OwnMore
namespace Go.Proofs.Ytkldokmmboebmaa
open Go.RowKit

def IntsAt (W : World) (b off : Nat) (ts : List Int) : Prop := ∀ i, i < ts.length → W.cell? ⟨b, off + i, none⟩ = some (.int .i64 (ts[i]?.getD 0))
theorem IntsAt.belowV {n₀ b off : Nat} {W W' : World} {ts : List Int} (h : IntsAt W b off ts) (hb : Below n₀ W W') (hbk : b < n₀) : IntsAt W' b off ts := fun i hi =>
  (hb.cell (p := ⟨b, off + i, none⟩) hbk).trans (h i hi)
def IntsIn (W : World) (p : Option Addr) (ts : List Int) : Prop :=
  0 < ts.length → ∃ b off, p = some ⟨b, off, none⟩ ∧ b < W.heap.size ∧ IntsAt W b off ts
theorem IntsIn.belowV {p : Option Addr} {W W' : World} {ts : List Int} (h : IntsIn W p ts) (hb : Below W.heap.size W W') : IntsIn W' p ts := fun hp => by
  obtain ⟨b, off, e, hl, hr⟩ := h hp
  exact ⟨b, off, e, Nat.lt_of_lt_of_le hl hb.size, hr.belowV hb hl⟩
end Go.Proofs.Ytkldokmmboebmaa
