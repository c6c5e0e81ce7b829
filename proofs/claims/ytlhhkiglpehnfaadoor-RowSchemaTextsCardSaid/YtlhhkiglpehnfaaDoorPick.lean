/-
  Columns picked out of a row, in both packages, as contracts.
-/
import Derived.Test.YtlhhkiglpehnfaaDoorFlat
namespace Go.Proofs.YtlhhkiglpehnfaaDoor
open Go.RowKit

/-- The slice reads as these numbers, in this world. -/
def IntsAt (W : World) (b off : Nat) (ts : List Int) : Prop := ∀ i, i < ts.length → W.cell? ⟨b, off + i, none⟩ = some (.int .i64 (ts[i]?.getD 0))
theorem IntsAt.belowV {n₀ b off : Nat} {W W' : World} {ts : List Int} (h : IntsAt W b off ts) (hb : Below n₀ W W') (hbk : b < n₀) : IntsAt W' b off ts := fun i hi =>
  (hb.cell (p := ⟨b, off + i, none⟩) hbk).trans (h i hi)
def IntsIn (W : World) (p : Option Addr) (ts : List Int) : Prop :=
  0 < ts.length → ∃ b off, p = some ⟨b, off, none⟩ ∧ b < W.heap.size ∧ IntsAt W b off ts
theorem IntsIn.belowV {p : Option Addr} {W W' : World} {ts : List Int} (h : IntsIn W p ts) (hb : Below W.heap.size W W') : IntsIn W' p ts := fun hp => by
  obtain ⟨b, off, e, hl, hr⟩ := h hp
  exact ⟨b, off, e, Nat.lt_of_lt_of_le hl hb.size, hr.belowV hb hl⟩
/-- Each is one of so many columns. -/
def okCols (cs : List Int) (n : Nat) : Bool := cs.all fun c => decide (0 ≤ c ∧ c < (n : Int))
theorem okCols_next {cs : List Int} {n i : Nat} (h : i < cs.length) : okCols (cs.take (i + 1)) n = (okCols (cs.take i) n && decide (0 ≤ cs[i]?.getD 0 ∧ cs[i]?.getD 0 < (n : Int))) := by
  rw [List.take_succ_eq_append_getElem h]; unfold okCols; rw [List.all_append]; simp [h]
theorem okCols_stop {cs : List Int} {n i : Nat} (h : okCols (cs.take i) n = false) : okCols cs n = false := by
  have e : okCols cs n = (okCols (cs.take i) n && okCols (cs.drop i) n) := by unfold okCols; rw [← List.all_append, List.take_append_drop]
  rw [e, h]; rfl
theorem okCols_at {cs : List Int} {n i : Nat} (h : okCols cs n = true) (hi : i < cs.length) : 0 ≤ cs[i]?.getD 0 ∧ cs[i]?.getD 0 < (n : Int) := by
  unfold okCols at h
  rw [List.all_eq_true] at h
  have := h (cs[i]) (List.getElem_mem hi)
  simpa [List.getElem?_eq_getElem hi] using this
def pick (xs : List Val) (cs : List Int) : List Val := cs.map fun c => xs[c.toNat]?.getD v0
theorem pick_len (xs : List Val) (cs : List Int) : (pick xs cs).length = cs.length := by simp [pick]
theorem pick_next {xs : List Val} {cs : List Int} {i : Nat} (h : i < cs.length) : pick xs (cs.take (i + 1)) = pick xs (cs.take i) ++ [xs[(cs[i]?.getD 0).toNat]?.getD v0] := by
  rw [List.take_succ_eq_append_getElem h]; unfold pick; rw [List.map_append]; simp [h]

def OwnPost (w : World) (ys : List Val) (e : Ending) (w' : World) : Prop := ∃ v, e = .returned v ∧ OwnsV w' w.heap.size v ys ∧ Below w.heap.size w w'

end Go.Proofs.YtlhhkiglpehnfaaDoor
