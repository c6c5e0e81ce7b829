/-
  A slice that reads as items: rows, each with a number; how a bag's validity goes, item by item.
-/
import Derived.Test.YtledgnolmiecfaaGreatDoorBagMath
import Derived.Test.YtledgnolmiecfaaGreatDoorFlat
namespace Go.Proofs.YtledgnolmiecfaaGreatDoor
open Go.RowKit
set_option linter.unusedSimpArgs false

/-- May come behind those that are there. -/
def followsB (l : List It) (x : It) : Bool := decide (l.length ≠ 400) && (itOK x && (decide (l.length = 0) || decide (cmpRow (l[l.length - 1]?.getD it0).1 x.1 < 0)))
theorem up_snoc {l : List It} {x : It} (h : Up l) : Up (l ++ [x]) ↔ (l.length = 0 ∨ cmpRow (l[l.length - 1]?.getD it0).1 x.1 < 0) := by
  unfold Up at *
  rw [List.pairwise_append]
  constructor
  · rintro ⟨_, _, h3⟩
    by_cases e : l.length = 0
    · exact .inl e
    · refine .inr ?_
      have hl : l.length - 1 < l.length := by omega
      rw [List.getElem?_eq_getElem hl]
      exact h3 _ (List.getElem_mem hl) x (by simp)
  · intro h4
    refine ⟨h, by simp, fun a ha b hb => ?_⟩
    rw [List.mem_singleton] at hb
    subst hb
    rcases h4 with h4 | h4
    · have : l = [] := List.length_eq_zero_iff.1 h4
      rw [this] at ha
      cases ha
    · have hp : 0 < l.length := List.length_pos_of_mem ha
      have hl : l.length - 1 < l.length := by omega
      rw [List.getElem?_eq_getElem hl] at h4
      obtain ⟨k, hk, rfl⟩ := List.getElem_of_mem ha
      by_cases e : k = l.length - 1
      · subst e; exact h4
      · exact cmp_lt_trans (List.pairwise_iff_getElem.1 h k (l.length - 1) hk hl (by omega)) h4
theorem valid_snoc (l : List It) (x : It) : validBag (l ++ [x]) = (validBag l && followsB l x) := by
  rw [Bool.eq_iff_iff, Bool.and_eq_true, validBag_iff, validBag_iff]
  unfold followsB
  simp only [Bool.and_eq_true, Bool.or_eq_true, decide_eq_true_eq, List.length_append, List.length_singleton, List.mem_append, List.mem_singleton]
  constructor
  · rintro ⟨h1, h2, h3⟩
    have hu : Up l := (List.pairwise_append.1 h3).1
    exact ⟨⟨by omega, fun y hy => h2 y (.inl hy), hu⟩, by omega, h2 x (.inr rfl), (up_snoc hu).1 h3⟩
  · rintro ⟨⟨h1, h2, h3⟩, h4, h5, h6⟩
    exact ⟨by omega, fun y hy => by rcases hy with hy | rfl; exact h2 y hy; exact h5, (up_snoc h3).2 h6⟩
theorem valid_pre {l m : List It} (h : validBag l = false) : validBag (l ++ m) = false := by
  cases e : validBag (l ++ m) with
  | false => rfl
  | true =>
    obtain ⟨h1, h2, h3⟩ := validBag_iff.1 e
    rw [List.length_append] at h1
    have : validBag l = true := validBag_iff.2 ⟨by omega, fun x hx => h2 x (by simp [hx]), (List.pairwise_append.1 h3).1⟩
    rw [h] at this
    exact this.symm
theorem valid_next {l : List It} {i : Nat} (h : i < l.length) : validBag (l.take (i + 1)) = (validBag (l.take i) && followsB (l.take i) (l[i]?.getD it0)) := by
  rw [List.take_succ_eq_append_getElem h, List.getElem?_eq_getElem h]; exact valid_snoc _ _
theorem valid_stop {l : List It} {i : Nat} (h : validBag (l.take i) = false) : validBag l = false := by
  rw [← List.take_append_drop i l]; exact valid_pre h

/-- An item: a row's slice, and a number. -/
abbrev ItR := RowV × Int
abbrev ir0 : ItR := (r0, 0)
def itv (r : ItR) : It := (r.1.2.1, r.2)
def vals (rs : List ItR) : List It := rs.map itv
theorem vals_len (rs : List ItR) : (vals rs).length = rs.length := by simp [vals]
theorem vals_get (rs : List ItR) (i : Nat) : (vals rs)[i]?.getD it0 = itv (rs[i]?.getD ir0) := by
  unfold vals
  rw [List.getElem?_map]
  cases rs[i]? <;> rfl
theorem vals_take (rs : List ItR) (i : Nat) : vals (rs.take i) = (vals rs).take i := by unfold vals; rw [List.map_take]
theorem vals_drop (rs : List ItR) (i : Nat) : vals (rs.drop i) = (vals rs).drop i := by unfold vals; rw [List.map_drop]
theorem vals_app (rs ss : List ItR) : vals (rs ++ ss) = vals rs ++ vals ss := by simp [vals]
def ItemsAt (W : World) (b off : Nat) (rs : List ItR) : Prop :=
  ∀ i, i < rs.length → W.cell? ⟨b, off + i * 2, none⟩ = some (rowv (rs[i]?.getD ir0).1) ∧ W.cell? ⟨b, off + i * 2 + 1, none⟩ = some (.int .i64 (rs[i]?.getD ir0).2) ∧ RowOK W (rs[i]?.getD ir0).1 ∧ ((rs[i]?.getD ir0).1.1 = none → (rs[i]?.getD ir0).1.2.2 = 0)
theorem RowOK.belowV {W W' : World} {r : RowV} (h : RowOK W r) (hb : Below W.heap.size W W') : RowOK W' r := ⟨h.1, h.2.belowV hb⟩
theorem ItemsAt.belowV {b off : Nat} {W W' : World} {rs : List ItR} (h : ItemsAt W b off rs) (hb : Below W.heap.size W W') (hbk : b < W.heap.size) : ItemsAt W' b off rs := fun i hi =>
  ⟨(hb.cell (p := ⟨b, off + i * 2, none⟩) hbk).trans (h i hi).1, (hb.cell (p := ⟨b, off + i * 2 + 1, none⟩) hbk).trans (h i hi).2.1, (h i hi).2.2.1.belowV hb, (h i hi).2.2.2⟩
def ItemsIn (W : World) (p : Option Addr) (rs : List ItR) : Prop :=
  0 < rs.length → ∃ b off, p = some ⟨b, off, none⟩ ∧ b < W.heap.size ∧ ItemsAt W b off rs
theorem ItemsIn.belowV {p : Option Addr} {W W' : World} {rs : List ItR} (h : ItemsIn W p rs) (hb : Below W.heap.size W W') : ItemsIn W' p rs := fun hp => by
  obtain ⟨b, off, e, hl, hr⟩ := h hp
  exact ⟨b, off, e, Nat.lt_of_lt_of_le hl hb.size, hr.belowV hb hl⟩
theorem ItemsIn.take {p : Option Addr} {W : World} {rs : List ItR} (h : ItemsIn W p rs) (i : Nat) : ItemsIn W p (rs.take i) := fun hp => by
  rw [List.length_take] at hp
  obtain ⟨b, off, e, hl, hr⟩ := h (by omega)
  refine ⟨b, off, e, hl, fun j hj => ?_⟩
  rw [List.length_take] at hj
  have := hr j (by omega)
  rw [List.getElem?_take_of_lt (by omega)]
  exact this
def cellsI (r : ItR) : List Value := [rowv r.1, .int .i64 r.2]
def flatI (rs : List ItR) : List Value := rs.flatMap cellsI
theorem flatI_app (rs ss : List ItR) : flatI (rs ++ ss) = flatI rs ++ flatI ss := by simp [flatI]
theorem flatI_len (rs : List ItR) : (flatI rs).length = rs.length * 2 := by
  induction rs with
  | nil => rfl
  | cons x xs ih => simp only [flatI, List.flatMap_cons, List.length_append, cellsI, List.length_cons, List.length_nil] at ih ⊢; omega
theorem flatI_get (rs : List ItR) : ∀ i, i < rs.length → (flatI rs)[i * 2]? = some (rowv (rs[i]?.getD ir0).1) ∧ (flatI rs)[i * 2 + 1]? = some (.int .i64 (rs[i]?.getD ir0).2) := by
  induction rs with
  | nil => intro i h; simp at h
  | cons x xs ih =>
    intro i h
    cases i with
    | zero => simp [flatI, cellsI]
    | succ i =>
      have := ih i (by simpa using h)
      rw [show (i + 1) * 2 = i * 2 + 2 by omega]
      simpa [flatI, cellsI] using this
theorem infoI : (Tryz.prog.info? 38).map (fun i => (i.zero, i.size, i.bytes)) = some (some (.agg #[.slice none 0 0, .int .i64 0]), 2, 32) := by kernel_rfl
end Go.Proofs.YtledgnolmiecfaaGreatDoor
