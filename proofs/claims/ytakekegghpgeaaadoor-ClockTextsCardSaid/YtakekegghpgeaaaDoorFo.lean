/-
  The words and the numbers' places of a spec (form), and Format of both, as contracts.
-/
import Derived.Test.YtakekegghpgeaaaDoorWo
import Derived.Test.YtakekegghpgeaaaDoorCq
import Derived.Test.YtakekegghpgeaaaDoorAwake
import Derived.Test.YtakekegghpgeaaaDoorLaid
import Derived.Laws.Concat
import Derived.Lib.AppendIntMem
import Derived.RegionTactic
import Derived.BigRegion
namespace Go.Proofs.YtakekegghpgeaaaDoor
open Go.RowKit Go.Lib
set_option linter.unusedSimpArgs false

abbrev Tab (B : Nat) (w : World) : Prop := Lib.TabBelow Tryd.prog B w "internal/strconv.uint64pow10" .u64 Lib.pow10Tab
theorem below_grow {B : Nat} {a w : World} (h : Below B a w) (hB : B ≤ w.heap.size) (os : Array Obj) : Below B a (Go.Sort.grow w os) :=
  ⟨h.os, h.tape, h.output, by have := h.size; simp [Go.Sort.grow]; omega, fun i hi => by
    have := h.block i hi
    rw [← this]
    simp only [Go.Sort.grow]
    rw [Array.getElem?_append_left (by omega)]⟩
theorem itoa_any (n : Int) (h0 : -9223372036854775808 ≤ n) (h1 : n ≤ 9223372036854775807) (B : Nat) (w : World) (hT : Tab B w) :
    Calls Tryd.prog 13 #[.int .i64 n] w fun e w' => e = .returned (.string ⟨(Lib.itoa n).toArray⟩) ∧ Below w.heap.size w w' :=
  (Tryd.strconv_Itoa n h0 h1 w hT.here).mono fun e w' ⟨he, k, os, hw⟩ => ⟨he, by
    subst hw
    exact below_grow (below_drewN (Below.refl _ _) k) (Nat.le_refl _) os⟩
/-- A spec's cells. -/
def SpB (w : World) (S : Nat) (k sz st g sh : Int) : Prop := w.heap[S]? = some (.cells #[.int .i64 k, .int .i64 sz, .int .i64 st, .int .i64 g, .int .i64 sh] 23 (0, 0))
theorem SpB.cell {w : World} {S : Nat} {k sz st g sh : Int} (h : SpB w S k sz st g sh) (j : Nat) : w.cell? ⟨S, j, none⟩ = #[Value.int .i64 k, .int .i64 sz, .int .i64 st, .int .i64 g, .int .i64 sh][j]? := by
  unfold SpB at h
  simp [World.cell?, h]
theorem SpB.lt {w : World} {S : Nat} {k sz st g sh : Int} (h : SpB w S k sz st g sh) : S < w.heap.size := (Array.getElem?_eq_some_iff.1 h).1
theorem SpB.belowV {n : Nat} {w w' : World} {S : Nat} {k sz st g sh : Int} (h : SpB w S k sz st g sh) (hb : Below n w w') (hn : S < n) : SpB w' S k sz st g sh := (hb.block S hn).trans h
def offsT (k : Int) : List Nat := if k = 1 then [1, 4] else if k = 2 then [1, 2, 4] else if k = 3 then [3] else []
def PtrRow (w : World) (v : Value) (S : Nat) (l : List Nat) : Prop := ∃ p c, v = .slice p l.length c ∧ l.length ≤ c ∧ (0 < l.length → ∃ g, p = some ⟨g, 0, none⟩ ∧ g < w.heap.size ∧ ∀ i, i < l.length → w.cell? ⟨g, i, none⟩ = some (.pointer (some ⟨S, l[i]?.getD 0, none⟩)))
def FormPost (w : World) (S : Nat) (k : Int) (e : Ending) (w' : World) : Prop := ∃ v, e = .returned (.tuple #[.string ⟨(nameT k).toArray⟩, v]) ∧ PtrRow w' v S (offsT k) ∧ Below w.heap.size w w'
theorem ptrs_new (w : World) (S : Nat) (l : List Nat) (_ : 0 < l.length) (_ : l.length ≤ 3) : PtrRow (w.alloc (.cells (l.map fun o => Value.pointer (some ⟨S, o, none⟩)).toArray 41)) (.slice (some ⟨w.heap.size, 0, none⟩) l.length l.length) S l :=
  ⟨_, _, rfl, Nat.le_refl _, fun _ => ⟨_, rfl, by simp, fun i hi => by
    rw [World.cell?_alloc_new]
    simp [hi]⟩⟩
set_option maxRecDepth 100000 in
theorem form_any (S : Nat) (k sz st g sh : Int) (w : World) (h : SpB w S k sz st g sh) :
    Calls Tryd.prog 12 #[.pointer (some ⟨S, 0, none⟩)] w (FormPost w S k) := by
  have c0 := h.cell 0
  simp only [List.getElem?_toArray, List.getElem?_cons_zero, List.getElem?_cons_succ] at c0
  clear h
  unfold FormPost
  by_cases h1 : k = 1
  · subst h1
    go_enter Tryd.func12, Tryd.ntmps12
    go_wp2_with fail
    go_region
    go_wp2_with fail
    go_ret2
    exact ⟨_, rfl, ptrs_new w S [1, 4] (by decide) (by decide), by repeat (first | exact Below.refl _ _ | refine Below.alloc ?_ (by simp) _ | refine Below.drew ?_)⟩
  by_cases h2 : k = 2
  · subst h2
    go_enter Tryd.func12, Tryd.ntmps12
    go_wp2_with fail
    go_region
    go_wp2_with fail
    go_ret2
    exact ⟨_, rfl, ptrs_new w S [1, 2, 4] (by decide) (by decide), by repeat (first | exact Below.refl _ _ | refine Below.alloc ?_ (by simp) _ | refine Below.drew ?_)⟩
  by_cases h3 : k = 3
  · subst h3
    go_enter Tryd.func12, Tryd.ntmps12
    go_wp2_with fail
    go_region
    go_wp2_with fail
    go_ret2
    exact ⟨_, rfl, ptrs_new w S [3] (by decide) (by decide), by repeat (first | exact Below.refl _ _ | refine Below.alloc ?_ (by simp) _ | refine Below.drew ?_)⟩
  have z1 : (k == 1) = false := by rw [beq_eq_false_iff_ne]; exact h1
  have z2 : (k == 2) = false := by rw [beq_eq_false_iff_ne]; exact h2
  have z3 : (k == 3) = false := by rw [beq_eq_false_iff_ne]; exact h3
  have ho : offsT k = [] := by unfold offsT; rw [if_neg h1, if_neg h2, if_neg h3]
  rw [ho]
  by_cases h4 : k = 4
  · subst h4
    clear h1 h2 h3 ho
    go_enter Tryd.func12, Tryd.ntmps12
    go_wp2_with fail
    go_ret2
    exact ⟨_, rfl, ⟨none, 0, rfl, Nat.le_refl _, fun h => absurd h (by simp)⟩, Below.refl _ _⟩
  · have z4 : (k == 4) = false := by rw [beq_eq_false_iff_ne]; exact h4
    have hn : nameT k = [] := by unfold nameT; rw [if_neg h1, if_neg h2, if_neg h3, if_neg h4]
    rw [hn]
    clear h1 h2 h3 h4 ho hn
    go_enter Tryd.func12, Tryd.ntmps12
    go_wp2_with fail
    go_ret2
    exact ⟨_, rfl, ⟨none, 0, rfl, Nat.le_refl _, fun h => absurd h (by simp)⟩, Below.refl _ _⟩
end Go.Proofs.YtakekegghpgeaaaDoor
