/-
  slices.SortFunc at windows, under Compare, over a slice that the call owns. YthbpdalkifocaaaLaid is the plain text that lay-plain.mjs prints of wip/clk/LaySrc.
-/
import Derived.Test.YthbpdalkifocaaaLaid
import Derived.Test.YthbpdalkifocaaaAwake
import Derived.Test.YthbpdalkifocaaaRefs
import Derived.Sort.OwnSorted
import Derived.Shelf.SlSortCmp.NoneTotal
namespace Go.Proofs.Ythbpdalkifocaaa
open Go.Shelf Go.RowKit Go.Lib Go.Sort

abbrev P2 := Int × Int
def cmpP (x y : P2) : Int := cmpW x.1 x.2 y.1 y.2
theorem ltP (x y : P2) : ltOf cmpP x y = decide (x.1 < y.1 ∨ (x.1 = y.1 ∧ x.2 < y.2)) := by
  unfold ltOf cmpP cmpW
  by_cases h : x.1 = y.1 ∧ x.2 = y.2
  · rw [if_pos h]; symm; rw [decide_eq_false (by omega)]; rfl
  · rw [if_neg h]
    by_cases h1 : x.1 < y.1 ∨ (x.1 = y.1 ∧ x.2 < y.2)
    · rw [if_pos h1]; symm; rw [decide_eq_true h1]; rfl
    · rw [if_neg h1]; symm; rw [decide_eq_false h1]; rfl
theorem swoP : SWO (ltOf cmpP) where
  irrefl x := by rw [ltP]; simp
  trans x y z h1 h2 := by rw [ltP] at *; simp at *; omega
  ntrans x y z h1 h2 := by rw [ltP] at *; simp at *; omega

theorem cmpLaysP (blk off size : Nat) (w : World) : CmpLays Try.prog 37 #[] cellsW 2 cmpP blk off size w := fun _ _ _ _ x y => by
  refine (clkCompare_any x.1 x.2 y.1 y.2 _).mono ?_
  rintro e w' ⟨rfl, rfl⟩
  exact ⟨rfl, 0, _, by rw [alloc_eq_grow, alloc_eq_grow, grow_grow]; rfl⟩

theorem flatK_flatW (xs : List P2) : (flatK cellsW 2 xs.toArray).toList = flatW xs := by
  apply List.ext_getElem?
  intro t
  by_cases ht : t < xs.length * 2
  · have hi : t / 2 < xs.length := by omega
    have hg := flatW_get xs (t / 2) hi
    have e1 : (flatK cellsW 2 xs.toArray).toList[t]? = some ((cellsW (xs[t / 2]?.getD (0, 0)))[t % 2]!) := by
      rw [Array.getElem?_toList, Array.getElem?_eq_getElem (by simpa using ht)]
      have := get_flatK cellsW 2 xs.toArray t (by simpa using ht)
      rw [getElem!_pos _ t (by simpa using ht)] at this
      rw [this]
      congr 1
      rw [getElem!_pos _ (t / 2) (by simpa using hi)]
      simp [hi]
    rw [e1]
    rcases Nat.mod_two_eq_zero_or_one t with h | h
    · have : t / 2 * 2 = t := by omega
      have h2 := hg.1
      rw [this] at h2
      rw [h2, h]
      simp [cellsW]
    · have : t / 2 * 2 + 1 = t := by omega
      have h2 := hg.2
      rw [this] at h2
      rw [h2, h]
      simp [cellsW]
  · rw [List.getElem?_eq_none (by simp; omega), List.getElem?_eq_none (by rw [flatW_len]; omega)]

theorem holdsK_of_block {w : World} {g : Nat} {cur : Array Value} {e : TypeId} {xs : List P2} (hb : w.heap[g]? = some (.cells cur e (0, 0))) (ht : cur.toList.take (xs.length * 2) = flatW xs) : HoldsK cellsW 2 w g 0 xs.toArray := by
  intro j hj
  have hj' : j < xs.length * 2 := by simpa using hj
  refine ⟨?_, by simp [World.frozen?, hb]⟩
  have h1 : (cur.toList.take (xs.length * 2))[j]? = (flatK cellsW 2 xs.toArray).toList[j]? := by rw [ht, flatK_flatW]
  rw [List.getElem?_take_of_lt hj', Array.getElem?_toList, Array.getElem?_toList] at h1
  simp only [World.cell?, hb, Nat.zero_add]
  simp only [Option.isSome_none, Bool.false_eq_true, if_false]
  rw [h1, Array.getElem?_eq_getElem hj, getElem!_pos _ j hj]
  rfl

theorem heap_sortedK {w : World} {g n : Nat} {os : Array Obj} {cur : Array Value} {e : TypeId} {fr : Nat × Nat} (d : Array P2) (hb : w.heap[g]? = some (.cells cur e fr)) :
    (sortWorldK cellsW 2 w g 0 n d os).heap[g]? = some (.cells (putCells id 0 (flatK cellsW 2 d) cur) e fr) := by
  have hg : g < w.heap.size := (Array.getElem?_eq_some_iff.1 hb).1
  unfold sortWorldK
  rw [heap_grow_old _ _ (by simpa [putRowK] using hg)]
  simp [putRowK, putRow, mapBlock, Sort.ahead, Array.getElem?_modify, hb, onCells]

theorem grownBy_sortedK {w : World} {g n : Nat} {os : Array Obj} (d : Array P2) : w.grownBy (sortWorldK cellsW 2 w g 0 n d os) (some g) := by
  unfold sortWorldK
  refine ⟨rfl, rfl, rfl, by simp [putRowK], fun k hk hne => ?_⟩
  rw [heap_grow_old _ _ (by simpa [putRowK] using hk)]
  have : g ≠ k := fun e => hne (by rw [e])
  simp [putRowK, putRow, mapBlock, Sort.ahead, Array.getElem?_modify, this]

theorem take_putCellsK (cur : Array Value) (zs : List P2) (h : zs.length * 2 ≤ cur.size) : (putCells id 0 (flatK cellsW 2 zs.toArray) cur).toList.take (zs.length * 2) = flatW zs := by
  rw [← flatK_flatW]
  apply List.ext_getElem?
  intro j
  by_cases hj : j < zs.length * 2
  · rw [List.getElem?_take_of_lt hj, Array.getElem?_toList, Array.getElem?_toList]
    have hs : j < (flatK cellsW 2 zs.toArray).size := by simpa using hj
    have hc : j < cur.size := by omega
    rw [Array.getElem?_eq_getElem hs]
    simp only [putCells, Array.getElem?_mapIdx, Array.getElem?_eq_getElem hc, Option.map_some, Nat.zero_add, size_flatK, List.size_toArray, Nat.zero_le, true_and, if_pos hj, id, Nat.sub_zero]
    rw [getElem!_pos (flatK cellsW 2 zs.toArray) j hs]
  · rw [List.getElem?_take_eq_none (by omega), List.getElem?_eq_none (by simp; omega)]

/-- Ascending, as Compare has it. -/
def Asc (xs : List P2) : Prop := xs.Pairwise fun x y => ltOf cmpP y x = false

/-- The library's sort, over a slice that the call owns. -/
theorem sort_owned (ys : List P2) (base : Nat) (v : Value) (w : World) (hN : ys.length < 4611686018427387904) (h : w.ownsRow base 31 2 v ys.length (flatW ys)) :
    Calls Try.prog 49 #[v, .func (.func 37) #[] #[]] w fun e w' =>
      e = .returned (.tuple #[]) ∧ ∃ zs, zs.Perm ys ∧ Asc zs ∧ zs.length = ys.length ∧ w'.ownsRow base 31 2 v ys.length (flatW zs) ∧ w.grownBy w' v.ownBlock := by
  obtain ⟨hlen, hrow⟩ := h
  rcases hrow with ⟨rfl, hn⟩ | ⟨g, cap, cur, rfl, hbase, hb, h1, h2, h3, h4⟩
  · rw [hn]
    have hy : ys = [] := List.length_eq_zero_iff.1 hn
    subst hy
    have hcon := AnyF.slices_SortFunc_none Try.sortW none 0 (.func (.func 37) #[] #[]) w
    change Calls Try.prog 49 _ _ _ at hcon
    refine hcon.mono ?_
    rintro e w' ⟨rfl, rfl⟩
    exact ⟨rfl, [], .refl _, List.Pairwise.nil, rfl, ⟨by simp [flatW], .inl ⟨rfl, rfl⟩⟩, ⟨rfl, rfl, rfl, Nat.le_refl _, fun _ _ _ => rfl⟩⟩
  · have eg : ∀ args w, (callFunc 37 args).run Try.prog w = .ok (.enter 37 args) w := enters_of Try.func37 (by kernel_rfl) rfl
    have hcon := AnyQ.slices_SortFunc Try.sortW 2 Try.isAgg31 Try.sizeOf31 cellsW (fun _ => rfl) (fun x v hv => by simp [cellsW] at hv; rcases hv with rfl | rfl <;> rfl) cmpP swoP 37 #[] g 0 cap ys.toArray w eg (cmpLaysP g 0 _ w) (holdsK_of_block hb h4) ((Array.getElem?_eq_some_iff.1 hb).1) (by simpa using hN)
    change Calls Try.prog 49 _ _ _ at hcon
    rw [List.size_toArray] at hcon
    refine hcon.mono ?_
    rintro e w' ⟨rfl, d', n, os, hp, hs, rfl⟩
    obtain ⟨p1, p2, p3⟩ := hp
    have p1' : d'.size = ys.length := by simpa using p1
    refine ⟨rfl, d'.toList, ?_, ?_, by simpa using p1, ?_, grownBy_sortedK d'⟩
    · have e1 : d'.extract 0 ys.length = d' := by rw [← p1']; exact Array.extract_size
      have e2 : ys.toArray.extract 0 ys.length = ys.toArray := by simp
      rw [e1, e2] at p3
      simpa using p3
    · unfold Asc
      rw [List.pairwise_iff_getElem]
      intro i j hi hj hij
      have hi' : i < d'.size := by simpa using hi
      have hj' : j < d'.size := by simpa using hj
      have := hs i j (Nat.zero_le _) hij (by omega)
      rw [getElem!_pos _ i hi', getElem!_pos _ j hj'] at this
      simpa using this
    · have hk : d'.toList.length * 2 ≤ cur.size := by simp [p1', h3]; omega
      have ht := take_putCellsK cur d'.toList hk
      refine ⟨by rw [flatW_len]; simp [p1'], .inr ⟨g, cap, _, rfl, hbase, heap_sortedK _ hb, h1, h2, by simp [putCells, h3], ?_⟩⟩
      have : d'.toList.length = ys.length := by simpa using p1'
      rw [this] at ht
      simpa using ht

#print axioms sort_owned
end Go.Proofs.Ythbpdalkifocaaa
