/-
  slices.SortFunc at items, under the order by rows, over a slice of the call's own.
-/
import Derived.Test.YthoimepdioeckaaGreatDoorOrdI0
import Derived.Sort.OwnSorted
import Derived.Shelf.SlSortCmp.NoneTotal
namespace Go.Proofs.YthoimepdioeckaaGreatDoor
open Go.Shelf Go.RowKit Go.Lib Go.Sort

theorem below_block (w w' : World) (h : BelowD w.heap.size w w') : ∃ q os, w' = grow (w.drewN q) os := by
  refine ⟨w'.drawn - w.drawn, w'.heap.extract w.heap.size w'.heap.size, ?_⟩
  have hh : w'.heap = w.heap ++ w'.heap.extract w.heap.size w'.heap.size := by
    apply Array.ext_getElem?
    intro i
    rw [Array.getElem?_append]
    by_cases hi : i < w.heap.size
    · rw [if_pos hi]; exact h.block i hi
    · rw [if_neg hi, Array.getElem?_extract]
      by_cases hj : i < w'.heap.size
      · rw [if_pos (by omega)]; congr 1; omega
      · rw [if_neg (by omega)]; exact Array.getElem?_eq_none (by omega)
  have hd : w.drawn + (w'.drawn - w.drawn) = w'.drawn := by have := h.drawn; omega
  unfold grow World.drewN
  have e1 := h.os
  have e2 := h.tape
  have e3 := h.output
  cases w'
  cases w
  dsimp only at *
  subst e1 e2 e3
  rw [← hh, hd]

abbrev RI (B : Nat) (w : World) := {r : ItR // RowB B w r.1}
instance (B : Nat) (w : World) : Inhabited (RI B w) := ⟨⟨ir0, by unfold RowB; simp⟩⟩
def cellsRI {B : Nat} {w : World} (r : RI B w) : List Value := cellsI r.1
def cmpRI {B : Nat} {w : World} (x y : RI B w) : Int := cmpRow x.1.1.2.1 y.1.1.2.1
theorem swoRI (B : Nat) (w : World) : SWO (ltOf (cmpRI (B := B) (w := w))) where
  irrefl x := by unfold ltOf cmpRI; rw [cmpRow_ok.refl]; rfl
  trans x y z h1 h2 := by
    unfold ltOf cmpRI at *
    rw [decide_eq_true_eq] at *
    exact cmp_lt_trans h1 h2
  ntrans x y z h1 h2 := by
    unfold ltOf cmpRI at *
    rw [decide_eq_false_iff_not] at *
    have a1 := cmpRow_ok.anti x.1.1.2.1 y.1.1.2.1
    have a2 := cmpRow_ok.anti y.1.1.2.1 z.1.1.2.1
    have a3 := cmpRow_ok.anti x.1.1.2.1 z.1.1.2.1
    obtain ⟨t1, _⟩ := cmpRow_ok.trans z.1.1.2.1 y.1.1.2.1 x.1.1.2.1 (by omega) (by omega)
    omega

theorem flatK_flatI {B : Nat} {w : World} (xs : List (RI B w)) : (flatK cellsRI 2 xs.toArray).toList = flatI (xs.map (·.1)) := by
  apply List.ext_getElem?
  intro t
  by_cases ht : t < xs.length * 2
  · have hi : t / 2 < xs.length := by omega
    have hg := flatI_get (xs.map (·.1)) (t / 2) (by simpa using hi)
    have e0 : (xs.map (·.1))[t / 2]?.getD ir0 = (xs[t / 2]).1 := by simp [hi]
    rw [e0] at hg
    have e1 : (flatK cellsRI 2 xs.toArray).toList[t]? = some ((cellsI (xs[t / 2]).1)[t % 2]!) := by
      rw [Array.getElem?_toList, Array.getElem?_eq_getElem (by simpa using ht)]
      have := get_flatK cellsRI 2 xs.toArray t (by simpa using ht)
      rw [getElem!_pos _ t (by simpa using ht)] at this
      rw [this]
      congr 1
      rw [getElem!_pos _ (t / 2) (by simpa using hi)]
      rfl
    rw [e1]
    rcases Nat.mod_two_eq_zero_or_one t with h | h
    · have : t / 2 * 2 = t := by omega
      have h2 := hg.1
      rw [this] at h2
      rw [h2, h]
      simp [cellsI]
    · have : t / 2 * 2 + 1 = t := by omega
      have h2 := hg.2
      rw [this] at h2
      rw [h2, h]
      simp [cellsI]
  · rw [List.getElem?_eq_none (by simp; omega), List.getElem?_eq_none (by rw [flatI_len]; simp; omega)]

theorem holdsK_of_block {B : Nat} {w0 w : World} {g : Nat} {cur : Array Value} {e : TypeId} {xs : List (RI B w0)} (hb : w.heap[g]? = some (.cells cur e (0, 0))) (ht : cur.toList.take (xs.length * 2) = flatI (xs.map (·.1))) : HoldsK cellsRI 2 w g 0 xs.toArray := by
  intro j hj
  have hj' : j < xs.length * 2 := by simpa using hj
  refine ⟨?_, by simp [World.frozen?, hb]⟩
  have h1 : (cur.toList.take (xs.length * 2))[j]? = (flatK cellsRI 2 xs.toArray).toList[j]? := by rw [ht, flatK_flatI]
  rw [List.getElem?_take_of_lt hj', Array.getElem?_toList, Array.getElem?_toList] at h1
  simp only [World.cell?, hb, Nat.zero_add]
  simp only [Option.isSome_none, Bool.false_eq_true, if_false]
  rw [h1, Array.getElem?_eq_getElem hj, getElem!_pos _ j hj]
  rfl

theorem heap_sortedK {B : Nat} {w0 w : World} {g n : Nat} {os : Array Obj} {cur : Array Value} {e : TypeId} {fr : Nat × Nat} (d : Array (RI B w0)) (hb : w.heap[g]? = some (.cells cur e fr)) :
    (sortWorldK cellsRI 2 w g 0 n d os).heap[g]? = some (.cells (putCells id 0 (flatK cellsRI 2 d) cur) e fr) := by
  have hg : g < w.heap.size := (Array.getElem?_eq_some_iff.1 hb).1
  unfold sortWorldK
  rw [heap_grow_old _ _ (by simpa [putRowK] using hg)]
  simp [putRowK, putRow, mapBlock, Sort.ahead, Array.getElem?_modify, hb, onCells]

theorem grownBy_sortedK {B : Nat} {w0 w : World} {g n : Nat} {os : Array Obj} (d : Array (RI B w0)) : w.grownBy (sortWorldK cellsRI 2 w g 0 n d os) (some g) := by
  unfold sortWorldK
  refine ⟨rfl, rfl, rfl, by simp [putRowK], fun k hk hne => ?_⟩
  rw [heap_grow_old _ _ (by simpa [putRowK] using hk)]
  have : g ≠ k := fun e => hne (by rw [e])
  simp [putRowK, putRow, mapBlock, Sort.ahead, Array.getElem?_modify, this]

theorem take_putCellsK {B : Nat} {w0 : World} (cur : Array Value) (zs : List (RI B w0)) (h : zs.length * 2 ≤ cur.size) : (putCells id 0 (flatK cellsRI 2 zs.toArray) cur).toList.take (zs.length * 2) = flatI (zs.map (·.1)) := by
  rw [← flatK_flatI]
  apply List.ext_getElem?
  intro j
  by_cases hj : j < zs.length * 2
  · rw [List.getElem?_take_of_lt hj, Array.getElem?_toList, Array.getElem?_toList]
    have hs : j < (flatK cellsRI 2 zs.toArray).size := by simpa using hj
    have hc : j < cur.size := by omega
    rw [Array.getElem?_eq_getElem hs]
    simp only [putCells, Array.getElem?_mapIdx, Array.getElem?_eq_getElem hc, Option.map_some, Nat.zero_add, size_flatK, List.size_toArray, Nat.zero_le, true_and, if_pos hj, id, Nat.sub_zero]
    rw [getElem!_pos (flatK cellsRI 2 zs.toArray) j hs]
  · rw [List.getElem?_take_eq_none (by omega), List.getElem?_eq_none (by simp; omega)]

theorem RowB.grownX {B g : Nat} {w w' : World} {r : RowV} (h : RowB B w r) (hg : w.grownBy w' (some g)) (hB : B ≤ w.heap.size) (hgB : B ≤ g) : RowB B w' r :=
  h.below ((Below.refl B w).grown hg hB (fun k e => by cases e; exact hgB))
theorem RowB.okW {B : Nat} {w : World} {r : RowV} (h : RowB B w r) (hB : B ≤ w.heap.size) : RowOK w r := ⟨h.1, fun hp => by
  obtain ⟨b, off, e, hl, hr⟩ := h.2.2 hp
  exact ⟨b, off, e, Nat.lt_of_lt_of_le hl hB, hr⟩⟩

theorem cmpLaysI (B Bx g size : Nat) (w : World) (hB : B ≤ w.heap.size) (hBx : Bx < B) (hg : B ≤ g) (hbox : w.cell? ⟨Bx, 0, none⟩ = some (.func (.func 96) #[] #[])) :
    CmpLays Tryz.prog 141 #[.pointer (some ⟨Bx, 0, none⟩)] (cellsRI (B := B) (w := w)) 2 cmpRI g 0 size w := fun m os dk _ x y => by
  have hgr := grownBy_sortedK (w := w) (g := g) (n := m) (os := os) dk
  generalize sortWorldK cellsRI 2 w g 0 m dk os = W at hgr ⊢
  have hBW : B ≤ W.heap.size := Nat.le_trans hB hgr.size
  have hbW : Below B w W := (Below.refl B w).grown hgr hB (fun k e => by cases e; exact hg)
  obtain ⟨⟨⟨q, xs, qc⟩, n⟩, hx⟩ := x
  obtain ⟨⟨⟨p, ys, pc⟩, k⟩, hy⟩ := y
  exact (byRowItem_d Bx q xs qc n p ys pc k W ((hx.grownX hgr hB hg).okW hBW) ((hy.grownX hgr hB hg).okW hBW) ((hbW.cell (p := ⟨Bx, 0, none⟩) hBx).trans hbox) (by omega)).mono fun e w' ⟨he, hb⟩ => ⟨he, below_block W w' hb⟩

/-- The library's sort, over a slice that the call owns. -/
theorem sort_items (ys : List ItR) (base Bx : Nat) (v : Value) (w : World) (hN : ys.length < 4611686018427387904) (hbase : base ≤ w.heap.size) (hBx : Bx < base) (hbox : w.cell? ⟨Bx, 0, none⟩ = some (.func (.func 96) #[] #[]))
    (hrow : ∀ y ∈ ys, RowB base w y.1) (h : w.ownsRow base 60 2 v ys.length (flatI ys)) :
    Calls Tryz.prog 76 #[v, .func (.func 141) #[] #[.pointer (some ⟨Bx, 0, none⟩)]] w fun e w' =>
      e = .returned (.tuple #[]) ∧ ∃ zs : List ItR, zs.Perm ys ∧ (zs.Pairwise fun x y => 0 ≤ cmpRow y.1.2.1 x.1.2.1) ∧ w'.ownsRow base 60 2 v ys.length (flatI zs) ∧ w.grownBy w' v.ownBlock := by
  obtain ⟨hlen, hr⟩ := h
  rcases hr with ⟨rfl, hn⟩ | ⟨g, cap, cur, rfl, hbs, hb, h1, h2, h3, h4⟩
  · rw [hn]
    have hy : ys = [] := List.length_eq_zero_iff.1 hn
    subst hy
    have hcon := AnyF.slices_SortFunc_none Tryz.sortI none 0 (.func (.func 141) #[] #[.pointer (some ⟨Bx, 0, none⟩)]) w
    change Calls Tryz.prog 76 _ _ _ at hcon
    refine hcon.mono ?_
    rintro e w' ⟨rfl, rfl⟩
    exact ⟨rfl, [], .refl _, List.Pairwise.nil, ⟨by simp [flatI], .inl ⟨rfl, rfl⟩⟩, ⟨rfl, rfl, rfl, Nat.le_refl _, fun _ _ _ => rfl⟩⟩
  · obtain ⟨ls, hasl⟩ : ∃ ls : List (RI base w), ls.map (·.1) = ys := ⟨ys.attach.map fun y => ⟨y.1, hrow y.1 y.2⟩, by rw [List.map_map]; exact List.attach_map_subtype_val ys⟩
    have hal : ls.length = ys.length := by rw [← hasl]; simp
    rw [← hasl] at h4
    have eg : ∀ args w, (callFunc 141 args).run Tryz.prog w = .ok (.enter 141 args) w := enters_of Tryz.func141 (by kernel_rfl) rfl
    have hcon := AnyQ.slices_SortFunc Tryz.sortI 2 Tryz.isAgg60 Tryz.sizeOf60 (cellsRI (B := base) (w := w)) (fun _ => rfl) (fun x v hv => by simp [cellsRI, cellsI, rowv] at hv; rcases hv with rfl | rfl <;> rfl) cmpRI (swoRI base w) 141 #[.pointer (some ⟨Bx, 0, none⟩)] g 0 cap ls.toArray w eg
      (cmpLaysI base Bx g _ w hbase hBx hbs hbox) (holdsK_of_block hb (by rw [← h4]; simp)) ((Array.getElem?_eq_some_iff.1 hb).1) (by simpa [hal] using hN)
    change Calls Tryz.prog 76 _ _ _ at hcon
    rw [List.size_toArray, hal] at hcon
    refine hcon.mono ?_
    rintro e w' ⟨rfl, d', n, os, hp, hs, rfl⟩
    obtain ⟨p1, p2, p3⟩ := hp
    have p1' : d'.size = ls.length := by simpa using p1
    refine ⟨rfl, d'.toList.map (·.1), ?_, ?_, ?_, grownBy_sortedK d'⟩
    · have e1 : d'.extract 0 ys.length = d' := by rw [← hal, ← p1']; exact Array.extract_size
      have e2 : ls.toArray.extract 0 ys.length = ls.toArray := by rw [← hal]; simp
      rw [e1, e2] at p3
      have p4 := p3.map (·.1)
      rw [← hasl]
      simpa using p4
    · rw [List.pairwise_map, List.pairwise_iff_getElem]
      intro i j hi hj hij
      have hi' : i < d'.size := by simpa using hi
      have hj' : j < d'.size := by simpa using hj
      have := hs i j (Nat.zero_le _) hij (by omega)
      rw [getElem!_pos _ i hi', getElem!_pos _ j hj'] at this
      have h5 := of_decide_eq_false this
      simpa [cmpRI] using h5
    · have hk : d'.toList.length * 2 ≤ cur.size := by simp [p1', h3, hal]; omega
      have ht := take_putCellsK cur d'.toList hk
      refine ⟨by rw [flatI_len]; simp [p1', hal], .inr ⟨g, cap, _, rfl, hbs, heap_sortedK _ hb, h1, h2, by simp [putCells, h3], ?_⟩⟩
      have : d'.toList.length = ys.length := by simpa [hal] using p1'
      rw [this] at ht
      simpa using ht
#print axioms sort_items
end Go.Proofs.YthoimepdioeckaaGreatDoor
