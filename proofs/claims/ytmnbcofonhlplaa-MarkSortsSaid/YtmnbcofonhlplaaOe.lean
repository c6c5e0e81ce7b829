/-
  Arguments that are lists of numbers, lists of events, pairs of numbers: opened.
-/
import Derived.Test.YtmnbcofonhlplaaTu
import Derived.Test.YtmnbcofonhlplaaSr
import Derived.Deep.SlicePairs
namespace Go.Proofs.Ytmnbcofonhlplaa
open Go.ChangeShapes Go.WideShapes Go.ChangeAt Go.RowKit Go.Deep

/-- An aggregate all of whose cells are whole numbers: its numbers. -/
theorem ints_of_row {P : Program} {w : World} {r : Reach} {b : Nat} {t ti : TypeId} {n : Nat} {cs : Array Value} (hts : P.cellTypes P.depth t = some (List.replicate n ti)) (hti : P.underlying ti = some (.int .i64)) (hn : cs.size = n) (h : Row.okWide P w r b t cs) :
    ∃ ns : List Int, ns.length = n ∧ cs = (ns.map (Value.int .i64)).toArray := by
  obtain ⟨ts, h1, _, h3⟩ := h
  rw [hts] at h1
  cases h1
  have hv : ∀ (i : Nat) (v : Value), cs[i]? = some v → ∃ m, v = .int .i64 m := fun i v hi => by
    obtain ⟨u, hu, hc⟩ := h3 i v hi
    have : u = ti := (List.mem_replicate.1 (List.mem_of_getElem? hu)).2
    subst this
    simp only [Cell.okWide, hti] at hc
    cases v <;> simp_all [Cell.ok]
  refine ⟨cs.toList.map intOf, by simp [hn], ?_⟩
  apply Array.ext
  · simp
  · intro i h1 h2
    obtain ⟨m, hm⟩ := hv i cs[i] (by simp [h1])
    simp [hm, intOf]

theorem open_nums_array {P : Program} {w : World} {r : Reach} {b : Nat} {t ti te : TypeId} {n m : Nat} {v : Value} (ht : P.underlying t = some (.array m te)) (hC : P.cellsOf t = n) (hts : P.cellTypes P.depth t = some (List.replicate n ti)) (hti : P.underlying ti = some (.int .i64))
    (h : Value.okWide P w r b t v) : ∃ ns : List Int, ns.length = n ∧ v = .agg (ns.map (Value.int .i64)).toArray := by
  simp only [Value.okWide, ht] at h
  obtain ⟨cs, rfl, h2, h3⟩ := h
  obtain ⟨ns, hl, rfl⟩ := ints_of_row hts hti (h2.trans hC) h3
  exact ⟨ns, hl, rfl⟩

set_option maxRecDepth 100000 in
theorem open_times {H : Type} {enc : TypeId × Value → H} {W : World} {base : Nat} {v : Value} {d : DataW H} {ps : List MemPlace} (hval : Value.okWide Try.prog W .any base 36 v)
    (h : DataW.Trod enc Try.prog W 0 (fun _ => true) true 36 v d ps) : ∃ p ts cap, v = .slice p ts.length cap ∧ ts.length ≤ maxLen ∧ IntsIn W p ts := by
  obtain ⟨a, len, cap, rfl⟩ := okWide_slice Try.underlying36 hval
  obtain ⟨fuel, hf⟩ := h
  rcases open_ints Try.underlying36 Try.underlying3 (by kernel_rfl) hf with ⟨h0, _⟩ | ⟨a', len', cap', zs, hcs, _, hlc, hcm, hz, _, hc, _⟩
  · simp only [Value.cells, List.cons.injEq, Value.slice.injEq, and_true] at h0
    obtain ⟨rfl, rfl, rfl⟩ := h0
    exact ⟨none, [], 0, rfl, by simp, fun h => absurd h (by simp)⟩
  · simp only [Value.cells, List.cons.injEq, Value.slice.injEq, and_true] at hcs
    obtain ⟨rfl, rfl, rfl⟩ := hcs
    rw [if_pos rfl] at hz
    have hl : (zs.take len).length = len := by rw [List.length_take]; omega
    refine ⟨some a', zs.take len, cap, by rw [hl], by rw [hl]; omega, fun h => ?_⟩
    rw [hl] at h
    obtain ⟨b, off, rfl, hcell⟩ := ints_at hc (by omega)
    refine ⟨b, off, rfl, World.block_lt_of_cell? W _ (hcell 0 (by omega)), fun i hil => ?_⟩
    rw [hl] at hil
    rw [hcell i (by omega)]
    simp [hil]

set_option maxRecDepth 100000 in
/-- A row that reads as data: values, and their cells. -/
theorem open_vals {H : Type} {enc : TypeId × Value → H} {W : World} {fuel : Nat} {cs : List Value} {x : DataW H × List MemPlace}
    (h : DataW.trod enc Try.prog W 0 (fun _ => true) true fuel 53 cs = some x) : ∃ r : RowV, cs = [rowv r] ∧ r.2.1.length ≤ maxLen ∧ ValsIn W r.1 r.2.1 ∧ (r.1 = none → r.2.2 = 0) ∧ ∀ v ∈ r.2.1, v.2.2.size ≤ maxLen := by
  rcases open_slice Try.underlying53 h with ⟨rfl, _⟩ | ⟨a, len, cap, m, n, D, Pl, rfl, _, hlc, hcm, hm, _, hi⟩
  · exact ⟨(none, [], 0), rfl, by simp, fun h => absurd h (by simp), fun _ => rfl, by simp⟩
  · rw [if_pos rfl] at hm
    subst hm
    have ce : Try.prog.cellsOf 98 = 3 := by kernel_rfl
    have each : ∀ i, i < len → ∃ q : Val, (W.cell? (a.add (i * 3)) = some (.int .i64 q.1) ∧ W.cell? (a.add (i * 3 + 1)) = some (.int .i64 q.2.1) ∧ W.cell? (a.add (i * 3 + 2)) = some (.string q.2.2)) ∧ q.2.2.size ≤ maxLen := fun i hil => by
      obtain ⟨cs', h1, h2⟩ := hi i (by omega)
      rw [ce] at h1
      obtain ⟨_, hlen, hcell⟩ := World.cells?_some h1
      obtain ⟨ys, k, hk, _, _, hyl, hf⟩ := DataW.trod_struct Try.underlying98 h2
      match ys, hyl, cs', hlen with
      | [y0, y1, y2], _, [c0, c1, c2], _ =>
        have cI : Try.prog.cellsOf 3 = 1 := by kernel_rfl
        have cS : Try.prog.cellsOf 9 = 1 := by kernel_rfl
        have g0 : DataW.trod enc Try.prog W 0 (fun _ => true) true k 3 (([c0, c1, c2].drop 0).take (Try.prog.cellsOf 3)) = some y0 := hf 0 _ rfl
        have g1 : DataW.trod enc Try.prog W 0 (fun _ => true) true k 3 (([c0, c1, c2].drop 1).take (Try.prog.cellsOf 3)) = some y1 := hf 1 _ rfl
        have g2 : DataW.trod enc Try.prog W 0 (fun _ => true) true k 9 (([c0, c1, c2].drop 2).take (Try.prog.cellsOf 9)) = some y2 := hf 2 _ rfl
        rw [cI] at g0 g1
        rw [cS] at g2
        simp only [List.drop_zero, List.take_succ_cons, List.take_zero, List.drop_succ_cons] at g0 g1 g2
        obtain ⟨n0, e0, _, _⟩ := DataW.trod_int Try.underlying3 g0
        obtain ⟨n1, e1, _, _⟩ := DataW.trod_int Try.underlying3 g1
        obtain ⟨s2, e2, _, hs⟩ := DataW.trod_string Try.underlying9 g2
        simp only [List.cons.injEq, and_true] at e0 e1 e2
        have d0 := hcell 0 (by omega)
        have d1 := hcell 1 (by omega)
        have d2 := hcell 2 (by omega)
        rw [add_of_add] at d0 d1 d2
        subst e0 e1 e2
        exact ⟨(n0, n1, s2), ⟨by simpa using d0, by simpa using d1, by simpa using d2⟩, hs⟩
    obtain ⟨q, hq⟩ := choose_lt each
    have hl : ((List.range len).map q).length = len := by simp
    refine ⟨(some a, (List.range len).map q, m), by simp [rowv], by simp; omega, fun hp => ?_, (fun h => by cases h), fun v hv => ?_⟩
    · dsimp only at hp ⊢
      rw [hl] at hp
      obtain ⟨b, off, spot⟩ := a
      have h00 := (hq 0 hp).1.1
      have hspot : spot = none := by simpa [Addr.add] using World.cell?_spot h00
      subst hspot
      have e0 := (hq 0 hp).1.1
      rw [add_plain] at e0
      refine ⟨b, off, rfl, World.block_lt_of_cell? W _ e0, fun i hil => ?_⟩
      rw [hl] at hil
      obtain ⟨⟨c0, c1, c2⟩, _⟩ := hq i hil
      rw [add_plain] at c0 c1 c2
      have : ((List.range len).map q)[i]?.getD v0 = q i := by simp [hil]
      rw [this]
      exact ⟨c0, by rw [← Nat.add_assoc] at c1; exact c1, by rw [← Nat.add_assoc] at c2; exact c2⟩
    · simp only [List.mem_map, List.mem_range] at hv
      obtain ⟨i, hil, rfl⟩ := hv
      exact (hq i hil).2


set_option maxRecDepth 100000 in
theorem open_evs {H : Type} {enc : TypeId × Value → H} {W : World} {base : Nat} {v : Value} {d : DataW H} {ps : List MemPlace} (hval : Value.okWide Try.prog W .any base 42 v)
    (h : DataW.Trod enc Try.prog W 0 (fun _ => true) true 42 v d ps) : ∃ (p : Option Addr) (l : List EvR) (cap : Nat), v = .slice p l.length cap ∧ l.length ≤ maxLen ∧ EvsIn W p l := by
  obtain ⟨a0, len0, cap0, rfl⟩ := okWide_slice Try.underlying42 hval
  obtain ⟨fuel, hf⟩ := h
  rcases open_slice Try.underlying42 hf with ⟨hcs, _⟩ | ⟨a, len, cap, m, n, D, Pl, hcs, _, hlc, hcm, hm, _, hi⟩
  · simp only [Value.cells, List.cons.injEq, and_true, Value.slice.injEq] at hcs
    obtain ⟨rfl, rfl, rfl⟩ := hcs
    exact ⟨none, [], 0, rfl, by simp, fun h => absurd h (by simp)⟩
  · simp only [Value.cells, List.cons.injEq, and_true, Value.slice.injEq] at hcs
    obtain ⟨rfl, rfl, rfl⟩ := hcs
    rw [if_pos rfl] at hm
    subst hm
    have ce : Try.prog.cellsOf 55 = 2 := by kernel_rfl
    have each : ∀ i, i < len0 → ∃ q : EvR, W.cell? (a.add (i * 2)) = some (.int .i64 q.1) ∧ W.cell? (a.add (i * 2 + 1)) = some (rowv q.2) ∧ EvOK W q := fun i hil => by
      obtain ⟨cs', h1, h2⟩ := hi i (by omega)
      rw [ce] at h1
      obtain ⟨_, hlen, hcell⟩ := World.cells?_some h1
      obtain ⟨ys, k, hk, _, _, hyl, hf⟩ := DataW.trod_struct Try.underlying55 h2
      match ys, hyl, cs', hlen with
      | [y0, y1], _, [c0, c1], _ =>
        have cI : Try.prog.cellsOf 3 = 1 := by kernel_rfl
        have cR : Try.prog.cellsOf 53 = 1 := by kernel_rfl
        have g0 : DataW.trod enc Try.prog W 0 (fun _ => true) true k 3 (([c0, c1].drop 0).take (Try.prog.cellsOf 3)) = some y0 := hf 0 _ rfl
        have g1 : DataW.trod enc Try.prog W 0 (fun _ => true) true k 53 (([c0, c1].drop 1).take (Try.prog.cellsOf 53)) = some y1 := hf 1 _ rfl
        rw [cI] at g0
        rw [cR] at g1
        simp only [List.drop_zero, List.take_succ_cons, List.take_zero, List.drop_succ_cons] at g0 g1
        obtain ⟨n0, e0, _, _⟩ := DataW.trod_int Try.underlying3 g0
        obtain ⟨r, e1, hrl, hrv, hrz, _⟩ := open_vals g1
        simp only [List.cons.injEq, and_true] at e0 e1
        have d0 := hcell 0 (by omega)
        have d1 := hcell 1 (by omega)
        rw [add_of_add] at d0 d1
        subst e0 e1
        exact ⟨(n0, r), by simpa using d0, by simpa using d1, ⟨Nat.le_trans hrl (by decide), hrv⟩, hrz⟩
    obtain ⟨q, hq⟩ := choose_lt each
    have hl : ((List.range len0).map q).length = len0 := by simp
    refine ⟨some a, (List.range len0).map q, m, by rw [hl], by rw [hl]; omega, fun hp => ?_⟩
    rw [hl] at hp
    obtain ⟨b, off, spot⟩ := a
    have h00 := (hq 0 hp).1
    have hspot : spot = none := by simpa [Addr.add] using World.cell?_spot h00
    subst hspot
    have e0 := (hq 0 hp).1
    rw [add_plain] at e0
    refine ⟨b, off, rfl, World.block_lt_of_cell? W _ e0, fun i hil => ?_⟩
    rw [hl] at hil
    obtain ⟨c0, c1, c2⟩ := hq i hil
    rw [add_plain] at c0 c1
    have : ((List.range len0).map q)[i]?.getD er0 = q i := by simp [hil]
    rw [this]
    exact ⟨c0, by rw [← Nat.add_assoc] at c1; exact c1, c2⟩
set_option maxRecDepth 100000 in
theorem open_two {w : World} {r : Reach} {b : Nat} {v : Value} (h : Value.okWide Try.prog w r b 43 v) : ∃ x y : Int, v = .agg #[.int .i64 x, .int .i64 y] := by
  obtain ⟨ns, hl, rfl⟩ := open_nums_array (n := 2) (ti := 3) Try.underlying43 (by kernel_rfl) (by kernel_rfl) Try.underlying3 h
  match ns, hl with
  | [x, y], _ => exact ⟨x, y, rfl⟩
end Go.Proofs.Ytmnbcofonhlplaa
