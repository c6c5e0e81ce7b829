/-
  Several texts in one.
-/
import Derived.Test.YtledgnolmiecfaaGreatDoorChecked
import Derived.Test.YtledgnolmiecfaaGreatDoorLong
import Derived.ProofKit
import Derived.OpenShut
import Derived.Carry
import Derived.Deep.Slices
import Derived.ChangeSame
import Derived.Test.YtledgnolmiecfaaGreatDoorSameB
/-!
  From a walk to the row of a statement; arguments that are rows, opened to values and cells.
-/
namespace Go.Proofs.YtledgnolmiecfaaGreatDoor
open Go.ChangeShapes Go.WideShapes Go.ChangeAt Go.RowKit Go.Deep
set_option linter.unusedSimpArgs false

theorem own : ownKnob Tryz.prog.godebug = none := by kernel_rfl
theorem laidOut : laidOutB Tryz.prog = true := by kernel_rfl

/-- Arguments read afterwards as before, whatever their types, where all that was there lies as it lay. -/
theorem trodAll_below {H : Type} {enc : TypeId × Value → H} {P : Program} (hl : laidOutB P = true) {W W' : World} (hb : Below W.heap.size W W') : ∀ {ts : List TypeId} {vs : List Value} {ds : List (DataW H)} {ps : List MemPlace},
    (∀ t ∈ ts, P.readableRec t = true ∧ t < P.types.size) → DataW.TrodAll enc P W 0 (fun _ => true) true ts vs ds ps → (∀ x ∈ ps, x.block < W.heap.size) →
    DataW.TrodAll enc P W' 0 (fun b => decide (b < W.heap.size)) true ts vs ds ps
  | [], _, _, _, _, h, _ => by
    obtain ⟨rfl, rfl, rfl⟩ := trodAll_nil h
    exact trodAll_mk0
  | t :: ts, _, _, _, ht, h, hlt => by
    obtain ⟨v, vs, d, ds, p, q, rfl, rfl, rfl, h1, h2⟩ := trodAll_cons h
    refine trodAll_cons_mk (Below.trod hl (ht t (by simp)).1 (ht t (by simp)).2 h1 hb fun x hx => hlt x (by simp [hx])) ?_
    exact trodAll_below hl hb (fun t h => ht t (by simp [h])) h2 fun x hx => hlt x (by simp [hx])

theorem add_of_add (a : Addr) (i j : Nat) : (a.add i).add j = a.add (i + j) := by
  unfold Addr.add
  by_cases hi : i = 0 <;> by_cases hj : j = 0 <;> simp [hi, hj, Nat.add_assoc]

set_option maxRecDepth 100000 in
/-- A row that reads as data: values, and their cells. -/
theorem open_vals {H : Type} {enc : TypeId × Value → H} {W : World} {fuel : Nat} {cs : List Value} {x : DataW H × List MemPlace}
    (h : DataW.trod enc Tryz.prog W 0 (fun _ => true) true fuel 36 cs = some x) : ∃ r : RowV, cs = [rowv r] ∧ r.2.1.length ≤ maxLen ∧ ValsIn W r.1 r.2.1 ∧ (r.1 = none → r.2.2 = 0) ∧ ∀ v ∈ r.2.1, v.2.2.size ≤ maxLen := by
  rcases open_slice Tryz.underlying36 h with ⟨rfl, _⟩ | ⟨a, len, cap, m, n, D, Pl, rfl, _, hlc, hcm, hm, _, hi⟩
  · exact ⟨(none, [], 0), rfl, by simp, fun h => absurd h (by simp), fun _ => rfl, by simp⟩
  · rw [if_pos rfl] at hm
    subst hm
    have ce : Tryz.prog.cellsOf 40 = 3 := by kernel_rfl
    have each : ∀ i, i < len → ∃ q : Val, (W.cell? (a.add (i * 3)) = some (.int .i64 q.1) ∧ W.cell? (a.add (i * 3 + 1)) = some (.int .i64 q.2.1) ∧ W.cell? (a.add (i * 3 + 2)) = some (.string q.2.2)) ∧ q.2.2.size ≤ maxLen := fun i hil => by
      obtain ⟨cs', h1, h2⟩ := hi i (by omega)
      rw [ce] at h1
      obtain ⟨_, hlen, hcell⟩ := World.cells?_some h1
      obtain ⟨ys, k, hk, _, _, hyl, hf⟩ := DataW.trod_struct Tryz.underlying40 h2
      match ys, hyl, cs', hlen with
      | [y0, y1, y2], _, [c0, c1, c2], _ =>
        have cI : Tryz.prog.cellsOf 3 = 1 := by kernel_rfl
        have cS : Tryz.prog.cellsOf 9 = 1 := by kernel_rfl
        have g0 : DataW.trod enc Tryz.prog W 0 (fun _ => true) true k 3 (([c0, c1, c2].drop 0).take (Tryz.prog.cellsOf 3)) = some y0 := hf 0 _ rfl
        have g1 : DataW.trod enc Tryz.prog W 0 (fun _ => true) true k 3 (([c0, c1, c2].drop 1).take (Tryz.prog.cellsOf 3)) = some y1 := hf 1 _ rfl
        have g2 : DataW.trod enc Tryz.prog W 0 (fun _ => true) true k 9 (([c0, c1, c2].drop 2).take (Tryz.prog.cellsOf 9)) = some y2 := hf 2 _ rfl
        rw [cI] at g0 g1
        rw [cS] at g2
        simp only [List.drop_zero, List.take_succ_cons, List.take_zero, List.drop_succ_cons] at g0 g1 g2
        obtain ⟨n0, e0, _, _⟩ := DataW.trod_int Tryz.underlying3 g0
        obtain ⟨n1, e1, _, _⟩ := DataW.trod_int Tryz.underlying3 g1
        obtain ⟨s2, e2, _, hs⟩ := DataW.trod_string Tryz.underlying9 g2
        simp only [List.cons.injEq, and_true] at e0 e1 e2
        have d0 := hcell 0 (by omega)
        have d1 := hcell 1 (by omega)
        have d2 := hcell 2 (by omega)
        rw [add_of_add] at d0 d1 d2
        subst e0 e1 e2
        exact ⟨(n0, n1, s2), ⟨by simpa using d0, by simpa using d1, by simpa using d2⟩, hs⟩
    obtain ⟨q, hq⟩ := choose_lt each
    have hl : ((List.range len).map q).length = len := by simp
    refine ⟨(some a, (List.range len).map q, m), by simp [rowv], by simp; omega, fun hp => ?_, (fun h => by cases h), fun v hv => ?_⟩
    · dsimp only at hp ⊢
      rw [hl] at hp
      obtain ⟨b, off, spot⟩ := a
      have h00 := (hq 0 hp).1.1
      have hspot : spot = none := by simpa [Addr.add] using World.cell?_spot h00
      subst hspot
      have e0 := (hq 0 hp).1.1
      rw [add_plain] at e0
      refine ⟨b, off, rfl, World.block_lt_of_cell? W _ e0, fun i hil => ?_⟩
      rw [hl] at hil
      obtain ⟨⟨c0, c1, c2⟩, _⟩ := hq i hil
      rw [add_plain] at c0 c1 c2
      have : ((List.range len).map q)[i]?.getD v0 = q i := by simp [hil]
      rw [this]
      exact ⟨c0, by rw [← Nat.add_assoc] at c1; exact c1, by rw [← Nat.add_assoc] at c2; exact c2⟩
    · simp only [List.mem_map, List.mem_range] at hv
      obtain ⟨i, hil, rfl⟩ := hv
      exact (hq i hil).2

set_option maxRecDepth 100000 in
/-- .. as an argument. -/
theorem open_row {H : Type} {enc : TypeId × Value → H} {W : World} {base : Nat} {v : Value} {d : DataW H} {ps : List MemPlace} (hval : Value.okWide Tryz.prog W .any base 36 v)
    (h : DataW.Trod enc Tryz.prog W 0 (fun _ => true) true 36 v d ps) : ∃ r : RowV, v = rowv r ∧ RowOK W r ∧ (r.1 = none → r.2.2 = 0) ∧ ∀ v ∈ r.2.1, v.2.2.size ≤ maxLen := by
  obtain ⟨a, len, cap, rfl⟩ := okWide_slice Tryz.underlying36 hval
  obtain ⟨fuel, hf⟩ := h
  obtain ⟨r, hr, hl, hX, hz, hs⟩ := open_vals hf
  simp only [Value.cells, List.cons.injEq, and_true] at hr
  exact ⟨r, hr, ⟨Nat.le_trans hl (by decide), hX⟩, hz, hs⟩
end Go.Proofs.YtledgnolmiecfaaGreatDoor

/-!
  Arguments that are bags, opened to items and cells.
-/
namespace Go.Proofs.YtledgnolmiecfaaGreatDoor
open Go.ChangeShapes Go.WideShapes Go.ChangeAt Go.RowKit Go.Deep

set_option maxRecDepth 100000 in
/-- A bag that reads as data: items, and their cells. -/
theorem open_items {H : Type} {enc : TypeId × Value → H} {W : World} {fuel : Nat} {cs : List Value} {x : DataW H × List MemPlace}
    (h : DataW.trod enc Tryz.prog W 0 (fun _ => true) true fuel 23 cs = some x) : ∃ b : BagV, cs = [bagv b] ∧ BagOK W b ∧ (b.1 = none → b.2.2 = 0) := by
  rcases open_slice Tryz.underlying23 h with ⟨rfl, _⟩ | ⟨a, len, cap, m, n, D, Pl, rfl, _, hlc, hcm, hm, _, hi⟩
  · exact ⟨(none, [], 0), rfl, ⟨by simp, by simp, fun h => absurd h (by simp)⟩, fun _ => rfl⟩
  · rw [if_pos rfl] at hm
    subst hm
    have ce : Tryz.prog.cellsOf 38 = 2 := by kernel_rfl
    have each : ∀ i, i < len → ∃ q : ItR, W.cell? (a.add (i * 2)) = some (rowv q.1) ∧ W.cell? (a.add (i * 2 + 1)) = some (.int .i64 q.2) ∧ RowOK W q.1 ∧ (q.1.1 = none → q.1.2.2 = 0) := fun i hil => by
      obtain ⟨cs', h1, h2⟩ := hi i (by omega)
      rw [ce] at h1
      obtain ⟨_, hlen, hcell⟩ := World.cells?_some h1
      obtain ⟨ys, k, hk, _, _, hyl, hf⟩ := DataW.trod_struct Tryz.underlying38 h2
      match ys, hyl, cs', hlen with
      | [y0, y1], _, [c0, c1], _ =>
        have cI : Tryz.prog.cellsOf 3 = 1 := by kernel_rfl
        have cR : Tryz.prog.cellsOf 36 = 1 := by kernel_rfl
        have g0 : DataW.trod enc Tryz.prog W 0 (fun _ => true) true k 36 (([c0, c1].drop 0).take (Tryz.prog.cellsOf 36)) = some y0 := hf 0 _ rfl
        have g1 : DataW.trod enc Tryz.prog W 0 (fun _ => true) true k 3 (([c0, c1].drop 1).take (Tryz.prog.cellsOf 3)) = some y1 := hf 1 _ rfl
        rw [cR] at g0
        rw [cI] at g1
        simp only [List.drop_zero, List.take_succ_cons, List.take_zero, List.drop_succ_cons] at g0 g1
        obtain ⟨r, e0, hrl, hrv, hrz, _⟩ := open_vals g0
        obtain ⟨n1, e1, _, _⟩ := DataW.trod_int Tryz.underlying3 g1
        simp only [List.cons.injEq, and_true] at e0 e1
        have d0 := hcell 0 (by omega)
        have d1 := hcell 1 (by omega)
        rw [add_of_add] at d0 d1
        subst e0 e1
        exact ⟨(r, n1), by simpa using d0, by simpa using d1, ⟨Nat.le_trans hrl (by decide), hrv⟩, hrz⟩
    obtain ⟨q, hq⟩ := choose_lt each
    have hl : ((List.range len).map q).length = len := by simp
    refine ⟨(some a, (List.range len).map q, m), by simp [bagv], ⟨by simp; unfold maxLen at *; omega, by simp; omega, fun hp => ?_⟩, fun e => by cases e⟩
    · dsimp only at hp ⊢
      rw [hl] at hp
      obtain ⟨b, off, spot⟩ := a
      have h00 := (hq 0 hp).1
      have hspot : spot = none := by simpa [Addr.add] using World.cell?_spot h00
      subst hspot
      have e0 := (hq 0 hp).1
      rw [add_plain] at e0
      refine ⟨b, off, rfl, World.block_lt_of_cell? W _ e0, fun i hil => ?_⟩
      rw [hl] at hil
      obtain ⟨c0, c1, c2, c3⟩ := hq i hil
      rw [add_plain] at c0 c1
      have : ((List.range len).map q)[i]?.getD ir0 = q i := by simp [hil]
      rw [this]
      exact ⟨c0, by rw [← Nat.add_assoc] at c1; exact c1, c2, c3⟩

set_option maxRecDepth 100000 in
/-- .. as an argument. -/
theorem open_bag {H : Type} {enc : TypeId × Value → H} {W : World} {base : Nat} {v : Value} {d : DataW H} {ps : List MemPlace} (hval : Value.okWide Tryz.prog W .any base 23 v)
    (h : DataW.Trod enc Tryz.prog W 0 (fun _ => true) true 23 v d ps) : ∃ b : BagV, v = bagv b ∧ BagOK W b ∧ (b.1 = none → b.2.2 = 0) := by
  obtain ⟨a, len, cap, rfl⟩ := okWide_slice Tryz.underlying23 hval
  obtain ⟨fuel, hf⟩ := h
  obtain ⟨b, hb, hok⟩ := open_items hf
  simp only [Value.cells, List.cons.injEq, and_true] at hb
  exact ⟨b, hb, hok⟩
end Go.Proofs.YtledgnolmiecfaaGreatDoor

