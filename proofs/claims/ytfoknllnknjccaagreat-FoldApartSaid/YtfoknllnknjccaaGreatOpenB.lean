/-
  Arguments that are bags, opened to items and cells.
-/
import Derived.Test.YtfoknllnknjccaaGreatOpenR
import Derived.Test.YtfoknllnknjccaaGreatSameB
namespace Go.Proofs.YtfoknllnknjccaaGreat
open Go.ChangeShapes Go.WideShapes Go.ChangeAt Go.RowKit Go.Deep

set_option maxRecDepth 100000 in
/-- A bag that reads as data: items, and their cells. -/
theorem open_items {H : Type} {enc : TypeId × Value → H} {W : World} {fuel : Nat} {cs : List Value} {x : DataW H × List MemPlace}
    (h : DataW.trod enc Tryz.prog W 0 (fun _ => true) true fuel 47 cs = some x) : ∃ b : BagV, cs = [bagv b] ∧ BagOK W b ∧ (b.1 = none → b.2.2 = 0) := by
  rcases open_slice Tryz.underlying47 h with ⟨rfl, _⟩ | ⟨a, len, cap, m, n, D, Pl, rfl, _, hlc, hcm, hm, _, hi⟩
  · exact ⟨(none, [], 0), rfl, ⟨by simp, by simp, fun h => absurd h (by simp)⟩, fun _ => rfl⟩
  · rw [if_pos rfl] at hm
    subst hm
    have ce : Tryz.prog.cellsOf 53 = 2 := by kernel_rfl
    have each : ∀ i, i < len → ∃ q : ItR, W.cell? (a.add (i * 2)) = some (rowv q.1) ∧ W.cell? (a.add (i * 2 + 1)) = some (.int .i64 q.2) ∧ RowOK W q.1 ∧ (q.1.1 = none → q.1.2.2 = 0) := fun i hil => by
      obtain ⟨cs', h1, h2⟩ := hi i (by omega)
      rw [ce] at h1
      obtain ⟨_, hlen, hcell⟩ := World.cells?_some h1
      obtain ⟨ys, k, hk, _, _, hyl, hf⟩ := DataW.trod_struct Tryz.underlying53 h2
      match ys, hyl, cs', hlen with
      | [y0, y1], _, [c0, c1], _ =>
        have cI : Tryz.prog.cellsOf 3 = 1 := by kernel_rfl
        have cR : Tryz.prog.cellsOf 34 = 1 := by kernel_rfl
        have g0 : DataW.trod enc Tryz.prog W 0 (fun _ => true) true k 34 (([c0, c1].drop 0).take (Tryz.prog.cellsOf 34)) = some y0 := hf 0 _ rfl
        have g1 : DataW.trod enc Tryz.prog W 0 (fun _ => true) true k 3 (([c0, c1].drop 1).take (Tryz.prog.cellsOf 3)) = some y1 := hf 1 _ rfl
        rw [cR] at g0
        rw [cI] at g1
        simp only [List.drop_zero, List.take_succ_cons, List.take_zero, List.drop_succ_cons] at g0 g1
        obtain ⟨r, e0, hrl, hrv, hrz, _⟩ := open_vals g0
        obtain ⟨n1, e1, _, _⟩ := DataW.trod_int Tryz.underlying3 g1
        simp only [List.cons.injEq, and_true] at e0 e1
        have d0 := hcell 0 (by omega)
        have d1 := hcell 1 (by omega)
        rw [add_of_add] at d0 d1
        subst e0 e1
        exact ⟨(r, n1), by simpa using d0, by simpa using d1, ⟨Nat.le_trans hrl (by decide), hrv⟩, hrz⟩
    obtain ⟨q, hq⟩ := choose_lt each
    have hl : ((List.range len).map q).length = len := by simp
    refine ⟨(some a, (List.range len).map q, m), by simp [bagv], ⟨by simp; unfold maxLen at *; omega, by simp; omega, fun hp => ?_⟩, fun e => by cases e⟩
    · dsimp only at hp ⊢
      rw [hl] at hp
      obtain ⟨b, off, spot⟩ := a
      have h00 := (hq 0 hp).1
      have hspot : spot = none := by simpa [Addr.add] using World.cell?_spot h00
      subst hspot
      have e0 := (hq 0 hp).1
      rw [add_plain] at e0
      refine ⟨b, off, rfl, World.block_lt_of_cell? W _ e0, fun i hil => ?_⟩
      rw [hl] at hil
      obtain ⟨c0, c1, c2, c3⟩ := hq i hil
      rw [add_plain] at c0 c1
      have : ((List.range len).map q)[i]?.getD ir0 = q i := by simp [hil]
      rw [this]
      exact ⟨c0, by rw [← Nat.add_assoc] at c1; exact c1, c2, c3⟩

set_option maxRecDepth 100000 in
/-- .. as an argument. -/
theorem open_bag {H : Type} {enc : TypeId × Value → H} {W : World} {base : Nat} {v : Value} {d : DataW H} {ps : List MemPlace} (hval : Value.okWide Tryz.prog W .any base 47 v)
    (h : DataW.Trod enc Tryz.prog W 0 (fun _ => true) true 47 v d ps) : ∃ b : BagV, v = bagv b ∧ BagOK W b ∧ (b.1 = none → b.2.2 = 0) := by
  obtain ⟨a, len, cap, rfl⟩ := okWide_slice Tryz.underlying47 hval
  obtain ⟨fuel, hf⟩ := h
  obtain ⟨b, hb, hok⟩ := open_items hf
  simp only [Value.cells, List.cons.injEq, and_true] at hb
  exact ⟨b, hb, hok⟩
#print axioms open_bag
end Go.Proofs.YtfoknllnknjccaaGreat
