/-
  FewChanges, as a contract; an argument that is a list of changes, opened.
-/
import Derived.Test.YthoimepdioeckaaGreatDoorFewC
namespace Go.Proofs.YthoimepdioeckaaGreatDoor
open Go.ChangeShapes Go.WideShapes Go.ChangeAt Go.RowKit Go.Deep

set_option maxRecDepth 100000 in
set_option maxHeartbeats 1000000 in
theorem FewCs_any (p : Option Addr) (cs : List ChR) (c : Nat) (hm : cs.length ≤ 9223372036854775807) (w : World) (hX : ChgIn w p cs) :
    Calls Tryz.prog 9 #[.slice p cs.length c] w (AnyBool w) := by
  have HX := Lib.hid hX
  clear hX
  go_enter Tryz.func9, Tryz.ntmps9
  go_wp2_with fail
  go_loopw [3] (fun s wr => ∃ i : Nat, s = .int .i64 i ∧ i ≤ cs.length ∧ Below w.heap.size w wr) (fun s _ => cs.length - (intOf s).toNat)
  case atStart => exact ⟨0, rfl, by omega, Below.refl _ _⟩
  case round =>
    obtain ⟨i, rfl, hi, hBw⟩ := hrel
    by_cases hlt : i < cs.length
    · obtain ⟨b, off, rfl, hbl, hra⟩ := HX.out (by omega)
      obtain ⟨_, d0, _, d2, _⟩ := (hra.belowV hBw hbl) i hlt
      have hi0 : (0 : Int) ≤ (i : Int) := by omega
      have hi1 : (i : Int) < (cs.length : Int) := by omega
      clear hra
      generalize cs[i]?.getD cr0 = r at d0 d2
      obtain ⟨t, ⟨q, xs, qc⟩, n⟩ := r
      dsimp only [rowv] at *
      have hbA : Below wr.heap.size wr (wr.alloc (.cells #[.slice q xs.length qc] 38)) := (Below.refl _ _).alloc (Nat.le_refl _) _
      have HL := Lib.hid (Long_any (some ⟨wr.heap.size, 0, none⟩) [(q, xs, qc)] 1 (by simp) (wr.alloc (.cells #[.slice q xs.length qc] 38)) (fun _ => ⟨wr.heap.size, 0, rfl, by simp, fun j hj => by
        have hj0 : j = 0 := by simp at hj; omega
        subst hj0
        exact ⟨(Blk.new wr 38 #[.slice q xs.length qc]).cell 0, d2.1, (d2.belowV hbA).2⟩⟩))
      have hBs := hBw.size
      have hBA : Below w.heap.size w (wr.alloc (.cells #[.slice q xs.length qc] 38)) := hBw.trans (hbA.mono hBs)
      clear d2
      go_wp2_with fail
      refine HL.out.mono ?_
      rintro e w1 ⟨bl, rfl, rfl⟩
      cases bl with
      | true =>
        go_wp2_with fail
        go_ret
        exact ⟨false, rfl, hBA⟩
      | false =>
        go_wp2_with fail
        go_roundw
        case rel => exact ⟨i + 1, by go_num, by omega, hBA⟩
        case measure => simp [intOf]; omega
    · have hge : (cs.length : Int) ≤ (i : Int) := by omega
      go_wp2_with fail
      go_ret
      exact ⟨_, rfl, hBw⟩

abbrev ChsV := Option Addr × List ChR × Nat
def chsv (b : ChsV) : Value := .slice b.1 b.2.1.length b.2.2
def ChsOK (W : World) (b : ChsV) : Prop := b.2.1.length ≤ 9223372036854775807 ∧ b.2.1.length ≤ b.2.2 ∧ ChgIn W b.1 b.2.1
theorem ChsOK.belowV {W W' : World} {b : ChsV} (h : ChsOK W b) (hb : Below W.heap.size W W') : ChsOK W' b := ⟨h.1, h.2.1, h.2.2.belowV hb⟩
set_option maxRecDepth 100000 in
theorem open_chgs {H : Type} {enc : TypeId × Value → H} {W : World} {fuel : Nat} {cs : List Value} {x : DataW H × List MemPlace}
    (h : DataW.trod enc Tryz.prog W 0 (fun _ => true) true fuel 24 cs = some x) : ∃ b : ChsV, cs = [chsv b] ∧ ChsOK W b ∧ (b.1 = none → b.2.2 = 0) := by
  rcases open_slice Tryz.underlying24 h with ⟨rfl, _⟩ | ⟨a, len, cap, m, n, D, Pl, rfl, _, hlc, hcm, hm, _, hi⟩
  · exact ⟨(none, [], 0), rfl, ⟨by simp, by simp, fun h => absurd h (by simp)⟩, fun _ => rfl⟩
  · rw [if_pos rfl] at hm
    subst hm
    have ce : Tryz.prog.cellsOf 40 = 3 := by kernel_rfl
    have each : ∀ i, i < len → ∃ q : ChR, W.cell? (a.add (i * 3)) = some (.int .i64 q.1) ∧ W.cell? (a.add (i * 3 + 1)) = some (rowv q.2.1) ∧ W.cell? (a.add (i * 3 + 2)) = some (.int .i64 q.2.2) ∧ RowOK W q.2.1 ∧ (q.2.1.1 = none → q.2.1.2.2 = 0) := fun i hil => by
      obtain ⟨cs', h1, h2⟩ := hi i (by omega)
      rw [ce] at h1
      obtain ⟨_, hlen, hcell⟩ := World.cells?_some h1
      obtain ⟨ys, k, hk, _, _, hyl, hf⟩ := DataW.trod_struct Tryz.underlying40 h2
      match ys, hyl, cs', hlen with
      | [y0, y1, y2], _, [c0, c1, c2], _ =>
        have cI : Tryz.prog.cellsOf 3 = 1 := by kernel_rfl
        have cR : Tryz.prog.cellsOf 38 = 1 := by kernel_rfl
        have g0 : DataW.trod enc Tryz.prog W 0 (fun _ => true) true k 3 (([c0, c1, c2].drop 0).take (Tryz.prog.cellsOf 3)) = some y0 := hf 0 _ rfl
        have g1 : DataW.trod enc Tryz.prog W 0 (fun _ => true) true k 38 (([c0, c1, c2].drop 1).take (Tryz.prog.cellsOf 38)) = some y1 := hf 1 _ rfl
        have g2 : DataW.trod enc Tryz.prog W 0 (fun _ => true) true k 3 (([c0, c1, c2].drop 2).take (Tryz.prog.cellsOf 3)) = some y2 := hf 2 _ rfl
        rw [cR] at g1
        rw [cI] at g0 g2
        simp only [List.drop_zero, List.take_succ_cons, List.take_zero, List.drop_succ_cons] at g0 g1 g2
        obtain ⟨n0, e0, _, _⟩ := DataW.trod_int Tryz.underlying3 g0
        obtain ⟨r, e1, hrl, hrv, hrz, _⟩ := open_vals g1
        obtain ⟨n2, e2, _, _⟩ := DataW.trod_int Tryz.underlying3 g2
        simp only [List.cons.injEq, and_true] at e0 e1 e2
        have d0 := hcell 0 (by omega)
        have d1 := hcell 1 (by omega)
        have d2 := hcell 2 (by omega)
        rw [add_of_add] at d0 d1 d2
        subst e0 e1 e2
        exact ⟨(n0, r, n2), by simpa using d0, by simpa using d1, by simpa using d2, ⟨Nat.le_trans hrl (by decide), hrv⟩, hrz⟩
    obtain ⟨q, hq⟩ := choose_lt each
    have hl : ((List.range len).map q).length = len := by simp
    refine ⟨(some a, (List.range len).map q, m), by simp [chsv], ⟨by simp; unfold maxLen at *; omega, by simp; omega, fun hp => ?_⟩, fun e => by cases e⟩
    · dsimp only at hp ⊢
      rw [hl] at hp
      obtain ⟨b, off, spot⟩ := a
      have h00 := (hq 0 hp).1
      have hspot : spot = none := by simpa [Addr.add] using World.cell?_spot h00
      subst hspot
      have e0 := (hq 0 hp).1
      rw [add_plain] at e0
      refine ⟨b, off, rfl, World.block_lt_of_cell? W _ e0, fun i hil => ?_⟩
      rw [hl] at hil
      obtain ⟨c0, c1, c2, c3, c4⟩ := hq i hil
      rw [add_plain] at c0 c1 c2
      have : ((List.range len).map q)[i]?.getD cr0 = q i := by simp [hil]
      rw [this]
      exact ⟨c0, by rw [← Nat.add_assoc] at c1; exact c1, by rw [← Nat.add_assoc] at c2; exact c2, c3, c4⟩
set_option maxRecDepth 100000 in
theorem open_changes {H : Type} {enc : TypeId × Value → H} {W : World} {base : Nat} {v : Value} {d : DataW H} {ps : List MemPlace} (hval : Value.okWide Tryz.prog W .any base 24 v)
    (h : DataW.Trod enc Tryz.prog W 0 (fun _ => true) true 24 v d ps) : ∃ b : ChsV, v = chsv b ∧ ChsOK W b ∧ (b.1 = none → b.2.2 = 0) := by
  obtain ⟨a, len, cap, rfl⟩ := okWide_slice Tryz.underlying24 hval
  obtain ⟨fuel, hf⟩ := h
  obtain ⟨b, hb, hok⟩ := open_chgs hf
  simp only [Value.cells, List.cons.injEq, and_true] at hb
  exact ⟨b, hb, hok⟩
#print axioms open_changes
end Go.Proofs.YthoimepdioeckaaGreatDoor
