/-
  Arguments that are calls of Add: opened to rows and numbers, and what they sum up to.
  Whether calls can be looked at.
-/
import Derived.Test.YtfoknllnknjccaaGreatAddM
import Derived.Test.YtfoknllnknjccaaGreatOpenB
import Derived.Test.YtfoknllnknjccaaGreatBasA
import Derived.WalkSpells
namespace Go.Proofs.YtfoknllnknjccaaGreat
open Go.ChangeShapes Go.WideShapes Go.ChangeAt Go.RowKit Go.Deep

/-- A kind, a number, a row. -/
abbrev ActR := Int × Int × RowV
abbrev ac0 : ActR := (0, 0, (none, [], 0))
def ActsIn (W : World) (p : Option Addr) (l : List ActR) : Prop :=
  0 < l.length → ∃ b off, p = some ⟨b, off, none⟩ ∧ b < W.heap.size ∧ ∀ i, i < l.length →
    W.cell? ⟨b, off + i * 3 + 1, none⟩ = some (.int .i64 (l[i]?.getD ac0).2.1) ∧ W.cell? ⟨b, off + i * 3 + 2, none⟩ = some (rowv (l[i]?.getD ac0).2.2) ∧ RowOK W (l[i]?.getD ac0).2.2 ∧ ((l[i]?.getD ac0).2.2.1 = none → (l[i]?.getD ac0).2.2.2.2 = 0)
theorem ActsIn.belowV {p : Option Addr} {W W' : World} {l : List ActR} (h : ActsIn W p l) (hb : Below W.heap.size W W') : ActsIn W' p l := fun hp => by
  obtain ⟨b, off, e, hl, hr⟩ := h hp
  refine ⟨b, off, e, Nat.lt_of_lt_of_le hl hb.size, fun i hi => ?_⟩
  obtain ⟨c1, c2, c3, c4⟩ := hr i hi
  exact ⟨(hb.cell (p := ⟨b, off + i * 3 + 1, none⟩) hl).trans c1, (hb.cell (p := ⟨b, off + i * 3 + 2, none⟩) hl).trans c2, c3.belowV hb, c4⟩

set_option maxRecDepth 100000 in
theorem open_acts {H : Type} {enc : TypeId × Value → H} {W : World} {base : Nat} {v : Value} {d : DataW H} {ps : List MemPlace} (hval : Value.okWide Tryz.prog W .any base 23 v)
    (h : DataW.Trod enc Tryz.prog W 0 (fun _ => true) true 23 v d ps) : ∃ (p : Option Addr) (l : List ActR) (cap : Nat), v = .slice p l.length cap ∧ l.length ≤ maxLen ∧ ActsIn W p l := by
  obtain ⟨a0, len0, cap0, rfl⟩ := okWide_slice Tryz.underlying23 hval
  obtain ⟨fuel, hf⟩ := h
  rcases open_slice Tryz.underlying23 hf with ⟨hcs, _⟩ | ⟨a, len, cap, m, n, D, Pl, hcs, _, hlc, hcm, hm, _, hi⟩
  · simp only [Value.cells, List.cons.injEq, and_true, Value.slice.injEq] at hcs
    obtain ⟨rfl, rfl, rfl⟩ := hcs
    exact ⟨none, [], 0, rfl, by simp, fun h => absurd h (by simp)⟩
  · simp only [Value.cells, List.cons.injEq, and_true, Value.slice.injEq] at hcs
    obtain ⟨rfl, rfl, rfl⟩ := hcs
    rw [if_pos rfl] at hm
    subst hm
    have ce : Tryz.prog.cellsOf 36 = 3 := by kernel_rfl
    have each : ∀ i, i < len0 → ∃ q : ActR, W.cell? (a.add (i * 3)) = some (.int .i64 q.1) ∧ W.cell? (a.add (i * 3 + 1)) = some (.int .i64 q.2.1) ∧ W.cell? (a.add (i * 3 + 2)) = some (rowv q.2.2) ∧ RowOK W q.2.2 ∧ (q.2.2.1 = none → q.2.2.2.2 = 0) := fun i hil => by
      obtain ⟨cs', h1, h2⟩ := hi i (by omega)
      rw [ce] at h1
      obtain ⟨_, hlen, hcell⟩ := World.cells?_some h1
      obtain ⟨ys, k, hk, _, _, hyl, hf⟩ := DataW.trod_struct Tryz.underlying36 h2
      match ys, hyl, cs', hlen with
      | [y0, y1, y2], _, [c0, c1, c2], _ =>
        have cI : Tryz.prog.cellsOf 3 = 1 := by kernel_rfl
        have cR : Tryz.prog.cellsOf 34 = 1 := by kernel_rfl
        have g0 : DataW.trod enc Tryz.prog W 0 (fun _ => true) true k 3 (([c0, c1, c2].drop 0).take (Tryz.prog.cellsOf 3)) = some y0 := hf 0 _ rfl
        have g1 : DataW.trod enc Tryz.prog W 0 (fun _ => true) true k 3 (([c0, c1, c2].drop 1).take (Tryz.prog.cellsOf 3)) = some y1 := hf 1 _ rfl
        have g2 : DataW.trod enc Tryz.prog W 0 (fun _ => true) true k 34 (([c0, c1, c2].drop 2).take (Tryz.prog.cellsOf 34)) = some y2 := hf 2 _ rfl
        rw [cI] at g0 g1
        rw [cR] at g2
        simp only [List.drop_zero, List.take_succ_cons, List.take_zero, List.drop_succ_cons] at g0 g1 g2
        obtain ⟨n0, e0, _, _⟩ := DataW.trod_int Tryz.underlying3 g0
        obtain ⟨n1, e1, _, _⟩ := DataW.trod_int Tryz.underlying3 g1
        obtain ⟨r, e2, hrl, hrv, hrz, _⟩ := open_vals g2
        simp only [List.cons.injEq, and_true] at e0 e1 e2
        have d0 := hcell 0 (by omega)
        have d1 := hcell 1 (by omega)
        have d2 := hcell 2 (by omega)
        rw [add_of_add] at d0 d1 d2
        subst e0 e1 e2
        exact ⟨(n0, n1, r), by simpa using d0, by simpa using d1, by simpa using d2, ⟨Nat.le_trans hrl (by decide), hrv⟩, hrz⟩
    obtain ⟨q, hq⟩ := choose_lt each
    have hl : ((List.range len0).map q).length = len0 := by simp
    refine ⟨some a, (List.range len0).map q, m, by rw [hl], by rw [hl]; omega, fun hp => ?_⟩
    rw [hl] at hp
    obtain ⟨b, off, spot⟩ := a
    have h00 := (hq 0 hp).1
    have hspot : spot = none := by simpa [Addr.add] using World.cell?_spot h00
    subst hspot
    have e0 := (hq 0 hp).1
    rw [add_plain] at e0
    refine ⟨b, off, rfl, World.block_lt_of_cell? W _ e0, fun i hil => ?_⟩
    rw [hl] at hil
    obtain ⟨_, c1, c2, c3, c4⟩ := hq i hil
    rw [add_plain] at c1 c2
    have : ((List.range len0).map q)[i]?.getD ac0 = q i := by simp [hil]
    rw [this]
    exact ⟨by rw [← Nat.add_assoc] at c1; exact c1, by rw [← Nat.add_assoc] at c2; exact c2, c3, c4⟩

/-- How often a row is added in all. -/
def sumA (l : List ActR) (q : List Val) : Int := (l.map fun a => if cmpRow a.2.2.2.1 q = 0 then a.2.1 else 0).sum
theorem sumA_app (l m : List ActR) (q : List Val) : sumA (l ++ m) q = sumA l q + sumA m q := by unfold sumA; simp
theorem sumA_next {l : List ActR} {i : Nat} (h : i < l.length) (q : List Val) : sumA (l.take (i + 1)) q = sumA (l.take i) q + if cmpRow (l[i]?.getD ac0).2.2.2.1 q = 0 then (l[i]?.getD ac0).2.1 else 0 := by
  rw [List.take_succ_eq_append_getElem h, sumA_app, List.getElem?_eq_getElem h]
  simp [sumA]
theorem sumA_drop {l : List ActR} {i : Nat} (h : i < l.length) (q : List Val) : sumA (l.drop i) q = sumA (l.drop (i + 1)) q + if cmpRow (l[i]?.getD ac0).2.2.2.1 q = 0 then (l[i]?.getD ac0).2.1 else 0 := by
  rw [List.drop_eq_getElem_cons h, List.getElem?_eq_getElem h]
  simp only [sumA, List.map_cons, List.sum_cons, Option.getD_some]
  omega
theorem add_sum {n : Int} {l : List It} {xs : List Val} {k : Int} (hv : validBag l = true) (h : addErr n l xs k = 0) : (∀ q, cnt (addVal n l xs k) q = cnt l q + if cmpRow xs q = 0 then k else 0) ∧ (-1000000 ≤ k ∧ k ≤ 1000000) := by
  refine ⟨fun q => ?_, ?_⟩
  · unfold addVal
    rw [if_pos h]
    exact put_cnt (validBag_iff.1 hv).2.2 q
  · unfold addErr at h
    by_cases h1 : fitsR n xs = false
    · rw [if_pos h1] at h; omega
    rw [if_neg h1] at h
    by_cases h2 : k = 0 ∨ far k = true
    · rw [if_pos h2] at h; omega
    · exact far_iff.1 (by cases q : far k with | false => rfl | true => exact absurd (.inr q) h2)
theorem wide_add {n : Nat} {l : List It} {xs : List Val} {k : Int} (hw : ∀ x ∈ l, x.1.length = n) : ∀ x ∈ addVal n l xs k, x.1.length = n := by
  unfold addVal
  split
  · rename_i e
    intro x hx
    rcases put_from x hx with h | h
    · exact hw x h
    · rw [h]
      unfold addErr at e
      by_cases h1 : fitsR n xs = false
      · rw [if_pos h1] at e; omega
      · have h1 : fitsR n xs = true := by simpa using h1
        unfold fitsR at h1
        rw [Bool.and_eq_true, decide_eq_true_eq] at h1
        omega
  · exact hw
theorem bags_same {l m : List It} (hl : validBag l = true) (hm : validBag m = true) (h : ∀ q, cnt l q = cnt m q) : l = m := bag_ext (asc_of_valid hl) (asc_of_valid hm) h
def FewA (w : World) (l : List ActR) (e : Ending) (w' : World) : Prop := (e = .returned (.bool false) ∨ (e = .returned (.bool true) ∧ l.length ≤ 60)) ∧ Below w.heap.size w w'
end Go.Proofs.YtfoknllnknjccaaGreat

namespace Go.Proofs.YtfoknllnknjccaaGreat
open Go.RowKit

set_option maxRecDepth 100000 in
set_option maxHeartbeats 1000000 in
theorem few_any (p : Option Addr) (l : List ActR) (c : Nat) (hm : l.length ≤ 9223372036854775807) (w : World) (hX : ActsIn w p l) :
    Calls Tryz.prog 5 #[.slice p l.length c] w (FewA w l) := by
  have HX := Lib.hid hX
  clear hX
  go_enter Tryz.func5, Tryz.ntmps5
  go_wp2_with fail
  go_loopw [3] (fun s wr => ∃ i : Nat, s = .int .i64 i ∧ i ≤ l.length ∧ Below w.heap.size w wr) (fun s _ => l.length - (RowKit.intOf s).toNat)
  case atStart => exact ⟨0, rfl, Nat.zero_le _, Below.refl _ _⟩
  case round =>
    obtain ⟨i, rfl, hin, hB⟩ := hrel
    by_cases hlt : i < l.length
    · obtain ⟨b, off, rfl, hbl, hra⟩ := HX.out (by omega)
      obtain ⟨c1, c2, c3, c4⟩ := hra i hlt
      have e2 := (hB.cell (p := ⟨b, off + i * 3 + 2, none⟩) hbl).trans c2
      have c3 := c3.belowV hB
      have hi0 : (0 : Int) ≤ (i : Int) := by omega
      have hi1 : (i : Int) < (l.length : Int) := by omega
      clear hra c1 c2 c4
      generalize (l[i]?.getD ac0).2.2 = r at e2 c3
      have HL := Lib.hid (Long_any (some ⟨wr.heap.size, 0, none⟩) [r] 1 (by simp) (wr.alloc (.cells #[rowv r] 34)) (fun _ => ⟨wr.heap.size, 0, rfl, by simp, fun j hj => by
        have hj0 : j = 0 := by simpa using hj
        subst hj0
        exact ⟨by have := cells_new wr #[rowv r] 34 0 (rowv r) rfl; rwa [Go.WideShapes.add_plain] at this, c3.belowV (below_new _ _)⟩⟩))
      have HB := Lib.hid (hB.alloc hB.size (.cells #[rowv r] 34))
      clear c3 hB
      obtain ⟨rq, rx, rc⟩ := r
      dsimp only [rowv] at *
      go_wp2_with fail
      refine HL.out.mono ?_
      rintro e w2 ⟨qb, rfl, rfl⟩
      cases qb with
      | true =>
        go_wp2_with fail
        go_ret
        exact ⟨.inl rfl, HB.out⟩
      | false =>
        go_wp2_with fail
        go_roundw
        case rel => exact ⟨i + 1, by go_num, by omega, HB.out⟩
        case measure => simp [RowKit.intOf]; omega
    · have hge : l.length ≤ i := by omega
      by_cases h60 : l.length ≤ 60
      · have h60' : (l.length : Int) ≤ 60 := by omega
        go_wp2_with fail
        go_ret
        exact ⟨.inr ⟨by simp <;> omega, h60⟩, hB⟩
      · have h60' : ¬ ((l.length : Int) ≤ 60) := by omega
        go_wp2_with fail
        go_ret
        exact ⟨.inl (by simp <;> omega), hB⟩
end Go.Proofs.YtfoknllnknjccaaGreat
