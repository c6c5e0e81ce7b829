/-
  slices.IndexFunc and slices.DeleteFunc at items, with asBag's closure, on a row of the call's own, as contracts.
-/
import Derived.Test.YtledgnolmiecfaaGreatDoorFollows
import Derived.Laws.OwnMore
import Derived.Lib.SliceRun
import Derived.Laws.IdiomCopy
import Derived.Lib.LazyBuf
import Derived.RangeFuncOwn
namespace Go.Proofs.YtledgnolmiecfaaGreatDoor
open Go.RowKit Go.Lib
set_option linter.unusedSimpArgs false

theorem isZero_any (r : ItR) (w : World) : Calls Tryz.prog 95 #[nItem r] w (BelowB w (decide (r.2 = 0))) := by
  obtain ⟨⟨q, xs, qc⟩, n⟩ := r
  dsimp only [nItem, rowv]
  have e : decide (n = 0) = (n == 0) := rfl
  rw [e]
  clear e
  go_enter Tryz.func95, Tryz.ntmps95
  go_wp2
  go_ret
  exact ⟨rfl, (Below.refl _ _).alloc (Nat.le_refl _) _⟩

def IdxPost (rs : List ItR) (w : World) (e : Ending) (w' : World) : Prop :=
  ((e = .returned (.int .i64 (-1)) ∧ ∀ k, k < rs.length → (rs[k]?.getD ir0).2 ≠ 0) ∨ (∃ k : Nat, k < rs.length ∧ e = .returned (.int .i64 k) ∧ (rs[k]?.getD ir0).2 = 0 ∧ ∀ j, j < k → (rs[j]?.getD ir0).2 ≠ 0)) ∧ Below w.heap.size w w'

/-- The cells of a row of the call's own, item by item. -/
theorem own_items {W : World} {B g n cap : Nat} {rs : List ItR} (hn : n = rs.length) (h : W.ownsRow B 38 2 (.slice (some ⟨g, 0, none⟩) n cap) n (flatI rs)) : ∀ i, i < rs.length →
    W.cell? ⟨g, i * 2, none⟩ = some (rowv (rs[i]?.getD ir0).1) ∧ W.cell? ⟨g, i * 2 + 1, none⟩ = some (.int .i64 (rs[i]?.getD ir0).2) := fun i hi => by
  obtain ⟨g0, g1⟩ := flatI_get rs i hi
  exact ⟨(h.cellAt (i * 2) (by omega)).trans g0, (h.cellAt (i * 2 + 1) (by omega)).trans g1⟩
theorem own_addr {W : World} {B n : Nat} {v : Value} {L : List Value} (hn : 0 < n) (h : W.ownsRow B 38 2 v n L) : ∃ g cap, v = .slice (some ⟨g, 0, none⟩) n cap ∧ B ≤ g ∧ g < W.heap.size ∧ n ≤ cap := by
  rcases h.2 with ⟨_, h0⟩ | ⟨g, cap, cur, rfl, hb, hg, hnc, _⟩
  · omega
  · exact ⟨g, cap, rfl, hb, (Array.getElem?_eq_some_iff.1 hg).1, hnc⟩

set_option maxRecDepth 100000 in
set_option maxHeartbeats 1000000 in
theorem indexFunc_any (B : Nat) (v : Value) (rs : List ItR) (hm : rs.length ≤ 1000000) (w : World) (hown : w.ownsRow B 38 2 v rs.length (flatI rs)) :
    Calls Tryz.prog 115 #[v, .func (.func 95) #[] #[]] w (IdxPost rs w) := by
  obtain ⟨p, cap, rfl⟩ := slice_of_owns hown
  have HO := Lib.hid hown
  have HZ := Lib.hid isZero_any
  clear hown
  go_enter Tryz.func115, Tryz.ntmps115
  go_wp2_with fail
  go_loopw [8] (fun s wr => ∃ i : Nat, s = .int .i64 i ∧ i ≤ rs.length ∧ Hid (∀ k, k < i → (rs[k]?.getD ir0).2 ≠ 0) ∧ Below w.heap.size w wr) (fun s _ => rs.length - (RowKit.intOf s).toNat)
  case atStart => exact ⟨0, rfl, Nat.zero_le _, (fun k hk => absurd hk (Nat.not_lt_zero _)), Below.refl _ _⟩
  case round =>
    obtain ⟨i, rfl, hi, hv, hB⟩ := hrel
    by_cases hlt : i < rs.length
    · obtain ⟨g, cap', he, _, hgl, _⟩ := own_addr (by omega) HO.out
      simp only [Value.slice.injEq, true_and] at he
      obtain ⟨rfl, rfl⟩ := he
      obtain ⟨c0, c1⟩ := own_items rfl HO.out i hlt
      have d0 := (hB.cell (p := ⟨g, i * 2, none⟩) hgl).trans c0
      have d1 := (hB.cell (p := ⟨g, i * 2 + 1, none⟩) hgl).trans c1
      have hi0 : (0 : Int) ≤ (i : Int) := by omega
      have hi1 : (i : Int) < (rs.length : Int) := by omega
      have hge : ∀ k, k < i + 1 → k < i ∨ k = i := fun k hk => by omega
      have HGE := Lib.hid hge
      have HE : Hid ((rs[i]?.getD ir0) = (rs[i]?.getD ir0)) := rfl
      obtain ⟨r, hr⟩ : ∃ r, rs[i]?.getD ir0 = r := ⟨_, rfl⟩
      rw [hr] at d0 d1
      have HR := Lib.hid hr
      clear c0 c1 hr hge HE
      obtain ⟨⟨q, xs, qc⟩, n⟩ := r
      dsimp only [rowv] at d0 d1
      have HC := Lib.hid fun W => HZ.out ((q, xs, qc), n) W
      by_cases hz : n = 0
      · have hd : decide (n = 0) = true := decide_eq_true hz
        dsimp only [nItem, rowv] at HC
        rw [hd] at HC
        clear hd
        have HZE := Lib.hid hz
        clear hz
        go_wp2_with fail
        refine (HC.out _).mono ?_
        rintro e w3 ⟨rfl, hb3⟩
        go_wp2_with fail
        go_ret
        exact ⟨.inr ⟨i, hlt, rfl, by rw [HR.out]; exact HZE.out, hv.out⟩, hB.trans (hb3.mono hB.size)⟩
      · have hd : decide (n = 0) = false := decide_eq_false hz
        dsimp only [nItem, rowv] at HC
        rw [hd] at HC
        clear hd
        have HZE := Lib.hid hz
        clear hz
        go_wp2_with fail
        refine (HC.out _).mono ?_
        rintro e w3 ⟨rfl, hb3⟩
        go_wp2_with fail
        go_roundw
        case rel => exact ⟨i + 1, by go_num, by omega, (fun k hk => by rcases HGE.out k hk with h | rfl; exact hv.out k h; rw [HR.out]; exact HZE.out), hB.trans (hb3.mono hB.size)⟩
        case measure => simp [RowKit.intOf]; omega
    · have hge : rs.length ≤ i := by omega
      have hie : i = rs.length := by omega
      have HALL := Lib.hid (show ∀ k, k < rs.length → (rs[k]?.getD ir0).2 ≠ 0 from hie ▸ hv.out)
      clear hie
      go_wp2_with fail
      go_ret
      exact ⟨.inl ⟨rfl, HALL.out⟩, hB⟩

theorem run_clear_items (w : World) (ty : TypeId) (b o n c : Nat) (hn : 0 < n) (hc : ∀ j, j < n * 2 → (w.cell? ⟨b, o + j, none⟩).isSome = true) (hf : ∀ j, j < n * 2 → w.frozen? ⟨b, o + j, none⟩ = false) :
    (Builtin.clear_ #[22] ty #[.slice (some ⟨b, o, none⟩) n c]).run Tryz.prog w = .ok (.tuple #[]) (w.setCells b o (Builtin.zeroCells #[.slice none 0 0, .int .i64 0] n).toList) := by
  have hl : (Builtin.zeroCells #[.slice none 0 0, .int .i64 0] n).toList.length = n * 2 := by rw [Array.length_toList, size_zeroCells]; rfl
  have hv : ∀ w, (zeroValue 38).run Tryz.prog w = .ok (.agg #[.slice none 0 0, .int .i64 0]) w := fun w => by
    obtain ⟨i0, hi, hz0, hz1, hz2⟩ := info_parts infoI
    simp [zeroValue, typeInfo, hi, hz0]
  have hst := run_storeCells_cells (P := Tryz.prog) b o (Builtin.zeroCells #[.slice none 0 0, .int .i64 0] n).toList 0 w (fun j hj => by rw [Nat.add_zero]; exact hc j (by omega)) (fun j hj => by rw [Nat.add_zero]; exact hf j (by omega)) (by
    intro v hv'
    simp only [Builtin.zeroCells, Array.toList_map, List.mem_map] at hv'
    obtain ⟨k, _, rfl⟩ := hv'
    have h2 : k % 2 = 0 ∨ k % 2 = 1 := by omega
    rcases h2 with h2 | h2 <;> simp [h2] <;> rfl)
  simp only [Nat.add_zero] at hst
  obtain ⟨m, rfl⟩ : ∃ m, n = m + 1 := ⟨n - 1, by omega⟩
  have hcz : (Value.agg #[.slice none 0 0, .int .i64 0]).cells = #[.slice none 0 0, .int .i64 0] := rfl
  simp [Builtin.clear_, run_underlying Tryz.underlying22, hv, hcz, hst]
theorem own_setCells {B e size g n cap : Nat} : ∀ (vs : List Value) (o : Nat) (L : List Value) (W : World), W.ownsRow B e size (.slice (some ⟨g, 0, none⟩) n cap) n L →
    ∃ L', (W.setCells g o vs).ownsRow B e size (.slice (some ⟨g, 0, none⟩) n cap) n L' ∧ L'.take o = L.take o
  | [], o, L, W, h => ⟨L, h, rfl⟩
  | v :: vs, o, L, W, h => by
    obtain ⟨L', h1, h2⟩ := own_setCells vs (o + 1) (L.set o v) _ (h.stored o v).1
    refine ⟨L', h1, ?_⟩
    have e := congrArg (List.take o) h2
    rw [List.take_take, List.take_take, Nat.min_eq_left (Nat.le_succ o)] at e
    rw [e, List.take_set_of_le (Nat.le_refl o)]
theorem own_short {W : World} {B e size g n m cap : Nat} {L : List Value} (h : W.ownsRow B e size (.slice (some ⟨g, 0, none⟩) n cap) n L) (hm : m ≤ n) : W.ownsRow B e size (.slice (some ⟨g, 0, none⟩) m cap) m (L.take (m * size)) := by
  rcases h.2 with ⟨h', _⟩ | ⟨g', cap', cur, h', hb, hg, hnc, hcm, hcs, htake⟩
  · simp at h'
  · simp only [Value.slice.injEq, Option.some.injEq, Addr.mk.injEq, and_true, true_and] at h'
    obtain ⟨rfl, rfl⟩ := h'
    have hle : m * size ≤ n * size := Nat.mul_le_mul_right _ hm
    refine ⟨by rw [List.length_take, h.1]; omega, .inr ⟨g, cap, cur, rfl, hb, hg, by omega, hcm, hcs, ?_⟩⟩
    rw [← htake, List.take_take, Nat.min_eq_left hle]

def nzR (rs : List ItR) : List ItR := rs.filter fun x => x.2 != 0
theorem nzR_vals (rs : List ItR) : vals (nzR rs) = nz (vals rs) := by
  unfold vals nzR nz
  rw [List.filter_map]
  rfl
theorem nzR_all {rs : List ItR} (h : ∀ k, k < rs.length → (rs[k]?.getD ir0).2 ≠ 0) : nzR rs = rs := by
  unfold nzR
  rw [List.filter_eq_self]
  intro x hx
  obtain ⟨k, hk, rfl⟩ := List.getElem_of_mem hx
  have := h k hk
  rw [List.getElem?_eq_getElem hk] at this
  simpa using this
theorem nzR_next {rs : List ItR} {i : Nat} (h : i < rs.length) : nzR (rs.take (i + 1)) = nzR (rs.take i) ++ if (rs[i]?.getD ir0).2 = 0 then [] else [rs[i]?.getD ir0] := by
  rw [List.take_succ_eq_append_getElem h, List.getElem?_eq_getElem h]
  unfold nzR
  rw [List.filter_append]
  by_cases e : (rs[i]).2 = 0 <;> simp [e]
theorem nzR_len (rs : List ItR) : (nzR rs).length ≤ rs.length := List.length_filter_le _ _
theorem flatI_drop (rs : List ItR) (j : Nat) : (flatI rs).drop (j * 2) = flatI (rs.drop j) := by
  induction rs generalizing j with
  | nil => simp [flatI]
  | cons x xs ih =>
    cases j with
    | zero => simp
    | succ j =>
      have := ih j
      rw [show (j + 1) * 2 = j * 2 + 2 by omega]
      simpa [flatI, cellsI] using this
theorem flatI_take (rs : List ItR) (j : Nat) : (flatI rs).take (j * 2) = flatI (rs.take j) := by
  induction rs generalizing j with
  | nil => simp [flatI]
  | cons x xs ih =>
    cases j with
    | zero => simp [flatI]
    | succ j =>
      have := ih j
      rw [show (j + 1) * 2 = j * 2 + 2 by omega]
      simpa [flatI, cellsI] using this
theorem drop_get {L M : List Value} {j k : Nat} (h : L.drop j = M.drop j) (hk : j ≤ k) : L[k]? = M[k]? := by
  have := congrArg (fun l : List Value => l[k - j]?) h
  simp only [List.getElem?_drop] at this
  rwa [show j + (k - j) = k by omega] at this
theorem take_set2 {L : List Value} {n i : Nat} (hl : L.length = n * 2) (hi : i < n) (a b : Value) : ((L.set (i * 2) a).set (i * 2 + 1) b).take ((i + 1) * 2) = L.take (i * 2) ++ [a, b] := by
  apply List.ext_getElem?
  intro j
  rw [List.getElem?_append]
  have hlen : (L.take (i * 2)).length = i * 2 := by rw [List.length_take]; omega
  rw [hlen]
  by_cases h1 : j < i * 2
  · rw [if_pos h1, List.getElem?_take_of_lt (by omega), List.getElem?_take_of_lt h1, List.getElem?_set_ne (by omega), List.getElem?_set_ne (by omega)]
  · rw [if_neg h1]
    have hj : j = i * 2 ∨ j = i * 2 + 1 ∨ (i + 1) * 2 ≤ j := by omega
    rcases hj with rfl | rfl | hj
    · rw [List.getElem?_take_of_lt (by omega), List.getElem?_set_ne (by omega), List.getElem?_set_self (by omega)]; simp
    · rw [List.getElem?_take_of_lt (by omega), List.getElem?_set_self (by rw [List.length_set]; omega), show i * 2 + 1 - i * 2 = 1 by omega]; rfl
    · rw [List.getElem?_take_eq_none (by omega), List.getElem?_eq_none (by simp; omega)]
theorem drop_set2 {L : List Value} {i k : Nat} (h : (i + 1) * 2 ≤ k) (a b : Value) : ((L.set (i * 2) a).set (i * 2 + 1) b).drop k = L.drop k := by
  rw [List.drop_set_of_lt (by omega), List.drop_set_of_lt (by omega)]

theorem keepsO_of_below {W W' : World} (h : Below W.heap.size W W') : KeepsOthers W W' := ⟨h.size, fun k _ hk _ => (h.block k (Array.getElem?_eq_some_iff.1 hk).1).trans hk⟩
theorem keepsO_setCells (g : Nat) : ∀ (vs : List Value) (o : Nat) (W : World), KeepsOthers W (W.setCells g o vs)
  | [], _, W => KeepsOthers.refl W
  | _ :: vs, o, W => (KeepsOthers.setCell W _ _).trans (keepsO_setCells g vs (o + 1) _)
def DelPost (B : Nat) (w : World) (rs : List ItR) (e : Ending) (w' : World) : Prop := ∃ v, e = .returned v ∧ w'.ownsRow B 38 2 v (nzR rs).length (flatI (nzR rs)) ∧ Below B w w' ∧ KeepsOthers w w'

set_option maxRecDepth 100000 in
set_option maxHeartbeats 2000000 in
theorem deleteFunc_any (B : Nat) (v : Value) (rs : List ItR) (hm : rs.length ≤ 1000000) (w : World) (hB : B ≤ w.heap.size) (hown : w.ownsRow B 38 2 v rs.length (flatI rs)) :
    Calls Tryz.prog 94 #[v, .func (.func 95) #[] #[]] w (DelPost B w rs) := by
  have HI := Lib.hid (indexFunc_any B v rs hm w hown)
  have HZ := Lib.hid isZero_any
  have HO := Lib.hid hown
  obtain ⟨p, cap, rfl⟩ := slice_of_owns hown
  clear hown
  go_enter Tryz.func94, Tryz.ntmps94
  go_wp2_with fail
  refine HI.out.mono ?_
  rintro e w1 ⟨⟨rfl, hall⟩ | ⟨k, hk, rfl, hkz, hkn⟩, hb1⟩
  · have HA := Lib.hid (nzR_all hall)
    clear hall
    go_wp2_with fail
    go_ret
    exact ⟨_, rfl, by rw [HA.out]; exact owns_below HO.out hb1, hb1.mono hB, keepsO_of_below hb1⟩
  · have hk1 : ((k : Int) == -1) = false := beq_eq_false_iff_ne.2 (by omega)
    obtain ⟨g, cap', he, hBg, hgl, hnc⟩ := own_addr (by omega) HO.out
    simp only [Value.slice.injEq, true_and] at he
    obtain ⟨rfl, rfl⟩ := he
    have hO1 := owns_below HO.out hb1
    have hB1 : Below B w w1 := hb1.mono hB
    have hK1 := keepsO_of_below hb1
    have hstart : nzR (rs.take (k + 1)) = rs.take k := by
      rw [nzR_next hk, if_pos hkz, List.append_nil, nzR_all]
      intro j hj
      rw [List.length_take] at hj
      rw [List.getElem?_take_of_lt (by omega)]
      exact hkn j (by omega)
    have hst2 : (flatI rs).take (k * 2) = flatI (nzR (rs.take (k + 1))) := by rw [hstart, flatI_take]
    have hst3 : (nzR (rs.take (k + 1))).length = k := by rw [hstart, List.length_take]; omega
    have HST := Lib.hid (And.intro hst2 hst3)
    clear hst2 hst3 hstart hkn hkz hb1
    go_wp2_with fail
    go_loopw [5, 6] (fun a b wr => ∃ (i j : Nat) (L : List Value), a = .int .i64 i ∧ b = .int .i64 j ∧ i < j ∧ j ≤ rs.length ∧ Hid (i = (nzR (rs.take j)).length) ∧ wr.ownsRow B 38 2 (.slice (some ⟨g, 0, none⟩) rs.length cap) rs.length L ∧ Hid (L.take (i * 2) = flatI (nzR (rs.take j))) ∧ Hid (L.drop (j * 2) = (flatI rs).drop (j * 2)) ∧ Below B w wr ∧ KeepsOthers w wr)
      (fun _ b _ => rs.length - (RowKit.intOf b).toNat)
    case atStart => exact ⟨k, k + 1, flatI rs, rfl, by go_num, by omega, by omega, HST.out.2.symm, hO1, HST.out.1, rfl, hB1, hK1⟩
    case round =>
      obtain ⟨i, j, L, rfl, rfl, hij, hj, hil, hrow, hLt, hLd, hB2, hKO⟩ := hrel
      clear hO1 hB1 hK1 HST HI
      have hLl : L.length = rs.length * 2 := hrow.1
      have hi0 : (0 : Int) ≤ (i : Int) := by omega
      have hj0 : (0 : Int) ≤ (j : Int) := by omega
      have hi1 : (i : Int) < (rs.length : Int) := by omega
      have hsz := hB2.size
      by_cases hlt : j < rs.length
      · have hj1 : (j : Int) < (rs.length : Int) := by omega
        have hgr : g < wr.heap.size := by omega
        obtain ⟨q0, q1⟩ := flatI_get rs j hlt
        have e0 := (hrow.cellAt (j * 2) (by omega)).trans ((drop_get hLd.out (Nat.le_refl _)).trans q0)
        have e1 := (hrow.cellAt (j * 2 + 1) (by omega)).trans ((drop_get hLd.out (by omega)).trans q1)
        obtain ⟨u0, s0⟩ : ∃ u, wr.cell? ⟨g, i * 2, none⟩ = some u := ⟨_, (hrow.cellAt (i * 2) (by omega)).trans (List.getElem?_eq_getElem (by omega))⟩
        obtain ⟨u1, s1⟩ : ∃ u, wr.cell? ⟨g, i * 2 + 1, none⟩ = some u := ⟨_, (hrow.cellAt (i * 2 + 1) (by omega)).trans (List.getElem?_eq_getElem (by omega))⟩
        have hnx := nzR_next hlt
        generalize (rs[j]?.getD ir0) = r at e0 e1 hnx
        clear q0 q1
        have hbA : Below wr.heap.size wr (wr.alloc (oItem r)) := (Below.refl _ _).alloc (Nat.le_refl _) _
        have K0 := Blk.new wr 38 #[rowv r.1, .int .i64 r.2]
        obtain ⟨⟨q, xs, qc⟩, n⟩ := r
        dsimp only [rowv, oItem] at *
        have HC := Lib.hid fun W => HZ.out ((q, xs, qc), n) W
        dsimp only [nItem, rowv] at HC
        have HROW := Lib.hid hrow
        have HNX := Lib.hid hnx
        clear hnx
        have HK0 := Lib.hid K0
        clear K0
        by_cases hz : n = 0
        · have hd : decide (n = 0) = true := decide_eq_true hz
          rw [hd] at HC
          have HN2 := Lib.hid (show nzR (rs.take (j + 1)) = nzR (rs.take j) by rw [HNX.out, if_pos hz, List.append_nil])
          clear hd hz HNX hrow
          have a0 : (wr.alloc (.cells #[.slice q xs.length qc, .int .i64 n] 38)).cell? ⟨wr.heap.size, 0, none⟩ = some (.slice q xs.length qc) := HK0.out.cell 0
          have a1 : (wr.alloc (.cells #[.slice q xs.length qc, .int .i64 n] 38)).cell? ⟨wr.heap.size, 1, none⟩ = some (.int .i64 n) := HK0.out.cell 1
          go_wp2_with fail
          refine (HC.out _).mono ?_
          rintro e w3 ⟨rfl, hb3⟩
          have hb4 : Below wr.heap.size wr w3 := hbA.trans (hb3.mono hbA.size)
          go_wp2_with fail
          go_roundw
          case rel => exact ⟨i, j + 1, L, rfl, by go_num, by omega, by omega, by rw [HN2.out]; exact hil.out, owns_below HROW.out hb4, by rw [HN2.out]; exact hLt.out, by have := congrArg (List.drop 2) hLd.out; rw [List.drop_drop, List.drop_drop] at this; rw [show (j + 1) * 2 = j * 2 + 2 by omega]; exact this, hB2.trans (hb4.mono (by omega)), hKO.trans (keepsO_of_below hb4)⟩
          case measure => simp [RowKit.intOf]; omega
        · have hd : decide (n = 0) = false := decide_eq_false hz
          rw [hd] at HC
          have HN2 := Lib.hid (show nzR (rs.take (j + 1)) = nzR (rs.take j) ++ [((q, xs, qc), n)] by rw [HNX.out, if_neg hz])
          clear hd hz HNX hrow
          go_wp2_with fail
          refine (HC.out _).mono ?_
          rintro e w3 ⟨rfl, hb3⟩
          have hb4 : Below wr.heap.size wr w3 := hbA.trans (hb3.mono hbA.size)
          have hr3 := owns_below HROW.out hb4
          have K3 := HK0.out.belowV hb3 (by simp)
          have a0 : w3.cell? ⟨wr.heap.size, 0, none⟩ = some (.slice q xs.length qc) := K3.cell 0
          have a1 : w3.cell? ⟨wr.heap.size, 1, none⟩ = some (.int .i64 n) := K3.cell 1
          have t0 := (hb4.cell (p := ⟨g, i * 2, none⟩) hgr).trans s0
          have t1 := (hb4.cell (p := ⟨g, i * 2 + 1, none⟩) hgr).trans s1
          have f0 := hr3.frozenAt (i * 2)
          have f1 := hr3.frozenAt (i * 2 + 1)
          have hq := ((hr3.stored (i * 2) (.slice q xs.length qc)).1.stored (i * 2 + 1) (.int .i64 n)).1
          have hB5 : Below B w ((w3.setCell ⟨g, i * 2, none⟩ (.slice q xs.length qc)).setCell ⟨g, i * 2 + 1, none⟩ (.int .i64 n)) := ((hB2.trans (hb4.mono (by omega))).setCell hBg _).setCell hBg _
          have HT := Lib.hid (show ((L.set (i * 2) (.slice q xs.length qc)).set (i * 2 + 1) (.int .i64 n)).take ((i + 1) * 2) = flatI (nzR (rs.take (j + 1))) by
            rw [take_set2 hLl (by omega), hLt.out, HN2.out, flatI_app]; rfl)
          have HD := Lib.hid (show ((L.set (i * 2) (.slice q xs.length qc)).set (i * 2 + 1) (.int .i64 n)).drop ((j + 1) * 2) = (flatI rs).drop ((j + 1) * 2) by
            rw [drop_set2 (by omega)]
            have := congrArg (List.drop 2) hLd.out
            rw [List.drop_drop, List.drop_drop] at this
            rw [show (j + 1) * 2 = j * 2 + 2 by omega]; exact this)
          have HLN := Lib.hid (show i + 1 = (nzR (rs.take (j + 1))).length by rw [HN2.out, List.length_append, ← hil.out]; rfl)
          have HQ := Lib.hid hq
          have HB5 := Lib.hid hB5
          clear hq hB5 hr3 K3 hLl e0 e1 s0 s1
          go_wp2_with fail
          go_roundw
          case rel => exact ⟨i + 1, j + 1, _, by go_num, by go_num, by omega, by omega, HLN.out, HQ.out, HT.out, HD.out, HB5.out, (hKO.trans (keepsO_of_below hb4)).trans ((KeepsOthers.setCell _ _ _).trans (KeepsOthers.setCell _ _ _))⟩
          case measure => simp [RowKit.intOf]; omega
      · have hje : j = rs.length := by omega
        have hge : (rs.length : Int) ≤ (j : Int) := by omega
        have hnrs : nzR (rs.take j) = nzR rs := by rw [hje, List.take_length]
        have hcl : ∀ ty, (Builtin.clear_ #[22] ty #[.slice (some ⟨g, i * 2, none⟩) (rs.length - i) (cap - i)]).run Tryz.prog wr = .ok (.tuple #[]) (wr.setCells g (i * 2) (Builtin.zeroCells #[.slice none 0 0, .int .i64 0] (rs.length - i)).toList) := fun ty =>
          run_clear_items wr ty g (i * 2) (rs.length - i) (cap - i) (by omega) (fun t ht => by rw [hrow.cellAt (i * 2 + t) (by omega), List.getElem?_eq_getElem (by omega)]; rfl) (fun t ht => hrow.frozenAt _)
        obtain ⟨L', o1, o2⟩ := own_setCells (Builtin.zeroCells #[.slice none 0 0, .int .i64 0] (rs.length - i)).toList (i * 2) L wr hrow
        have o3 := own_short o1 (Nat.le_of_lt (show i < rs.length by omega))
        rw [o2, hLt.out, hnrs] at o3
        have hl := hil.out
        rw [hnrs] at hl
        have hbS : Below B w (wr.setCells g (i * 2) (Builtin.zeroCells #[.slice none 0 0, .int .i64 0] (rs.length - i)).toList) := below_setCells hBg _ _ _ hB2
        have HF := Lib.hid (And.intro o3 (And.intro hbS (hKO.trans (keepsO_setCells g (Builtin.zeroCells #[.slice none 0 0, .int .i64 0] (rs.length - i)).toList (i * 2) wr))))
        have HL := Lib.hid hl
        have hci : ¬ cap = i := by omega
        have hic : (i : Int) ≤ (cap : Int) := by omega
        have hil2 : (i : Int) ≤ (rs.length : Int) := by omega
        have hcz : ¬ cap = 0 := by omega
        clear o1 o2 o3 hl hbS hrow hje hnrs
        go_wp2_with fail
        go_ret
        exact ⟨_, rfl, by rw [← HL.out]; exact HF.out.1, HF.out.2⟩
end Go.Proofs.YtledgnolmiecfaaGreatDoor
