/-
  slices.Insert of one item into a list of the call's own.
  slices.Insert of one item in the middle, where there is room.
  slices.Insert of one item in the middle, where there is no room; and wherever.
  slices.Delete of one item, in a list of the call's own.
-/
import Derived.Test.YtfoknllnknjccaaGreatBlkG
import Derived.Test.YtfoknllnknjccaaGreatDel
import Derived.Shelf.Spec.SlicesInsertGrow
import Derived.Deep.RegionLaw
namespace Go.Proofs.YtfoknllnknjccaaGreat
open Go.RowKit Go.Lib

theorem run_copy_row2 {P : Program} (w : World) (dT sT ty elem : TypeId) (g o dLen dCap : Nat) (a : Addr) (sLen sCap : Nat) (cur : Array Value) (t : TypeId) (cs : List Value)
    (hu : P.underlying dT = some (.slice elem)) (hs : (P.info? elem).map (·.size) = some 2)
    (hg : w.heap[g]? = some (.cells cur t (0, 0))) {m : Nat} (hm : m = Nat.min sLen dLen) (hn : cs.length = m * 2)
    (hsrc : ∀ j v, cs[j]? = some v → w.cell? (a.add j) = some v) (hfit : o + cs.length ≤ cur.size) (h1 : ∀ v ∈ cs, v.oneCell' = true) :
    (Builtin.copy_ #[dT, sT] ty #[.slice (some ⟨g, o, none⟩) dLen dCap, .slice (some a) sLen sCap]).run P w =
      .ok (goInt m) (w.setRow g (cur.toList.take o ++ cs ++ cur.toList.drop (o + cs.length)).toArray) := by
  have hl := run_loadCells_list (P := P) w a cs hsrc
  have hst := run_storeCells_at P g o t cs 0 cur w hg (by simpa using hfit) h1
  rw [hn] at hl
  cases hq : P.info? elem with
  | none => simp [hq] at hs
  | some i =>
    have hi : i.size = 2 := by simpa [hq] using hs
    simp [Builtin.copy_, run_underlying hu, Builtin.lenOf, Builtin.firstCells, sizeOf, typeInfo, hq, hi, ← hm, hl, hst]

theorem setRow_other (w : World) (g k : Nat) (cs : Array Value) (hne : k ≠ g) : (w.setRow g cs).heap[k]? = w.heap[k]? := by
  unfold World.setRow
  simp [Array.getElem?_modify, Ne.symm hne]
theorem size_setRow (w : World) (g : Nat) (cs : Array Value) : (w.setRow g cs).heap.size = w.heap.size := by
  unfold World.setRow
  simp
theorem Grew.row {w w1 : World} {B : Nat} (h : Grew w B w1) (cs : Array Value) : Grew w B (w1.setRow B cs) :=
  ⟨h.os, h.tape, h.output, Nat.le_trans h.size (by rw [size_setRow]; exact Nat.le_refl _), fun k hk hne => (setRow_other w1 B k cs (by rintro rfl; exact hne rfl)).trans (h.block k hk hne)⟩

def InsPost (w : World) (B : Nat) (v : Value) (n : Nat) (M : List Value) (e : Ending) (w' : World) : Prop :=
  ∃ v', e = .returned v' ∧ w'.ownsRow B 53 2 v' n M ∧ w.grownBy w' v.ownBlock ∧ (v'.ownBlock = v.ownBlock ∨ v'.ownBlock = some w.heap.size)

theorem append_two {P : Program} (w : World) (t t' ty e : TypeId) (ht : P.underlying t = some (.slice e)) (ht' : P.underlying t' = some (.slice e)) (p : Option Addr) (n c : Nat) (x : Value) :
    (Builtin.append_ #[t, t'] ty #[.slice p n c, x]).run P w = (Builtin.append_ #[t, t] ty #[.slice p n c, x]).run P w := by
  simp [Builtin.append_, run_underlying ht, run_underlying ht']

set_option maxRecDepth 100000 in
set_option maxHeartbeats 1000000 in
theorem ins_end (B : Nat) (p : Option Addr) (n cap : Nat) (hn : n ≤ 1000000) (L : List Value) (c0 c1 : Value) (h0 : c0.oneCell' = true) (h1 : c1.oneCell' = true) (vb : Nat) (w : World)
    (hB : B ≤ w.heap.size) (hO : w.ownsRow B 53 2 (.slice p n cap) n L) (hV : Blk w vb 53 #[c0, c1]) :
    Calls Tryz.prog 39 #[.slice p n cap, .int .i64 (n : Int), .slice (some ⟨vb, 0, none⟩) 1 1] w (InsPost w B (.slice p n cap) (n + 1) (L ++ [c0, c1])) := by
  obtain ⟨i0, hii, hz0, hz1, hz2⟩ := info_parts infoI
  have hcells : ∀ (j : Nat) (u : Value), [c0, c1][j]? = some u → w.cell? ((⟨vb, 0, none⟩ : Addr).add j) = some u := fun j u h => by
    rw [Go.WideShapes.add_plain, hV.cell]
    simpa using h
  have hone : ∀ u ∈ [c0, c1], u.oneCell' = true := by simp [h0, h1]
  obtain ⟨v3, w3, hr, hown3, hgrow3, _, hat3⟩ := run_append_own_at (P := Tryz.prog) (w := w) B 47 47 53 i0 (.agg #[.slice none 0 0, .int .i64 0]) 2 32 Tryz.underlying47 hii hz0 hz1 hz2 rfl (by decide) _ n L hO ⟨vb, 0, none⟩ 1 1 [c0, c1] rfl hcells hone (by unfold maxLen; omega) (by omega) hB
  rw [← append_two w 47 46 _ _ Tryz.underlying47 Tryz.underlying46 p n cap _] at hr
  have HF := Lib.hid (And.intro hown3 (And.intro hgrow3 hat3))
  have hcase : (p = none ∧ n = 0 ∧ cap = 0) ∨ (∃ g, p = some ⟨g, 0, none⟩ ∧ n ≤ cap) := by
    rcases hO.2 with ⟨h', e0⟩ | ⟨g', cap', cur, h', _, _, hnc, _⟩
    · simp at h'; exact .inl ⟨h'.1, h'.2.1, h'.2.2⟩
    · simp at h'; exact .inr ⟨g', h'.1, by omega⟩
  clear hown3 hgrow3 hat3 hO hV hcells hone
  rcases hcase with ⟨rfl, rfl, rfl⟩ | ⟨g, rfl, hic⟩
  · go_enter Tryz.func39, Tryz.ntmps39
    go_wp2_with (at_builtin; refine Lib.wpList_append_run _ rfl _ _ _ _ rfl _ _ rfl rfl _ _ hr ?_)
    go_ret
    exact ⟨_, rfl, HF.out.1, HF.out.2.1, HF.out.2.2⟩
  by_cases hc : cap = n
  · subst hc
    go_enter Tryz.func39, Tryz.ntmps39
    go_wp2_with (at_builtin; refine Lib.wpList_append_run _ rfl _ _ _ _ rfl _ _ rfl rfl _ _ hr ?_)
    go_ret
    exact ⟨_, rfl, HF.out.1, HF.out.2.1, HF.out.2.2⟩
  · have hic' : (n : Int) ≤ (cap : Int) := by omega
    go_enter Tryz.func39, Tryz.ntmps39
    go_wp2_with (at_builtin; refine Lib.wpList_append_run _ rfl _ _ _ _ rfl _ _ rfl rfl _ _ hr ?_)
    go_ret
    exact ⟨_, rfl, HF.out.1, HF.out.2.1, HF.out.2.2⟩
end Go.Proofs.YtfoknllnknjccaaGreat

namespace Go.Proofs.YtfoknllnknjccaaGreat
open Go.RowKit Go.Lib

theorem ins_rows {α : Type} (C L X : List α) (a N : Nat) (hC : N + 2 ≤ C.length) (ha : a ≤ N) (hL : C.take N = L) :
    ((C.take (a + 2) ++ L.drop a ++ C.drop (a + 2 + (N - a))).take a ++ X ++ (C.take (a + 2) ++ L.drop a ++ C.drop (a + 2 + (N - a))).drop (a + 2)) = (L.take a ++ X ++ L.drop a) ++ C.drop (N + 2) ∧
    (C.take (a + 2) ++ L.drop a ++ C.drop (a + 2 + (N - a))).length = C.length := by
  have hl : L.length = N := by rw [← hL, List.length_take]; omega
  have h1 : (C.take (a + 2) ++ L.drop a ++ C.drop (a + 2 + (N - a))).take a = L.take a := by
    rw [List.append_assoc, List.take_append_of_le_length (by rw [List.length_take]; omega), List.take_take, ← hL, List.take_take]
    congr 1; omega
  have h2 : (C.take (a + 2) ++ L.drop a ++ C.drop (a + 2 + (N - a))).drop (a + 2) = L.drop a ++ C.drop (N + 2) := by
    have e : (C.take (a + 2)).length = a + 2 := by rw [List.length_take]; omega
    rw [List.append_assoc, List.drop_append_of_le_length (by omega), List.drop_eq_nil_of_le (by omega), List.nil_append, show a + 2 + (N - a) = N + 2 by omega]
  refine ⟨by rw [h1, h2]; simp [List.append_assoc], ?_⟩
  simp only [List.length_append, List.length_take, List.length_drop, hl]
  omega

set_option maxRecDepth 100000 in
set_option maxHeartbeats 1000000 in
theorem ins_shift (B g i n cap : Nat) (hi : i < n) (hn : n ≤ 1000000) (hroom : n + 1 ≤ cap) (L : List Value) (c0 c1 : Value) (h0 : c0.oneCell' = true) (h1 : c1.oneCell' = true) (hL1 : ∀ v ∈ L, v.oneCell' = true) (vb : Nat) (hvb : vb ≠ g) (w : World)
    (hO : w.ownsRow B 53 2 (.slice (some ⟨g, 0, none⟩) n cap) n L) (hV : Blk w vb 53 #[c0, c1]) :
    Calls Tryz.prog 39 #[.slice (some ⟨g, 0, none⟩) n cap, .int .i64 (i : Int), .slice (some ⟨vb, 0, none⟩) 1 1] w (InsPost w B (.slice (some ⟨g, 0, none⟩) n cap) (n + 1) (L.take (i * 2) ++ [c0, c1] ++ L.drop (i * 2))) := by
  obtain ⟨i0, hii, hz0, hz1, hz2⟩ := info_parts infoI
  obtain ⟨cur, hg, hge, hcm, hcs, htake⟩ : ∃ cur, w.heap[g]? = some (.cells cur 53 (0, 0)) ∧ B ≤ g ∧ cap ≤ maxLen ∧ cur.size = cap * 2 ∧ cur.toList.take (n * 2) = L := by
    rcases hO.2 with ⟨h', e0⟩ | ⟨g', cap', cur, h', hbg, hg, hnc, hcm, hcs, ht⟩
    · simp at h'
    · simp only [Value.slice.injEq, Option.some.injEq, Addr.mk.injEq, and_true, true_and] at h'
      obtain ⟨rfl, rfl⟩ := h'
      exact ⟨cur, hg, hbg, hcm, hcs, ht⟩
  have hLl : L.length = n * 2 := hO.1
  have hcells : ∀ (W : World), W.heap[vb]? = w.heap[vb]? → ∀ (j : Nat) (u : Value), [c0, c1][j]? = some u → W.cell? ((⟨vb, 0, none⟩ : Addr).add j) = some u := fun W hW j u h => by
    have hV' : Blk W vb 53 #[c0, c1] := hW.trans hV
    rw [Go.WideShapes.add_plain, hV'.cell]
    simpa using h
  have hone : ∀ u ∈ [c0, c1], u.oneCell' = true := by simp [h0, h1]
  have hsz : (Tryz.prog.info? 53).map (·.size) = some 2 := by rw [hii]; simp [hz1]
  have hrows := ins_rows cur.toList L [c0, c1] (i * 2) (n * 2) (by simp [hcs]; omega) (by omega) htake
  obtain ⟨R1, hR1⟩ : ∃ R1, R1 = cur.toList.take (i * 2 + 2) ++ L.drop (i * 2) ++ cur.toList.drop (i * 2 + 2 + (n * 2 - i * 2)) := ⟨_, rfl⟩
  rw [← hR1] at hrows
  have hsrc : ∀ (j : Nat) (v : Value), (L.drop (i * 2))[j]? = some v → w.drew.cell? ((⟨g, i * 2, none⟩ : Addr).add j) = some v := fun j v h => by
    rw [Go.WideShapes.add_plain]
    have hg' : w.drew.heap[g]? = some (.cells cur 53 (0, 0)) := hg
    simp only [World.cell?, hg']
    rw [List.getElem?_drop, ← htake, List.getElem?_take] at h
    split at h
    · simpa using h
    · cases h
  have hcp1 : ∀ ty dc sc, (Builtin.copy_ #[47, 47] ty #[.slice (some ⟨g, (i + 1) * 2, none⟩) (n + 1 - (i + 1)) dc, .slice (some ⟨g, i * 2, none⟩) (n + 1 - i) sc]).run Tryz.prog w.drew = .ok (goInt (n - i : Nat)) (w.drew.setRow g R1.toArray) := fun ty dc sc => by
    have h := run_copy_row2 w.drew 47 47 ty 53 g ((i + 1) * 2) (n + 1 - (i + 1)) dc ⟨g, i * 2, none⟩ (n + 1 - i) sc cur 53 (L.drop (i * 2)) Tryz.underlying47 hsz hg (m := n - i) (by simp only [Nat.min_def]; split <;> omega) (by rw [List.length_drop, hLl]; omega) hsrc (by rw [List.length_drop, hLl, hcs]; omega) (fun v hv => hL1 v (List.mem_of_mem_drop hv))
    rw [List.length_drop, hLl] at h
    rw [h, hR1, show (i + 1) * 2 = i * 2 + 2 by omega]
  have hR1g : ∀ (W : World), W.heap = (w.drew.setRow g R1.toArray).heap → W.heap[g]? = some (.cells R1.toArray 53 (0, 0)) := fun W e => by
    rw [e]; exact setRow_heap w.drew g cur R1.toArray _ _ hg
  have hcp2 : ∀ ty dc, (Builtin.copy_ #[47, 46] ty #[.slice (some ⟨g, i * 2, none⟩) (n + 1 - i) dc, .slice (some ⟨vb, 0, none⟩) 1 1]).run Tryz.prog (w.drew.setRow g R1.toArray) = .ok (goInt (1 : Nat)) ((w.drew.setRow g R1.toArray).setRow g ((L.take (i * 2) ++ [c0, c1] ++ L.drop (i * 2)) ++ cur.toList.drop (n * 2 + 2)).toArray) := fun ty dc => by
    have h := run_copy_row2 (w.drew.setRow g R1.toArray) 47 46 ty 53 g (i * 2) (n + 1 - i) dc ⟨vb, 0, none⟩ 1 1 R1.toArray 53 [c0, c1] Tryz.underlying47 hsz (hR1g _ rfl) (m := 1) (by simp only [Nat.min_def]; split <;> omega) rfl (hcells _ (setRow_other _ _ _ _ hvb)) (by simp [hrows.2, hcs]; omega) hone
    rw [h]
    congr 3
    simpa using hrows.1
  have hov : ∀ lb cb, (callFunc 65 #[.slice (some ⟨vb, 0, none⟩) 1 1, .slice (some ⟨g, (i + 1) * 2, none⟩) lb cb]).run Tryz.prog w = .ok (.value (.bool false)) w := fun lb cb => by
    rw [run_callFunc_extern Tryz.func65 (by kernel_rfl) (by kernel_rfl) (by kernel_rfl) (e := Extern.SlicesOverlaps.overlaps #[46, 46] #[4]) (by kernel_rfl),
      Lib.run_overlaps_apart w 46 4 53 Tryz.underlying46 2 (fun W => by simp [sizeOf, typeInfo, hii, hz1]) ⟨vb, 0, none⟩ ⟨g, (i + 1) * 2, none⟩ 1 1 lb cb hvb 53 53 2 (cap * 2) (by simp [World.shape?, show w.heap[vb]? = _ from hV]) (by simp [World.shape?, hg, hcs]) (by omega) (hV.froz 0) (hV.froz 2)]
    rfl
  obtain ⟨w3, hw3⟩ : ∃ w3, w3 = (w.drew.setRow g R1.toArray).setRow g ((L.take (i * 2) ++ [c0, c1] ++ L.drop (i * 2)) ++ cur.toList.drop (n * 2 + 2)).toArray := ⟨_, rfl⟩
  rw [← hw3] at hcp2
  have HF : Hid (InsPost w B (.slice (some ⟨g, 0, none⟩) n cap) (n + 1) (L.take (i * 2) ++ [c0, c1] ++ L.drop (i * 2)) (.returned (.slice (some ⟨g, 0, none⟩) (n + 1) cap)) w3) := Lib.hid (by
    refine ⟨_, rfl, ⟨by simp [hLl]; omega, .inr ⟨g, cap, _, rfl, hge, (by rw [hw3]; exact setRow_heap _ g _ _ _ _ (hR1g _ rfl)), hroom, hcm, ?_, ?_⟩⟩, ?_, .inl rfl⟩
    · simp [hLl, hcs]; omega
    · rw [List.toList_toArray, List.take_append_of_le_length (by simp [hLl]; omega), List.take_of_length_le (by simp [hLl]; omega)]
    · rw [hw3]; exact ((grew_refl w g).drewG.row _).row _)
  have hin : (i : Int) ≤ (n : Int) := by omega
  have hz2' : ¬ ((i : Int) = (n : Int)) := by omega
  have hr1 : ¬ ((cap : Int) < (n : Int) + 1) := by omega
  have hr2 : (n : Int) + 1 ≤ (cap : Int) := by omega
  have hci : ¬ (cap = i) := by omega
  have hci1 : ¬ (cap = i + 1) := by omega
  have hi1 : (i : Int) ≤ (n : Int) + 1 := by omega
  have hi2 : (i : Int) + 1 ≤ (n : Int) + 1 := by omega
  have hcap63 : (cap : Int) ≤ 9223372036854775807 := by unfold maxLen at hcm; omega
  have hw1 : IntKind.i64.wrap ((i : Int) + 1) = (i : Int) + 1 := by rw [IntKind.wrap_i64]; omega
  have hb1 : (0 : Int) ≤ (i : Int) + 1 := by omega
  have htn : ((i : Int) + 1).toNat = i + 1 := by omega
  have mixed : Tryz.prog.follows .mixedOrders = true := by kernel_rfl
  generalize L.take (i * 2) ++ [c0, c1] ++ L.drop (i * 2) = M at HF ⊢
  clear hw3 hR1 hO hcells hsrc hrows hR1g hg htake hV hcs hLl hL1
  have hcp1 := Lib.hid hcp1
  have hcp2 := Lib.hid hcp2
  go_enter Tryz.func39, Tryz.ntmps39
  go_wp2_with (simp only [hov])
  go_region_law_o (refine step_copy_runI rfl _ _ 47 47 rfl (.slice (some ⟨g, (i + 1) * 2, none⟩) (n + 1 - (i + 1)) (cap - (i + 1))) (.slice (some ⟨g, i * 2, none⟩) (n + 1 - i) (cap - i)) (by simp [Act.eval, Act.put]) (by simp [Act.eval, Act.put]) (hcp1.out _ _ _) ?_)
  go_wp2_with (at_builtin; refine wpList_copy_runI _ rfl _ _ 47 46 rfl _ _ rfl rfl (hcp2.out _ _) ?_)
  go_ret
  exact HF.out
end Go.Proofs.YtfoknllnknjccaaGreat

namespace Go.Proofs.YtfoknllnknjccaaGreat
open Go.RowKit Go.Lib

theorem grow_rows {α : Type} (L X Z : List α) (a N : Nat) (hX : X.length = 2) (hZ : N + 2 - a ≤ Z.length) (ha : a ≤ N) (hL : L.length = N) :
    ((L.take a ++ Z).take a ++ X ++ (L.take a ++ Z).drop (a + 2)).length = (L.take a ++ Z).length ∧
    (((L.take a ++ Z).take a ++ X ++ (L.take a ++ Z).drop (a + 2)).take (a + 2) ++ L.drop a ++ ((L.take a ++ Z).take a ++ X ++ (L.take a ++ Z).drop (a + 2)).drop (a + 2 + (N - a))) = (L.take a ++ X ++ L.drop a) ++ Z.drop (N + 2 - a) := by
  have e1 : (L.take a).length = a := by rw [List.length_take]; omega
  have e2 : (L.take a ++ Z).take a = L.take a := by rw [List.take_append_of_le_length (by omega), List.take_of_length_le (by omega)]
  have e3 : (L.take a ++ Z).drop (a + 2) = Z.drop 2 := by
    rw [List.drop_append, List.drop_eq_nil_of_le (by omega), List.nil_append, e1]
    congr 1; omega
  rw [e2, e3]
  refine ⟨by simp only [List.length_append, List.length_drop, e1, hX]; omega, ?_⟩
  have e4 : (L.take a ++ X).length = a + 2 := by rw [List.length_append, e1, hX]
  have e5 : (L.take a ++ X ++ Z.drop 2).drop (a + 2 + (N - a)) = Z.drop (N + 2 - a) := by
    rw [List.drop_append, List.drop_eq_nil_of_le (by omega), List.nil_append, e4, List.drop_drop]
    congr 1; omega
  rw [e5, List.take_append_of_le_length (by omega), List.take_of_length_le (by omega)]

theorem grew_rowNew {w w1 : World} {r : Option Nat} {N : Nat} (h : w.grownBy w1 r) (hN : w.heap.size ≤ N) (cs : Array Value) : w.grownBy (w1.setRow N cs) r :=
  ⟨h.os, h.tape, h.output, Nat.le_trans h.size (by rw [size_setRow]; exact Nat.le_refl _), fun k hk hne => (setRow_other w1 N k cs (by omega)).trans (h.block k hk hne)⟩

set_option maxRecDepth 100000 in
set_option maxHeartbeats 1000000 in
theorem ins_grow (B g i n cap : Nat) (hi : i < n) (hn : n ≤ 1000000) (hroom : cap = n) (L : List Value) (c0 c1 : Value) (h0 : c0.oneCell' = true) (h1 : c1.oneCell' = true) (hL1 : ∀ v ∈ L, v.oneCell' = true) (vb : Nat) (w : World)
    (hB : B ≤ w.heap.size) (hO : w.ownsRow B 53 2 (.slice (some ⟨g, 0, none⟩) n cap) n L) (hV : Blk w vb 53 #[c0, c1]) :
    Calls Tryz.prog 39 #[.slice (some ⟨g, 0, none⟩) n cap, .int .i64 (i : Int), .slice (some ⟨vb, 0, none⟩) 1 1] w (InsPost w B (.slice (some ⟨g, 0, none⟩) n cap) (n + 1) (L.take (i * 2) ++ [c0, c1] ++ L.drop (i * 2))) := by
  subst hroom
  obtain ⟨i0, hii, hz0, hz1, hz2⟩ := info_parts infoI
  obtain ⟨cur, hg, hge, hcm, hcs, htake⟩ : ∃ cur, w.heap[g]? = some (.cells cur 53 (0, 0)) ∧ B ≤ g ∧ cap ≤ maxLen ∧ cur.size = cap * 2 ∧ cur.toList.take (cap * 2) = L := by
    rcases hO.2 with ⟨h', e0⟩ | ⟨g', cap', cur, h', hbg, hg, hnc, hcm, hcs, ht⟩
    · simp at h'
    · simp only [Value.slice.injEq, Option.some.injEq, Addr.mk.injEq, and_true, true_and] at h'
      obtain ⟨rfl, rfl⟩ := h'
      exact ⟨cur, hg, hbg, hcm, hcs, ht⟩
  have hLl : L.length = cap * 2 := hO.1
  have hgl : g < w.heap.size := (Array.getElem?_eq_some_iff.1 hg).1
  have hvl : vb < w.heap.size := hV.lt
  have hcells : ∀ (W : World), W.heap[vb]? = w.heap[vb]? → ∀ (j : Nat) (u : Value), [c0, c1][j]? = some u → W.cell? ((⟨vb, 0, none⟩ : Addr).add j) = some u := fun W hW j u h => by
    have hV' : Blk W vb 53 #[c0, c1] := hW.trans hV
    rw [Go.WideShapes.add_plain, hV'.cell]
    simpa using h
  have hLc : ∀ (W : World), W.heap[g]? = w.heap[g]? → ∀ (o j : Nat) (v : Value), L[o + j]? = some v → W.cell? ((⟨g, o, none⟩ : Addr).add j) = some v := fun W hW o j v h => by
    rw [Go.WideShapes.add_plain]
    simp only [World.cell?, hW, hg]
    rw [← htake, List.getElem?_take] at h
    split at h
    · simpa using h
    · cases h
  have hone : ∀ u ∈ [c0, c1], u.oneCell' = true := by simp [h0, h1]
  have hsz : (Tryz.prog.info? 53).map (·.size) = some 2 := by rw [hii]; simp [hz1]
  have hkk : (cap : Int) + 1 - (i : Int) = ((cap + 1 - i : Nat) : Int) := by omega
  have hik : i + (cap + 1 - i) = cap + 1 := by omega
  have hold : (Builtin.firstCells i0.size i (.slice (some ⟨g, 0, none⟩) i cap)).run Tryz.prog w.drew = .ok (L.take (i * 2)).toArray w.drew := by
    rw [hz1]
    exact run_firstCells_some w.drew 2 i ⟨g, 0, none⟩ i cap (L.take (i * 2)) (by rw [List.length_take]; omega) (fun j v hj => by
      rw [List.getElem?_take] at hj
      split at hj
      · exact hLc w.drew rfl 0 j v (by simpa using hj)
      · cases hj)
  obtain ⟨G, hG⟩ : ∃ G, G = grownCap w (cap + 1) cap 53 := ⟨_, rfl⟩
  have hGn : cap + 1 ≤ G := by rw [hG]; exact grownCap_ge w _ _ _
  have hGm : G ≤ maxLen := by rw [hG]; exact grownCap_le_maxLen w (cap + 1) cap 53 (by unfold maxLen; omega)
  obtain ⟨Z, hZ⟩ : ∃ Z : List Value, Z = (Builtin.zeroCells #[.slice none 0 0, .int .i64 0] (cap + 1 - i) ++ Builtin.zeroCells #[.slice none 0 0, .int .i64 0] (G - (cap + 1))).toList := ⟨_, rfl⟩
  have hZl : Z.length = (G - i) * 2 := by
    rw [hZ, Array.length_toList, Array.size_append, size_zeroCells, size_zeroCells]
    show (cap + 1 - i) * 2 + (G - (cap + 1)) * 2 = _
    omega
  have hrz : ∀ ty, (Builtin.append_ #[47, 3] ty #[.slice (some ⟨g, 0, none⟩) i cap, .int .i64 ((cap : Int) + 1 - (i : Int))]).run Tryz.prog w =
      .ok (.slice (some ⟨w.heap.size, 0, none⟩) (cap + 1) G) (w.drew.alloc (.cells (L.take (i * 2) ++ Z).toArray 53)) := fun ty => by
    have h := Lib.run_append_grow_zeros w 47 3 ty 53 i0 _ .i64 .i64 Tryz.underlying47 Tryz.underlying3 hii hz0 (some ⟨g, 0, none⟩) i cap (L.take (i * 2)) hold (cap + 1 - i) (by omega) (by omega) (by omega) (by omega) (by rw [hz2]; omega) (by rw [hz2, hik]; exact growslice_fits (by omega) (by omega))
    rw [hik, ← hG] at h
    rw [hkk, h, hZ]
    congr 3
    simp [Value.cells, Array.append_assoc]
  have hrows := grow_rows L [c0, c1] Z (i * 2) (cap * 2) rfl (by rw [hZl]; omega) (by omega) hLl
  obtain ⟨R1, hR1⟩ : ∃ R1, R1 = (L.take (i * 2) ++ Z).take (i * 2) ++ [c0, c1] ++ (L.take (i * 2) ++ Z).drop (i * 2 + 2) := ⟨_, rfl⟩
  rw [← hR1] at hrows
  have hR0l : (L.take (i * 2) ++ Z).length = G * 2 := by rw [List.length_append, List.length_take, hZl, hLl]; omega
  obtain ⟨W1, hW1⟩ : ∃ W1, W1 = w.drew.alloc (.cells (L.take (i * 2) ++ Z).toArray 53) := ⟨_, rfl⟩
  have hW1g : W1.heap[w.heap.size]? = some (.cells (L.take (i * 2) ++ Z).toArray 53 (0, 0)) := by rw [hW1]; exact heap_alloc_new w.drew _
  have hG1 : w.grownBy W1 (some g) := by rw [hW1]; exact (grew_refl w g).drewG.new _
  rw [← hW1] at hrz
  have hcp1 : ∀ ty dc, (Builtin.copy_ #[47, 46] ty #[.slice (some ⟨w.heap.size, i * 2, none⟩) (cap + 1 - i) dc, .slice (some ⟨vb, 0, none⟩) 1 1]).run Tryz.prog W1 = .ok (goInt (1 : Nat)) (W1.setRow w.heap.size R1.toArray) := fun ty dc => by
    have h := run_copy_row2 W1 47 46 ty 53 w.heap.size (i * 2) (cap + 1 - i) dc ⟨vb, 0, none⟩ 1 1 _ 53 [c0, c1] Tryz.underlying47 hsz hW1g (m := 1) (by simp only [Nat.min_def]; split <;> omega) rfl (hcells _ (by rw [hW1]; exact heap_alloc_old w.drew _ hvl)) (by rw [List.size_toArray, hR0l]; simp; omega) hone
    rw [h, hR1]
    simp
  obtain ⟨W2, hW2⟩ : ∃ W2, W2 = W1.setRow w.heap.size R1.toArray := ⟨_, rfl⟩
  have hW2g : W2.heap[w.heap.size]? = some (.cells R1.toArray 53 (0, 0)) := by rw [hW2]; exact setRow_heap _ _ _ _ _ _ hW1g
  have hG2 : w.grownBy W2 (some g) := by rw [hW2]; exact grew_rowNew hG1 (Nat.le_refl _) _
  rw [← hW2] at hcp1
  have hW2o : W2.heap[g]? = w.heap[g]? := by rw [hW2, setRow_other _ _ _ _ (by omega), hW1]; exact heap_alloc_old w.drew _ hgl
  have hcp2 : ∀ ty dc sc, (Builtin.copy_ #[47, 47] ty #[.slice (some ⟨w.heap.size, (i + 1) * 2, none⟩) (cap + 1 - (i + 1)) dc, .slice (some ⟨g, i * 2, none⟩) (cap - i) sc]).run Tryz.prog W2.drew = .ok (goInt (cap - i : Nat)) (W2.drew.setRow w.heap.size ((L.take (i * 2) ++ [c0, c1] ++ L.drop (i * 2)) ++ Z.drop (cap * 2 + 2 - i * 2)).toArray) := fun ty dc sc => by
    have h := run_copy_row2 W2.drew 47 47 ty 53 w.heap.size ((i + 1) * 2) (cap + 1 - (i + 1)) dc ⟨g, i * 2, none⟩ (cap - i) sc _ 53 (L.drop (i * 2)) Tryz.underlying47 hsz hW2g (m := cap - i) (by simp only [Nat.min_def]; split <;> omega) (by rw [List.length_drop, hLl]; omega) (fun j v hj => hLc W2.drew hW2o (i * 2) j v (by rwa [List.getElem?_drop] at hj)) (by rw [List.length_drop, hLl, List.size_toArray, hrows.1, hR0l]; omega) (fun v hv => hL1 v (List.mem_of_mem_drop hv))
    rw [List.length_drop, hLl, show (i + 1) * 2 = i * 2 + 2 by omega, List.toList_toArray, hrows.2] at h
    rw [← h, show (i + 1) * 2 = i * 2 + 2 by omega]
  obtain ⟨W3, hW3⟩ : ∃ W3, W3 = W2.drew.setRow w.heap.size ((L.take (i * 2) ++ [c0, c1] ++ L.drop (i * 2)) ++ Z.drop (cap * 2 + 2 - i * 2)).toArray := ⟨_, rfl⟩
  rw [← hW3] at hcp2
  have HF : Hid (InsPost w B (.slice (some ⟨g, 0, none⟩) cap cap) (cap + 1) (L.take (i * 2) ++ [c0, c1] ++ L.drop (i * 2)) (.returned (.slice (some ⟨w.heap.size, 0, none⟩) (cap + 1) G)) W3) := Lib.hid (by
    refine ⟨_, rfl, ⟨by simp [hLl]; omega, .inr ⟨w.heap.size, G, _, rfl, hB, (by rw [hW3]; exact setRow_heap W2.drew _ _ _ _ _ hW2g), hGn, hGm, ?_, ?_⟩⟩, ?_, .inr rfl⟩
    · simp [hLl, hZl]; omega
    · rw [List.toList_toArray, List.take_append_of_le_length (by simp [hLl]; omega), List.take_of_length_le (by simp [hLl]; omega)]
    · rw [hW3]; exact grew_rowNew (w1 := W2.drew) ⟨hG2.os, hG2.tape, hG2.output, hG2.size, hG2.block⟩ (Nat.le_refl _) _)
  have hz2' : ¬ ((i : Int) = (cap : Int)) := by omega
  have hin : (i : Int) ≤ (cap : Int) := by omega
  have hr1 : (cap : Int) < (cap : Int) + 1 := by omega
  have hci : ¬ (cap = i) := by omega
  have hGi : ¬ (G = i) := by omega
  have hGi1 : ¬ (G = i + 1) := by omega
  have hi1 : (i : Int) ≤ (cap : Int) + 1 := by omega
  have hi2 : (i : Int) + 1 ≤ (cap : Int) + 1 := by omega
  have hiG : (i : Int) ≤ (G : Int) := by omega
  have hcap63 : (cap : Int) ≤ 9223372036854775807 := by unfold maxLen at hcm; omega
  have hG63 : (G : Int) ≤ 9223372036854775807 := by unfold maxLen at hGm; omega
  have hw1 : IntKind.i64.wrap ((i : Int) + 1) = (i : Int) + 1 := by rw [IntKind.wrap_i64]; omega
  have hb1 : (0 : Int) ≤ (i : Int) + 1 := by omega
  have htn : ((i : Int) + 1).toNat = i + 1 := by omega
  have mixed : Tryz.prog.follows .mixedOrders = true := by kernel_rfl
  generalize L.take (i * 2) ++ [c0, c1] ++ L.drop (i * 2) = M at HF ⊢
  have hcp1 := Lib.hid hcp1
  have hcp2 := Lib.hid hcp2
  have hrz := Lib.hid hrz
  clear hW3 hW2 hW1 hR1 hO hcells hrows hg htake hV hcs hLl hL1 hLc hold hZ hZl hR0l hW1g hG1 hW2g hG2 hW2o hkk hik hG hGm hcm
  go_enter Tryz.func39, Tryz.ntmps39
  go_wp2_with (first
    | (at_builtin; refine Lib.wpList_append_run _ rfl _ _ _ _ rfl _ _ rfl rfl _ _ (hrz.out _) ?_)
    | (at_builtin; refine wpList_copy_runI _ rfl _ _ 47 46 rfl _ _ rfl rfl (hcp1.out _ _) ?_))
  go_region_law_o (refine step_copy_runI rfl _ _ 47 47 rfl (.slice (some ⟨w.heap.size, (i + 1) * 2, none⟩) (cap + 1 - (i + 1)) (G - (i + 1))) (.slice (some ⟨g, i * 2, none⟩) (cap - i) (cap - i)) (by simp [Act.eval, Act.put]) (by simp [Act.eval, Act.put]) (hcp2.out _ _ _) ?_)
  go_wp2
  go_ret
  exact HF.out

/-- slices.Insert of one item into a list of the call's own. -/
theorem ins_any (B : Nat) (p : Option Addr) (i n cap : Nat) (hi : i ≤ n) (hn : n ≤ 1000000) (L : List Value) (c0 c1 : Value) (h0 : c0.oneCell' = true) (h1 : c1.oneCell' = true) (hL1 : ∀ v ∈ L, v.oneCell' = true) (vb : Nat) (hvb : ∀ g, p = some ⟨g, 0, none⟩ → vb ≠ g) (w : World)
    (hB : B ≤ w.heap.size) (hO : w.ownsRow B 53 2 (.slice p n cap) n L) (hV : Blk w vb 53 #[c0, c1]) :
    Calls Tryz.prog 39 #[.slice p n cap, .int .i64 (i : Int), .slice (some ⟨vb, 0, none⟩) 1 1] w (InsPost w B (.slice p n cap) (n + 1) (L.take (i * 2) ++ [c0, c1] ++ L.drop (i * 2))) := by
  by_cases e : i = n
  · subst e
    have hl : L.length = i * 2 := hO.1
    rw [List.take_of_length_le (by omega), List.drop_eq_nil_of_le (by omega), List.append_nil]
    exact ins_end B p i cap hn L c0 c1 h0 h1 vb w hB hO hV
  · have hform : ∃ g, p = some ⟨g, 0, none⟩ ∧ n ≤ cap := by
      rcases hO.2 with ⟨h', e0⟩ | ⟨g', cap', cur, h', _, _, hnc, _⟩
      · omega
      · simp at h'; exact ⟨g', h'.1, by omega⟩
    obtain ⟨g, rfl, hc⟩ := hform
    by_cases hr : n + 1 ≤ cap
    · exact ins_shift B g i n cap (by omega) hn hr L c0 c1 h0 h1 hL1 vb (hvb g rfl) w hO hV
    · exact ins_grow B g i n cap (by omega) hn (by omega) L c0 c1 h0 h1 hL1 vb w hB hO hV
end Go.Proofs.YtfoknllnknjccaaGreat

namespace Go.Proofs.YtfoknllnknjccaaGreat
open Go.RowKit Go.Lib

theorem run_clear_bag (w : World) (ty : TypeId) (b o n c : Nat) (hn : 0 < n) (hc : ∀ j, j < n * 2 → (w.cell? ⟨b, o + j, none⟩).isSome = true) (hf : ∀ j, j < n * 2 → w.frozen? ⟨b, o + j, none⟩ = false) :
    (Builtin.clear_ #[47] ty #[.slice (some ⟨b, o, none⟩) n c]).run Tryz.prog w = .ok (.tuple #[]) (w.setCells b o (Builtin.zeroCells #[.slice none 0 0, .int .i64 0] n).toList) := by
  have hl : (Builtin.zeroCells #[.slice none 0 0, .int .i64 0] n).toList.length = n * 2 := by rw [Array.length_toList, size_zeroCells]; rfl
  have hv : ∀ w, (zeroValue 53).run Tryz.prog w = .ok (.agg #[.slice none 0 0, .int .i64 0]) w := fun w => by
    obtain ⟨i0, hi, hz0, hz1, hz2⟩ := info_parts infoI
    simp [zeroValue, typeInfo, hi, hz0]
  have hst := run_storeCells_cells (P := Tryz.prog) b o (Builtin.zeroCells #[.slice none 0 0, .int .i64 0] n).toList 0 w (fun j hj => by rw [Nat.add_zero]; exact hc j (by omega)) (fun j hj => by rw [Nat.add_zero]; exact hf j (by omega)) (by
    intro v hv'
    simp only [Builtin.zeroCells, Array.toList_map, List.mem_map] at hv'
    obtain ⟨k, _, rfl⟩ := hv'
    have h2 : k % 2 = 0 ∨ k % 2 = 1 := by omega
    rcases h2 with h2 | h2 <;> simp [h2] <;> rfl)
  simp only [Nat.add_zero] at hst
  obtain ⟨m, rfl⟩ : ∃ m, n = m + 1 := ⟨n - 1, by omega⟩
  have hcz : (Value.agg #[.slice none 0 0, .int .i64 0]).cells = #[.slice none 0 0, .int .i64 0] := rfl
  simp [Builtin.clear_, run_underlying Tryz.underlying47, hv, hcz, hst]

/-- Cells that are set one after another are a row that is set at once. -/
theorem setCells_row (w : World) (g o : Nat) (cur : Array Value) (t : TypeId) (vs : List Value) (hg : w.heap[g]? = some (.cells cur t (0, 0))) (hl : o + vs.length ≤ cur.size) (h1 : ∀ v ∈ vs, v.oneCell' = true) :
    w.setCells g o vs = w.setRow g (cur.toList.take o ++ vs ++ cur.toList.drop (o + vs.length)).toArray := by
  have a := run_storeCells_at Tryz.prog g o t vs 0 cur w hg (by simpa using hl) h1
  have b := run_storeCells_cells (P := Tryz.prog) g o vs 0 w (fun j hj => by
    have : o + j < cur.size := by omega
    simp [World.cell?, hg, this]) (fun j hj => by simp [World.frozen?, hg]) h1
  rw [a] at b
  simp only [Nat.add_zero, Result.ok.injEq, true_and] at b
  exact b.symm

theorem del_rows {α : Type} (C L Z : List α) (a N : Nat) (hC : N + 2 ≤ C.length) (ha : a ≤ N) (hL : C.take (N + 2) = L) :
    ((C.take a ++ L.drop (a + 2) ++ C.drop (a + (N - a))).take N ++ Z ++ (C.take a ++ L.drop (a + 2) ++ C.drop (a + (N - a))).drop (N + 2)) = (L.take a ++ L.drop (a + 2)) ++ (Z ++ C.drop (N + 2)) ∧
    (C.take a ++ L.drop (a + 2) ++ C.drop (a + (N - a))).length = C.length := by
  have hl : L.length = N + 2 := by rw [← hL, List.length_take]; omega
  have e0 : C.take a = L.take a := by rw [← hL, List.take_take]; congr 1; omega
  have e1 : (L.take a ++ L.drop (a + 2)).length = N := by simp only [List.length_append, List.length_take, List.length_drop, hl]; omega
  rw [e0, show a + (N - a) = N by omega]
  refine ⟨?_, by rw [List.length_append, e1, List.length_drop]; omega⟩
  rw [List.take_append_of_le_length (by omega), List.take_of_length_le (by omega), List.drop_append, List.drop_eq_nil_of_le (show (L.take a ++ L.drop (a + 2)).length ≤ N + 2 by omega), List.nil_append, e1, List.drop_drop, List.append_assoc]
  congr 3; omega

def RemPost (w : World) (B g n cap : Nat) (M : List Value) (e : Ending) (w' : World) : Prop :=
  e = .returned (.slice (some ⟨g, 0, none⟩) n cap) ∧ w'.ownsRow B 53 2 (.slice (some ⟨g, 0, none⟩) n cap) n M ∧ Grew w g w'

set_option maxRecDepth 100000 in
set_option maxHeartbeats 1000000 in
theorem del_any (B g i n cap : Nat) (hi : i ≤ n) (hn : n ≤ 1000000) (hroom : n + 1 ≤ cap) (L : List Value) (hL1 : ∀ v ∈ L, v.oneCell' = true) (w : World)
    (hO : w.ownsRow B 53 2 (.slice (some ⟨g, 0, none⟩) (n + 1) cap) (n + 1) L) :
    Calls Tryz.prog 64 #[.slice (some ⟨g, 0, none⟩) (n + 1) cap, .int .i64 (i : Int), .int .i64 ((i : Int) + 1)] w (RemPost w B g n cap (L.take (i * 2) ++ L.drop (i * 2 + 2))) := by
  obtain ⟨i0, hii, hz0, hz1, hz2⟩ := info_parts infoI
  obtain ⟨cur, hg, hge, hcm, hcs, htake⟩ : ∃ cur, w.heap[g]? = some (.cells cur 53 (0, 0)) ∧ B ≤ g ∧ cap ≤ maxLen ∧ cur.size = cap * 2 ∧ cur.toList.take (n * 2 + 2) = L := by
    rcases hO.2 with ⟨h', e0⟩ | ⟨g', cap', cur, h', hbg, hg, hnc, hcm, hcs, ht⟩
    · simp at h'
    · simp only [Value.slice.injEq, Option.some.injEq, Addr.mk.injEq, and_true, true_and] at h'
      obtain ⟨rfl, rfl⟩ := h'
      rw [show (n + 1) * 2 = n * 2 + 2 by omega] at ht
      exact ⟨cur, hg, hbg, hcm, hcs, ht⟩
  have hLl : L.length = n * 2 + 2 := by have := hO.1; omega
  obtain ⟨Z, hZ⟩ : ∃ Z, Z = (Builtin.zeroCells #[.slice none 0 0, .int .i64 0] 1).toList := ⟨_, rfl⟩
  have hZl : Z.length = 2 := by rw [hZ, Array.length_toList, size_zeroCells]; rfl
  have hrows := del_rows cur.toList L Z (i * 2) (n * 2) (by simp [hcs]; omega) (by omega) htake
  obtain ⟨R1, hR1⟩ : ∃ R1, R1 = cur.toList.take (i * 2) ++ L.drop (i * 2 + 2) ++ cur.toList.drop (i * 2 + (n * 2 - i * 2)) := ⟨_, rfl⟩
  rw [← hR1] at hrows
  obtain ⟨news, hnews⟩ : ∃ news, news = L.drop (i * 2 + 2) := ⟨_, rfl⟩
  have hnl : news.length = (n + 1 - (i + 1)) * 2 := by rw [hnews, List.length_drop, hLl]; omega
  have hn1 : ∀ u ∈ news, u.oneCell' = true := fun u hu => hL1 u (List.mem_of_mem_drop (hnews ▸ hu))
  obtain ⟨A, hA, hsrc⟩ : ∃ A : Addr, (if cap = i + 1 then some (⟨g, 0, none⟩ : Addr) else some ⟨g, (i + 1) * 2, none⟩) = some A ∧ ∀ t u, news[t]? = some u → w.drew.cell? (A.add t) = some u := by
    by_cases h : cap = i + 1
    · refine ⟨⟨g, 0, none⟩, by simp [h], fun t u hu => ?_⟩
      have h0 : news.length = 0 := by rw [hnl]; omega
      rw [List.length_eq_zero_iff.1 h0] at hu
      simp at hu
    · refine ⟨⟨g, (i + 1) * 2, none⟩, by simp [h], fun t u hu => ?_⟩
      rw [Go.WideShapes.add_plain]
      have hg' : w.drew.heap[g]? = some (.cells cur 53 (0, 0)) := hg
      simp only [World.cell?, hg']
      rw [hnews, List.getElem?_drop, ← htake, List.getElem?_take] at hu
      split at hu
      · rw [show (i + 1) * 2 + t = i * 2 + 2 + t by omega]; simpa using hu
      · cases hu
  have hW : w.drew.setCells g (0 + i * 2) news = w.drew.setRow g R1.toArray := by
    rw [Nat.zero_add, setCells_row w.drew g (i * 2) cur _ news hg (by rw [hnl]; omega) hn1, hR1, hnl, hnews, show (n + 1 - (i + 1)) * 2 = n * 2 - i * 2 by omega]
  have hsp : ∀ t, t < news.length → (w.drew.cell? ⟨g, 0 + i * 2 + t, none⟩).isSome = true ∧ w.drew.frozen? ⟨g, 0 + i * 2 + t, none⟩ = false := fun t ht => by
    have hg' : w.drew.heap[g]? = some (.cells cur 53 (0, 0)) := hg
    have : 0 + i * 2 + t < cur.size := by omega
    exact ⟨by simp [World.cell?, hg']; omega, by simp [World.frozen?, hg']⟩
  have hR1g : (w.drew.setRow g R1.toArray).heap[g]? = some (.cells R1.toArray 53 (0, 0)) := setRow_heap w.drew g cur R1.toArray _ _ hg
  have hR1l : R1.length = cap * 2 := by rw [hrows.2]; simp [hcs]
  have hcl : ∀ ty c, (Builtin.clear_ #[47] ty #[.slice (some ⟨g, n * 2, none⟩) 1 c]).run Tryz.prog (w.drew.setRow g R1.toArray) = .ok (.tuple #[]) ((w.drew.setRow g R1.toArray).setRow g ((L.take (i * 2) ++ L.drop (i * 2 + 2)) ++ (Z ++ cur.toList.drop (n * 2 + 2))).toArray) := fun ty c => by
    have h := run_clear_bag (w.drew.setRow g R1.toArray) ty g (n * 2) 1 c (by omega) (fun j hj => by
      have : n * 2 + j < R1.toArray.size := by rw [List.size_toArray, hR1l]; omega
      simp only [World.cell?, hR1g, Array.getElem?_eq_getElem this]
      simp) (fun j hj => by simp [World.frozen?, hR1g])
    rw [h, ← hZ, setCells_row _ g (n * 2) R1.toArray _ Z hR1g (by rw [List.size_toArray, hR1l, hZl]; omega) (by
      intro v hv'
      rw [hZ] at hv'
      simp only [Builtin.zeroCells, Array.toList_map, List.mem_map] at hv'
      obtain ⟨k, _, rfl⟩ := hv'
      have h2 : k % 2 = 0 ∨ k % 2 = 1 := by omega
      rcases h2 with h2 | h2 <;> simp [h2] <;> rfl), hZl]
    congr 3
    simpa using hrows.1
  obtain ⟨w3, hw3⟩ : ∃ w3, w3 = (w.drew.setRow g R1.toArray).setRow g ((L.take (i * 2) ++ L.drop (i * 2 + 2)) ++ (Z ++ cur.toList.drop (n * 2 + 2))).toArray := ⟨_, rfl⟩
  rw [← hw3] at hcl
  have HF : Hid (RemPost w B g n cap (L.take (i * 2) ++ L.drop (i * 2 + 2)) (.returned (.slice (some ⟨g, 0, none⟩) n cap)) w3) := Lib.hid (by
    have e1 : (L.take (i * 2) ++ L.drop (i * 2 + 2)).length = n * 2 := by simp only [List.length_append, List.length_take, List.length_drop, hLl]; omega
    refine ⟨rfl, ⟨e1, .inr ⟨g, cap, _, rfl, hge, (by rw [hw3]; exact setRow_heap _ g _ _ _ _ hR1g), by omega, hcm, ?_, ?_⟩⟩, ?_⟩
    · rw [List.size_toArray, List.length_append, e1, List.length_append, hZl, List.length_drop, Array.length_toList, hcs]; omega
    · rw [List.toList_toArray, List.take_append_of_le_length (by omega), List.take_of_length_le (by omega)]
    · rw [hw3]; exact ((grew_refl w g).drewG.row _).row _)
  obtain ⟨W1, hW1⟩ : ∃ W1, W1 = w.drew.setRow g R1.toArray := ⟨_, rfl⟩
  rw [← hW1] at hcl hW
  have hw1 : IntKind.i64.wrap ((i : Int) + 1) = (i : Int) + 1 := by rw [IntKind.wrap_i64]; omega
  have hb1 : (0 : Int) ≤ (i : Int) + 1 := by omega
  have htn : ((i : Int) + 1).toNat = i + 1 := by omega
  have hi1 : (i : Int) ≤ (n : Int) + 1 := by omega
  have hi2 : (i : Int) + 1 ≤ (n : Int) + 1 := by omega
  have hi3 : (i : Int) ≤ (i : Int) + 1 := by omega
  have hc1 : (n : Int) + 1 ≤ (cap : Int) := by omega
  have hc2 : (i : Int) ≤ (cap : Int) := by omega
  have hc3 : (n : Int) ≤ (cap : Int) := by omega
  have hc4 : (n : Int) ≤ (n : Int) + 1 := by omega
  have hcn : ¬ (cap = n) := by omega
  have hne : ¬ ((i : Int) = (i : Int) + 1) := by omega
  have hnn : i + (n + 1 - (i + 1)) = n := by omega
  have hn1' : n + 1 - n = 1 := by omega
  have mixed : Tryz.prog.follows .mixedOrders = true := by kernel_rfl
  generalize L.take (i * 2) ++ L.drop (i * 2 + 2) = M at HF ⊢
  have hcl := Lib.hid hcl
  have hW := Lib.hid hW
  have hsrc := Lib.hid hsrc
  have hsp := Lib.hid hsp
  have hnl := Lib.hid hnl
  have hn1 := Lib.hid hn1
  have hcap63 : (cap : Int) ≤ 9223372036854775807 := by unfold maxLen at hcm; omega
  clear hW1 hw3 hR1 hO hrows hg htake hcs hLl hL1 hR1g hR1l hZ hZl hnews hcm
  go_enter Tryz.func64, Tryz.ntmps64
  go_wp2_with fail
  go_region_law_o (refine step_append_room rfl (.tmp 22) (.tmp 25) 47 rfl 53 i0 2 Tryz.underlying47 hii hz1 g 0 i cap (by simp [Act.eval, Act.put]) A (n + 1 - (i + 1)) (cap - (i + 1)) news (by simp [Act.eval, Act.put]) hnl.out hsrc.out hn1.out (by omega) hsp.out ?_; rw [hW.out])
  go_wp2
  go_ret
  exact HF.out
end Go.Proofs.YtfoknllnknjccaaGreat
