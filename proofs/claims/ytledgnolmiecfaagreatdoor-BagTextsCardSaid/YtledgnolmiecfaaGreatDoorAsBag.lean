/-
  slices.Clone at rows, and bag's asBag, as contracts.
-/
import Derived.Test.YtledgnolmiecfaaGreatDoorDel
import Derived.WalkSpells
namespace Go.Proofs.YtledgnolmiecfaaGreatDoor
open Go.RowKit
set_option linter.unusedSimpArgs false

/-- A row that lies elsewhere than in block g. -/
def RowX (g : Nat) (W : World) (r : RowV) : Prop := r.2.1.length ≤ 9223372036854775807 ∧ (r.1 = none → r.2.2 = 0) ∧ (0 < r.2.1.length → ∃ b off, r.1 = some ⟨b, off, none⟩ ∧ b < W.heap.size ∧ b ≠ g ∧ ValsAt W b off r.2.1)
theorem ValsAt.same {W W' : World} {b off : Nat} {xs : List Val} (h : ValsAt W b off xs) (hb : W'.heap[b]? = W.heap[b]?) : ValsAt W' b off xs := fun i hi =>
  ⟨(World.cell?_of_block (a := ⟨b, off + i * 3, none⟩) hb).trans (h i hi).1, (World.cell?_of_block (a := ⟨b, off + i * 3 + 1, none⟩) hb).trans (h i hi).2.1, (World.cell?_of_block (a := ⟨b, off + i * 3 + 2, none⟩) hb).trans (h i hi).2.2⟩
theorem RowX.grown {g : Nat} {W W' : World} {r : RowV} (h : RowX g W r) (hg : W.grownBy W' (some g)) : RowX g W' r := ⟨h.1, h.2.1, fun hp => by
  obtain ⟨b, off, e, hl, hne, hr⟩ := h.2.2 hp
  exact ⟨b, off, e, Nat.lt_of_lt_of_le hl hg.size, hne, hr.same (hg.block b hl (fun e' => hne (Option.some.inj e')))⟩⟩
theorem RowX.below {g : Nat} {W W' : World} {r : RowV} (h : RowX g W r) (hb : Below W.heap.size W W') : RowX g W' r := ⟨h.1, h.2.1, fun hp => by
  obtain ⟨b, off, e, hl, hne, hr⟩ := h.2.2 hp
  exact ⟨b, off, e, Nat.lt_of_lt_of_le hl hb.size, hne, hr.belowV hb hl⟩⟩
theorem RowX.ok {g : Nat} {W : World} {r : RowV} (h : RowX g W r) : RowOK W r := ⟨h.1, fun hp => by
  obtain ⟨b, off, e, hl, _, hr⟩ := h.2.2 hp
  exact ⟨b, off, e, hl, hr⟩⟩
/-- A row that lies below a number. -/
def RowB (B : Nat) (W : World) (r : RowV) : Prop := r.2.1.length ≤ 9223372036854775807 ∧ (r.1 = none → r.2.2 = 0) ∧ (0 < r.2.1.length → ∃ b off, r.1 = some ⟨b, off, none⟩ ∧ b < B ∧ ValsAt W b off r.2.1)
theorem RowB.below {B : Nat} {W W' : World} {r : RowV} (h : RowB B W r) (hb : Below B W W') : RowB B W' r := ⟨h.1, h.2.1, fun hp => by
  obtain ⟨b, off, e, hl, hr⟩ := h.2.2 hp
  exact ⟨b, off, e, hl, hr.belowV hb hl⟩⟩
theorem RowB.x {B g : Nat} {W : World} {r : RowV} (h : RowB B W r) (hg : B ≤ g) (hW : B ≤ W.heap.size) : RowX g W r := ⟨h.1, h.2.1, fun hp => by
  obtain ⟨b, off, e, hl, hr⟩ := h.2.2 hp
  exact ⟨b, off, e, by omega, by omega, hr⟩⟩
theorem RowB.of_ok {W : World} {r : RowV} (h : RowOK W r) (hz : r.1 = none → r.2.2 = 0) : RowB W.heap.size W r := ⟨h.1, hz, fun hp => by
  obtain ⟨b, off, e, hl, hr⟩ := h.2 hp
  exact ⟨b, off, e, hl, hr⟩⟩
theorem RowB.mono {B B' : Nat} {W : World} {r : RowV} (h : RowB B W r) (hB : B ≤ B') : RowB B' W r := ⟨h.1, h.2.1, fun hp => by
  obtain ⟨b, off, e, hl, hr⟩ := h.2.2 hp
  exact ⟨b, off, e, by omega, hr⟩⟩

/-- A copy of a row, in memory of its own. -/
def ClonePost (w : World) (xs : List Val) (e : Ending) (w' : World) : Prop := ∃ r : RowV, e = .returned (rowv r) ∧ r.2.1 = xs ∧ Below w.heap.size w w' ∧ (r.1 = none → r.2.2 = 0) ∧ (0 < xs.length → ∃ b, r.1 = some ⟨b, 0, none⟩ ∧ w.heap.size ≤ b ∧ b < w'.heap.size ∧ ValsAt w' b 0 xs)
theorem clonePost_of_owns {w w' : World} {v : Value} {xs : List Val} (h : OwnsV w' w.heap.size v xs) (hb : Below w.heap.size w w') : ClonePost w xs (.returned v) w' := by
  have hh := h
  rcases h.2 with ⟨rfl, h0⟩ | ⟨g, cap, cur, rfl, hg, hc, _⟩
  · have : xs = [] := List.length_eq_zero_iff.1 h0
    subst this
    exact ⟨(none, [], 0), rfl, rfl, hb, fun _ => rfl, by simp⟩
  · refine ⟨(some ⟨g, 0, none⟩, xs, cap), rfl, rfl, hb, (fun e => by cases e), fun _ => ⟨g, rfl, hg, (Array.getElem?_eq_some_iff.1 hc).1, ?_⟩⟩
    intro i hi
    obtain ⟨g0, g1, g2⟩ := flatV_get xs i hi
    simp only [Nat.zero_add]
    exact ⟨(hh.cellAt (i * 3) (by omega)).trans g0, (hh.cellAt (i * 3 + 1) (by omega)).trans g1, (hh.cellAt (i * 3 + 2) (by omega)).trans g2⟩
theorem ClonePost.x {w w' : World} {xs : List Val} {r : RowV} {g : Nat} (h1 : r.2.1 = xs) (h2 : r.1 = none → r.2.2 = 0) (h3 : 0 < xs.length → ∃ b, r.1 = some ⟨b, 0, none⟩ ∧ w.heap.size ≤ b ∧ b < w'.heap.size ∧ ValsAt w' b 0 xs) (hl : xs.length ≤ 9223372036854775807) (hg : g < w.heap.size) : RowX g w' r := by
  subst h1
  exact ⟨hl, h2, fun hp => by
    obtain ⟨b, e, hb, hb2, hr⟩ := h3 hp
    exact ⟨b, 0, e, hb2, by omega, hr⟩⟩

set_option maxRecDepth 100000 in
set_option maxHeartbeats 1000000 in
theorem clone_any (p : Option Addr) (xs : List Val) (cap : Nat) (hm : xs.length ≤ 100000) (w : World) (hX : ValsIn w p xs) (hz : p = none → cap = 0) :
    Calls Tryz.prog 96 #[.slice p xs.length cap] w (ClonePost w xs) := by
  have q22 : ∀ (w : World) (a : Option Addr) (n c : Nat), (binOp .eql 36 (.slice a n c) (.slice none 0 0)).run Tryz.prog w = .ok (.bool a.isNone) w := fun w a n c => Lib.run_eql_slice_nil w _ _ a n c 0 0 Tryz.underlying36
  cases p with
  | none =>
    have hx0 : xs = [] := by
      cases xs with
      | nil => rfl
      | cons x xs => obtain ⟨_, _, e, _⟩ := hX (by simp); cases e
    subst hx0
    clear hX hz
    go_enter Tryz.func96, Tryz.ntmps96
    go_wp2_with fail
    go_ret
    exact ⟨(none, [], 0), rfl, rfl, Below.refl _ _, fun _ => rfl, by simp⟩
  | some ad =>
    have hbA : Below w.heap.size w (w.alloc (.cells #[] 40)) := (Below.refl _ _).alloc (Nat.le_refl _) _
    have hown : (w.alloc (.cells #[] 40)).ownsRow w.heap.size 40 3 (.slice (some ⟨w.heap.size, 0, none⟩) 0 0) 0 [] := World.ownsRow_made w #[] 0 (Nat.le_refl _) (Nat.zero_le _) rfl
    have HX := Lib.hid (hX.belowV hbA)
    have HOW := Lib.hid hown
    clear hX hz hown
    go_enter Tryz.func96, Tryz.ntmps96
    go_wp2_with (at_builtin; refine wpList_append_vals rfl _ _ rfl w.heap.size _ 0 [] rfl HOW.out (some ad) xs cap rfl HX.out (fun e => by cases e) (by omega) (by simp) xs.length (by omega) (flatV xs) (List.nil_append _) ?_; intro v' w5 hown' hb5 _)
    go_ret
    exact clonePost_of_owns hown' (hbA.trans hb5)

def BagPost (B : Nat) (w : World) (l : List It) (er : Int) (e : Ending) (w' : World) : Prop :=
  ∃ (p : Option Addr) (ss : List ItR) (cap : Nat), e = .returned (.tuple #[.slice p ss.length cap, .int .i64 er]) ∧ vals ss = l ∧ ss.length ≤ cap ∧ ss.length ≤ 1000000 ∧ ItemsIn w' p ss ∧ Below B w w'
theorem bagPost_nil {B : Nat} {w w' : World} {er : Int} (h : Below B w w') : BagPost B w [] er (.returned (.tuple #[.slice none 0 0, .int .i64 er])) w' := ⟨none, [], 0, rfl, rfl, Nat.le_refl _, by simp, fun h => absurd h (by simp), h⟩
def toldErr (l : List It) : Int := if validBag l = true then 0 else 4
def toldVal (l : List It) : List It := if validBag l = true then l else []

theorem slice_of_own {W : World} {B n : Nat} {v : Value} {L : List Value} (h : W.ownsRow B 38 2 v n L) : ∃ p cap, v = .slice p n cap ∧ n ≤ cap := by
  rcases h.2 with ⟨rfl, rfl⟩ | ⟨g, cap, cur, rfl, _, _, hnc, _⟩
  · exact ⟨none, 0, rfl, Nat.le_refl _⟩
  · exact ⟨_, cap, rfl, hnc⟩
theorem items_of_own {W : World} {B n cap : Nat} {p : Option Addr} {rs : List ItR} (hn : n = rs.length) (h : W.ownsRow B 38 2 (.slice p n cap) n (flatI rs)) (hr : ∀ r ∈ rs, RowOK W r.1 ∧ (r.1.1 = none → r.1.2.2 = 0)) : ItemsIn W p rs := fun hp => by
  obtain ⟨g, cap', he, _, hgl, _⟩ := own_addr (by omega) h
  simp only [Value.slice.injEq, true_and] at he
  obtain ⟨rfl, rfl⟩ := he
  refine ⟨g, 0, rfl, hgl, fun i hi => ?_⟩
  obtain ⟨c0, c1⟩ := own_items hn h i hi
  have hm : rs[i]?.getD ir0 ∈ rs := by rw [List.getElem?_eq_getElem hi]; exact List.getElem_mem hi
  simp only [Nat.zero_add]
  exact ⟨c0, c1, (hr _ hm).1, (hr _ hm).2⟩
theorem flatI_set : ∀ (rs : List ItR) (i : Nat) (r : RowV), flatI (rs.set i (r, (rs[i]?.getD ir0).2)) = (flatI rs).set (i * 2) (rowv r)
  | [], i, r => by simp [flatI]
  | x :: xs, 0, r => by simp [flatI, cellsI]
  | x :: xs, i + 1, r => by
    have h := flatI_set xs i r
    rw [show (i + 1) * 2 = i * 2 + 2 by omega]
    simp only [flatI, List.set_cons_succ, List.flatMap_cons, cellsI, List.cons_append, List.nil_append, List.getElem?_cons_succ] at h ⊢
    rw [h]
theorem vals_set {rs : List ItR} {i : Nat} {r : RowV} (h : r.2.1 = (rs[i]?.getD ir0).1.2.1) : vals (rs.set i (r, (rs[i]?.getD ir0).2)) = vals rs := by
  unfold vals
  rw [List.map_set]
  by_cases hi : i < rs.length
  · have : itv (r, (rs[i]?.getD ir0).2) = (rs.map itv)[i]'(by simpa using hi) := by
      rw [List.getElem_map, List.getElem?_eq_getElem hi] at *
      show (r.2.1, _) = _
      rw [h]; rfl
    rw [this, List.set_getElem_self]
  · rw [List.set_eq_of_length_le (by simp; omega)]

set_option maxRecDepth 100000 in
set_option maxHeartbeats 2000000 in
theorem asBag_any (B : Nat) (v : Value) (rs : List ItR) (hm : rs.length ≤ 1000000) (w : World) (hB : B ≤ w.heap.size) (hown : w.ownsRow B 38 2 v rs.length (flatI rs)) (hr : ∀ r ∈ rs, RowB B w r.1) :
    Calls Tryz.prog 67 #[v] w fun e w' => BagPost B w (toldVal (nz (vals rs))) (toldErr (nz (vals rs))) e w' ∧ KeepsOthers w w' := by
  rw [← nzR_vals]
  have HD := Lib.hid (deleteFunc_any B v rs hm w hB hown)
  have hr' : ∀ r ∈ nzR rs, RowB B w r.1 := fun r h => hr r (List.mem_filter.1 h).1
  have hl' : (nzR rs).length ≤ 1000000 := Nat.le_trans (nzR_len rs) hm
  obtain ⟨p0, cap0, rfl⟩ := slice_of_owns hown
  have HR := Lib.hid hr'
  clear hown hr hr'
  unfold DelPost at HD
  generalize nzR rs = ts at *
  go_enter Tryz.func67, Tryz.ntmps67
  go_wp2_with fail
  refine HD.out.mono ?_
  rintro e w1 ⟨v1, rfl, ho1, hb1, hk1⟩
  obtain ⟨p, cap, rfl, hnc⟩ := slice_of_own ho1
  have hI1 : ItemsIn w1 p ts := items_of_own rfl ho1 fun r h => ⟨((HR.out r h).below hb1 |>.x (Nat.le_refl B) (Nat.le_trans hB hb1.size)).ok, (HR.out r h).2.1⟩
  have hv := bagValid_any p ts cap (by omega) hnc w1 hI1
  cases hq : validBag (vals ts) with
  | false =>
    have e1 : toldVal (vals ts) = [] := by unfold toldVal; rw [hq]; rfl
    have e2 : toldErr (vals ts) = 4 := by unfold toldErr; rw [hq]; rfl
    have E12 := Lib.hid (And.intro e1 e2)
    rw [hq] at hv
    have HV := Lib.hid hv
    clear e1 e2 hv hq HD ho1 hI1 HR
    go_wp2_with fail
    refine HV.out.mono ?_
    rintro e w2 ⟨rfl, hb2⟩
    go_wp2_with fail
    go_ret2
    rw [E12.out.1, E12.out.2]
    exact ⟨bagPost_nil (hb1.trans (hb2.mono (Nat.le_trans hB hb1.size))), hk1.trans (keepsO_of_below hb2)⟩
  | true =>
    have e1 : toldVal (vals ts) = vals ts := by unfold toldVal; rw [hq]; rfl
    have e2 : toldErr (vals ts) = 0 := by unfold toldErr; rw [hq]; rfl
    have E12 := Lib.hid (And.intro e1 e2)
    rw [hq] at hv
    have HV := Lib.hid hv
    have HQ := Lib.hid hq
    have HO1 := Lib.hid ho1
    clear e1 e2 hv hq HD ho1 hI1
    go_wp2_with fail
    refine HV.out.mono ?_
    rintro e w2 ⟨rfl, hb2⟩
    have hbw2 : Below B w w2 := hb1.trans (hb2.mono (Nat.le_trans hB hb1.size))
    have ho2 := owns_below HO1.out hb2
    have hx2 : ∀ g cap', (p = some ⟨g, 0, none⟩ ∧ cap = cap' ∧ B ≤ g) → ∀ r ∈ ts, RowX g w2 r.1 := fun g cap' ⟨_, _, hg⟩ r h => ((HR.out r h).below hbw2).x hg (Nat.le_trans hB hbw2.size)
    have hk2 := hk1.trans (keepsO_of_below hb2)
    clear hb2 HV HO1 HR hk1
    go_wp2_with fail
    go_loopw [4, 12] (fun _ s wr => ∃ (i : Nat) (ss : List ItR), s = .int .i64 i ∧ i ≤ ts.length ∧ ss.length = ts.length ∧ Hid (vals ss = vals ts) ∧ wr.ownsRow B 38 2 (.slice p ts.length cap) ts.length (flatI ss) ∧ (∀ g cap', (p = some ⟨g, 0, none⟩ ∧ cap = cap' ∧ B ≤ g) → ∀ r ∈ ss, RowX g wr r.1) ∧ Below B w wr ∧ KeepsOthers w wr) (fun _ s _ => ts.length - (intOf s).toNat)
    case atStart => exact ⟨0, ts, rfl, Nat.zero_le _, rfl, rfl, ho2, hx2, hbw2, hk2⟩
    case round =>
      clear ho2 hx2 hbw2 hb1 hk2
      obtain ⟨i, ss, rfl, hi, hsl, hvs, hrow, hx, hBw, hKO⟩ := hrel
      have HX := Lib.hid hx
      have HROW := Lib.hid hrow
      have HSL := Lib.hid hsl
      clear hx hsl
      by_cases hlt : i < ts.length
      · obtain ⟨g, cap', he, hBg, hgl, _⟩ := own_addr (by omega) hrow
        simp only [Value.slice.injEq, true_and] at he
        obtain ⟨rfl, rfl⟩ := he
        have hil : i < ss.length := by rw [HSL.out]; exact hlt
        obtain ⟨c0, _⟩ := own_items HSL.out.symm hrow i hil
        have hi0 : (0 : Int) ≤ (i : Int) := by omega
        have hi1 : (i : Int) < (ts.length : Int) := by omega
        have hmem : ss[i]?.getD ir0 ∈ ss := by rw [List.getElem?_eq_getElem hil]; exact List.getElem_mem hil
        have hxr := HX.out g cap ⟨rfl, rfl, hBg⟩ _ hmem
        have hvr : validRow (ss[i]?.getD ir0).1.2.1 = true := (itOK_iff.1 ((validBag_iff.1 HQ.out).2.1 (itv (ss[i]?.getD ir0)) (by rw [← hvs.out]; exact List.mem_map_of_mem hmem))).1
        have hlen : (ss[i]?.getD ir0).1.2.1.length ≤ 8 := by unfold validRow at hvr; rw [Bool.and_eq_true, decide_eq_true_eq] at hvr; exact hvr.1
        have hset := fun (r : RowV) (h : r.2.1 = (ss[i]?.getD ir0).1.2.1) => And.intro (vals_set (i := i) h) (flatI_set ss i r)
        have HSET := Lib.hid hset
        have hmem2 : ∀ (x : ItR), ∀ y ∈ ss.set i x, y ∈ ss ∨ y = x := fun x y hy => List.mem_or_eq_of_mem_set hy
        have HM2 := Lib.hid hmem2
        have f0 := hrow.frozenAt (i * 2)
        clear hvr hmem hset hmem2 hrow
        generalize (ss[i]?.getD ir0) = r at c0 hxr hlen HSET
        obtain ⟨⟨q, xs, qc⟩, n⟩ := r
        dsimp only [rowv] at c0 hxr hlen HSET
        have HC := Lib.hid (clone_any q xs qc (by omega) wr hxr.ok.2 hxr.2.1)
        have hBs := hBw.size
        clear hxr
        go_wp2_with fail
        refine HC.out.mono ?_
        rintro e w3 ⟨⟨rq, rx, rc⟩, rfl, rfl, hb3, hn3, hp3⟩
        dsimp only [rowv] at *
        have c3 := (hb3.cell (p := ⟨g, i * 2, none⟩) hgl).trans c0
        have f3 := (owns_below HROW.out hb3).frozenAt (i * 2)
        have hst := (owns_below HROW.out hb3).stored (i * 2) (.slice rq rx.length rc)
        have HST := Lib.hid hst
        have hbE : Below B w (w3.setCell ⟨g, i * 2, none⟩ (.slice rq rx.length rc)) := (hBw.trans (hb3.mono (Nat.le_trans hB hBs))).setCell hBg _
        have hrx : RowX g w3 (rq, rx, rc) := ClonePost.x (w := wr) rfl hn3 hp3 (by show rx.length ≤ _; omega) hgl
        have HXX := Lib.hid (show ∀ g' cap', (some (⟨g, 0, none⟩ : Addr) = some ⟨g', 0, none⟩ ∧ cap = cap' ∧ B ≤ g') → ∀ r ∈ ss.set i ((rq, rx, rc), n), RowX g' (w3.setCell ⟨g, i * 2, none⟩ (.slice rq rx.length rc)) r.1 from by
          rintro g' cap' ⟨e, _, _⟩ r hr
          cases e
          rcases HM2.out _ r hr with h | rfl
          · exact ((HX.out g cap ⟨rfl, rfl, hBg⟩ r h).below hb3).grown HST.out.2
          · exact hrx.grown HST.out.2)
        have hKE := (hKO.trans (keepsO_of_below hb3)).trans (KeepsOthers.setCell _ ⟨g, i * 2, none⟩ (.slice rq rx.length rc))
        clear hst hb3 hn3 hp3 hrx c0 f0
        go_wp2_with fail
        go_roundw
        case rel => exact ⟨i + 1, ss.set i ((rq, rx, rc), n), by go_num, by omega, by rw [List.length_set]; exact HSL.out, (by show _ = _; rw [(HSET.out (rq, rx, rc) rfl).1]; exact hvs.out), by rw [(HSET.out (rq, rx, rc) rfl).2]; exact HST.out.1, HXX.out, hbE, hKE⟩
        case measure => simp [intOf]; omega
      · have hge : (ts.length : Int) ≤ (i : Int) := by omega
        have HI := Lib.hid (show ItemsIn wr p ss from items_of_own HSL.out.symm HROW.out fun r h => by
          obtain ⟨g, cap', he, hBg, _, _⟩ := own_addr (by rw [← HSL.out]; exact List.length_pos_of_mem h) HROW.out
          simp only [Value.slice.injEq, true_and] at he
          have hxr := HX.out g cap' ⟨he.1, he.2, hBg⟩ r h
          exact ⟨hxr.ok, hxr.2.1⟩)
        go_wp2_with fail
        go_ret2
        rw [E12.out.1, E12.out.2]
        exact ⟨⟨p, ss, cap, by rw [HSL.out] <;> rfl, hvs.out, by rw [HSL.out]; exact hnc, by rw [HSL.out]; exact hl', HI.out, hBw⟩, hKO⟩
#print axioms asBag_any
end Go.Proofs.YtledgnolmiecfaaGreatDoor
