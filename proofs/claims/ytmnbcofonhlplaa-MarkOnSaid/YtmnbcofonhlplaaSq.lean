/-
  Sorted where it refuses; the document's own Sorted, as a contract.
-/
import Derived.Test.YtmnbcofonhlplaaSp
namespace Go.Proofs.Ytmnbcofonhlplaa
open Go.RowKit
set_option linter.unusedSimpArgs false

theorem sortNil (w w' : World) (er : Int) (hb : Below w.heap.size w w') : SortPost w [] [] er (.returned (.tuple #[.slice none 0 0, .slice none 0 0, .int .i64 er])) w' := ⟨none, 0, none, 0, [], [], rfl, (fun h => absurd h (by simp)), (fun h => absurd h (by simp)), rfl, rfl, hb⟩
set_option maxRecDepth 100000 in
set_option maxHeartbeats 1000000 in
theorem mkSorted_bad (b : Int) (p : Option Addr) (es : List EvR) (cap : Nat) (hm : es.length ≤ 9223372036854775807) (hA : areEv es = false) (w : World) (hX : EvsIn w p es) :
    Calls Try.prog 25 #[.int .i64 b, .slice p es.length cap] w (SortPost w [] [] 1) := by
  have hbB := ((below_new w (.cells #[.slice none 0 0] 42)).alloc (by simp) (.cells #[.slice none 0 0] 42))
  have HA := Lib.hid (areEvents_any p es cap hm _ (hX.belowV hbB))
  rw [hA] at HA
  have HBB := Lib.hid hbB
  clear hX hbB hA
  go_enter Try.func25, Try.ntmps25
  go_wp2_with fail
  refine HA.out.mono ?_
  rintro e w1 ⟨rfl, hb1⟩
  have HB1 := Lib.hid (HBB.out.trans (hb1.mono HBB.out.size))
  have K4 := (show Blk w1 w.heap.size 42 #[.slice none 0 0] from ((Blk.new w _ _).allocG _).belowV hb1 (by simp; omega))
  have K5 := (show Blk w1 (w.heap.size + 1) 42 #[.slice none 0 0] from (Blk.newAt _ _ _ (by simp)).belowV hb1 (by simp))
  have c4 := K4.cell 0
  have c5 := K5.cell 0
  have f4 := K4.froz 0
  have f5 := K5.froz 0
  simp only [List.getElem?_toArray, List.getElem?_cons_zero] at c4 c5
  have k4 := Lib.hid (show Blk ((w1.setCell ⟨w.heap.size, 0, none⟩ (.slice none 0 0)).setCell ⟨w.heap.size + 1, 0, none⟩ (.slice none 0 0)) w.heap.size 42 #[.slice none 0 0] from (K4.setG 0 (.slice none 0 0)).setOther (by omega) _)
  have k5 := Lib.hid (show Blk ((w1.setCell ⟨w.heap.size, 0, none⟩ (.slice none 0 0)).setCell ⟨w.heap.size + 1, 0, none⟩ (.slice none 0 0)) (w.heap.size + 1) 42 #[.slice none 0 0] from (K5.setOther (by omega) _).setG 0 (.slice none 0 0))
  clear hb1 K4 K5
  go_wp2_with fail
  have r4 := k4.out.cell 0
  have r5 := k5.out.cell 0
  simp only [List.getElem?_toArray, List.getElem?_cons_zero] at r4 r5
  refine bodyPost_ret (v := .tuple #[.slice none 0 0, .slice none 0 0, .int .i64 1]) (by simp [results, Try.f25, go_sem, r4, r5]) rfl (sortNil _ _ _ ((HB1.out.setCell (p := ⟨w.heap.size, 0, none⟩) (Nat.le_refl _) _).setCell (p := ⟨w.heap.size + 1, 0, none⟩) (by show w.heap.size ≤ w.heap.size + 1; omega) _))
set_option maxRecDepth 100000 in
set_option maxHeartbeats 1000000 in
theorem mkSorted_range (b : Int) (p : Option Addr) (es : List EvR) (cap : Nat) (hm : es.length ≤ 9223372036854775807) (hA : areEv es = true) (hb : inR b 0 1000000000 = false) (w : World) (hX : EvsIn w p es) :
    Calls Try.prog 25 #[.int .i64 b, .slice p es.length cap] w (SortPost w [] [] 7) := by
  have hbB := ((below_new w (.cells #[.slice none 0 0] 42)).alloc (by simp) (.cells #[.slice none 0 0] 42))
  have HA := Lib.hid (areEvents_any p es cap hm _ (hX.belowV hbB))
  rw [hA] at HA
  have HG := Lib.hid fun W => mkGa_bad b hb W
  have HBB := Lib.hid hbB
  clear hX hbB hA hb
  go_enter Try.func25, Try.ntmps25
  go_wp2_with fail
  refine HA.out.mono ?_
  rintro e w1 ⟨rfl, hb1⟩
  have HB1 := Lib.hid (HBB.out.trans (hb1.mono HBB.out.size))
  have K4 := (show Blk w1 w.heap.size 42 #[.slice none 0 0] from ((Blk.new w _ _).allocG _).belowV hb1 (by simp; omega))
  have K5 := (show Blk w1 (w.heap.size + 1) 42 #[.slice none 0 0] from (Blk.newAt _ _ _ (by simp)).belowV hb1 (by simp))
  have c4 := K4.cell 0
  have c5 := K5.cell 0
  have f4 := K4.froz 0
  have f5 := K5.froz 0
  simp only [List.getElem?_toArray, List.getElem?_cons_zero] at c4 c5
  have k4 := Lib.hid (show Blk ((w1.setCell ⟨w.heap.size, 0, none⟩ (.slice none 0 0)).setCell ⟨w.heap.size + 1, 0, none⟩ (.slice none 0 0)) w.heap.size 42 #[.slice none 0 0] from (K4.setG 0 (.slice none 0 0)).setOther (by omega) _)
  have k5 := Lib.hid (show Blk ((w1.setCell ⟨w.heap.size, 0, none⟩ (.slice none 0 0)).setCell ⟨w.heap.size + 1, 0, none⟩ (.slice none 0 0)) (w.heap.size + 1) 42 #[.slice none 0 0] from (K5.setOther (by omega) _).setG 0 (.slice none 0 0))
  clear hb1 K4 K5
  go_wp2_with fail
  refine (HG.out _).mono ?_
  rintro e w2 ⟨rfl, rfl⟩
  go_wp2_with fail
  have r4 := k4.out.cell 0
  have r5 := k5.out.cell 0
  simp only [List.getElem?_toArray, List.getElem?_cons_zero] at r4 r5
  refine bodyPost_ret (v := .tuple #[.slice none 0 0, .slice none 0 0, .int .i64 7]) (by simp [results, Try.f25, go_sem, r4, r5]) rfl (sortNil _ _ _ ((HB1.out.setCell (p := ⟨w.heap.size, 0, none⟩) (Nat.le_refl _) _).setCell (p := ⟨w.heap.size + 1, 0, none⟩) (by show w.heap.size ≤ w.heap.size + 1; omega) _))
def sortErr (b : Int) (es : List EvR) : Int := if areEv es = false then 1 else if inR b 0 1000000000 = false then 7 else 0
def sortOn (b : Int) (es : List EvR) : List Ev := if sortErr b es = 0 then onP (plTo b es es.length) else []
def sortLate (b : Int) (es : List EvR) : List Ev := if sortErr b es = 0 then lateP (plTo b es es.length) else []
theorem mkSorted_any (b : Int) (p : Option Addr) (es : List EvR) (cap : Nat) (hm : es.length ≤ 9223372036854775807) (w : World) (hX : EvsIn w p es) :
    Calls Try.prog 25 #[.int .i64 b, .slice p es.length cap] w (SortPost w (sortOn b es) (sortLate b es) (sortErr b es)) := by
  cases hA : areEv es with
  | false =>
    have hE : sortErr b es = 1 := by simp [sortErr, hA]
    rw [sortOn, sortLate, if_neg (by omega), if_neg (by omega), hE]
    exact mkSorted_bad b p es cap hm hA w hX
  | true =>
    cases hb : inR b 0 1000000000 with
    | false =>
      have hE : sortErr b es = 7 := by simp [sortErr, hA, hb]
      rw [sortOn, sortLate, if_neg (by omega), if_neg (by omega), hE]
      exact mkSorted_range b p es cap hm hA hb w hX
    | true =>
      have hE : sortErr b es = 0 := by simp [sortErr, hA, hb]
      rw [sortOn, sortLate, if_pos hE, if_pos hE, hE]
      unfold areEv at hA
      rw [Bool.and_eq_true, decide_eq_true_eq] at hA
      exact mkSorted_ok b p es cap hA.1 hb hA.2 w hX

/-- A copy of an event, of the call's own. -/
def OwnEvPost (w : World) (x : Ev) (e : Ending) (w' : World) : Prop := ∃ y : EvR, e = .returned (.agg #[.int .i64 y.1, rowv y.2]) ∧ evv y = x ∧ OwnsV w' w.heap.size (rowv y.2) y.2.2.1 ∧ Below w.heap.size w w'
set_option maxRecDepth 100000 in
set_option maxHeartbeats 1000000 in
theorem ownEvent_any (x : EvR) (hl : x.2.2.1.length ≤ 100000) (w : World) (h : EvOK w x) :
    Calls Try.prog 55 #[.agg #[.int .i64 x.1, rowv x.2]] w (OwnEvPost w (evv x)) := by
  obtain ⟨t, q, xs, c⟩ := x
  dsimp only [rowv, evv] at *
  have hb2 := ((below_new w (.cells #[.int .i64 t, .slice q xs.length c] 55)).alloc (by simp) (.cells #[.int .i64 0, .slice none 0 0] 55))
  have k1 : Blk ((w.alloc (.cells #[.int .i64 t, .slice q xs.length c] 55)).alloc (.cells #[.int .i64 0, .slice none 0 0] 55)) w.heap.size 55 #[.int .i64 t, .slice q xs.length c] := (Blk.new w _ _).allocG _
  have k2 : Blk ((w.alloc (.cells #[.int .i64 t, .slice q xs.length c] 55)).alloc (.cells #[.int .i64 0, .slice none 0 0] 55)) (w.heap.size + 1) 55 #[.int .i64 0, .slice none 0 0] := Blk.newAt _ _ _ (by simp)
  have hV : ValsIn ((w.alloc (.cells #[.int .i64 t, .slice q xs.length c] 55)).alloc (.cells #[.int .i64 0, .slice none 0 0] 55)) q xs := h.1.2.belowV hb2
  have hz := h.2
  have hs2 : ((w.alloc (.cells #[.int .i64 t, .slice q xs.length c] 55)).alloc (.cells #[.int .i64 0, .slice none 0 0] 55)).heap.size = w.heap.size + 2 := by simp
  obtain ⟨W1, hW1⟩ : ∃ W1, W1 = (w.alloc (.cells #[.int .i64 t, .slice q xs.length c] 55)).alloc (.cells #[.int .i64 0, .slice none 0 0] 55) := ⟨_, rfl⟩
  rw [← hW1] at hb2 k1 k2 hV hs2
  have HB := Lib.hid hb2
  have K1 := Lib.hid k1
  have K2 := Lib.hid k2
  have HS2 := Lib.hid hs2
  have HO := Lib.hid (Own_any q xs c hl W1.drew hV hz)
  clear hb2 k1 k2 hV hz h hs2
  go_enter Try.func55, Try.ntmps55
  go_wp2_with fail
  rw [← hW1]
  clear hW1
  refine wp_region_held_drew (S := fun w' : World => w'.cell? ⟨w.heap.size, 0, none⟩ = some (.int .i64 t) ∧ w'.cell? ⟨w.heap.size, 1, none⟩ = some (.slice q xs.length c)) (by kernel_rfl) ⟨K1.out.cell 0, K1.out.cell 1⟩ (fun hHeld => ?_)
  refine wpAnyH_take (i := 0) (oi := _) (v := ?_) rfl (by kernel_rfl) (by kernel_rfl) (by kernel_rfl) (fun _ _ _ h => h) (Or.inl ⟨by rfl, ?_⟩) (by assumption) ?_
  rotate_left
  · intro w hSw
    try dsimp only at hSw
    go_simp
    all_goals with_reducible rfl
  simp only [List.getElem_toArray, List.getElem_cons_succ, List.getElem_cons_zero, Act.put, List.setIfInBounds_toArray, List.set_cons_zero, List.set_cons_succ]
  refine wpAnyH_take (i := 1) (oi := _) (v := ?_) rfl (by kernel_rfl) (by kernel_rfl) (by kernel_rfl) (fun _ _ _ h => h) (Or.inl ⟨by rfl, ?_⟩) (by assumption) ?_
  rotate_left
  · intro w hSw
    try dsimp only at hSw
    go_simp
    all_goals with_reducible rfl
  simp only [List.getElem_toArray, List.getElem_cons_succ, List.getElem_cons_zero, Act.put, List.setIfInBounds_toArray, List.set_cons_zero, List.set_cons_succ]
  refine wpAnyH_take (i := 2) (oi := _) (v := ?_) rfl (by kernel_rfl) (by kernel_rfl) (by kernel_rfl) (fun _ _ _ h => h) (Or.inl ⟨by rfl, ?_⟩) (by assumption) ?_
  rotate_left
  · intro w hSw
    try dsimp only at hSw
    go_simp
    all_goals with_reducible rfl
  simp only [List.getElem_toArray, List.getElem_cons_succ, List.getElem_cons_zero, Act.put, List.setIfInBounds_toArray, List.set_cons_zero, List.set_cons_succ]
  refine wpAnyH_take (i := 3) (oi := _) (v := ?_) rfl (by kernel_rfl) (by kernel_rfl) (by kernel_rfl) (fun _ _ _ h => h) (Or.inl ⟨by rfl, ?_⟩) (by assumption) ?_
  rotate_left
  · intro w hSw
    try dsimp only at hSw
    go_simp
    all_goals with_reducible rfl
  simp only [List.getElem_toArray, List.getElem_cons_succ, List.getElem_cons_zero, Act.put, List.setIfInBounds_toArray, List.set_cons_zero, List.set_cons_succ]
  refine wpAnyH_ready (rs := [4]) (by kernel_rfl) (by simp) ?_
  refine AllReadyH.cons (o := _) rfl (fun K hK => ?_) AllReadyH.nil
  go_simp
  refine HO.out.mono ?_
  rintro e w2 ⟨⟨rq, rx, rc⟩, rfl, hr1, hr2, hb2⟩
  dsimp only at hr1
  have hb2' := (Below.refl _ W1).drew.trans hb2
  have k1 := K1.out.belowV hb2' K1.out.lt
  have k2 := K2.out.belowV hb2' K2.out.lt
  have d0 := k2.cell 0
  have d1 := k2.cell 1
  have z0 := k2.froz 0
  have z1 := k2.froz 1
  simp only [List.getElem?_toArray, List.getElem?_cons_zero, List.getElem?_cons_succ] at d0 d1
  have hsz := HS2.out
  have HW2 := Lib.hid (show Below w.heap.size w w2 ∧ OwnsV w2 w.heap.size (rowv (rq, rx, rc)) rx ∧ rx = xs ∧ Blk w2 w.heap.size 55 #[.int .i64 t, .slice q xs.length c] ∧ Blk w2 (w.heap.size + 1) 55 #[.int .i64 0, .slice none 0 0] from ⟨HB.out.trans (hb2'.mono HB.out.size), by have := ownsRow_base hr2 (show w.heap.size ≤ W1.drew.heap.size from HB.out.size); rwa [← hr1] at this, hr1, k1, k2⟩)
  clear hr1 hr2 hb2 hb2' k1 k2 hsz
  dsimp only [rowv]
  refine hK.out _ _ ⟨HW2.out.2.2.2.1.cell 0, HW2.out.2.2.2.1.cell 1⟩ (fun hHeld2 => ?_)
  clear hHeld
  clear hK K
  try simp only [List.getElem_toArray, List.getElem_cons_succ, List.getElem_cons_zero, Act.put, List.setIfInBounds_toArray, List.set_cons_zero, List.set_cons_succ]
  refine wpAnyH_take (i := 5) (oi := _) (v := ?_) rfl (by kernel_rfl) (by kernel_rfl) (by kernel_rfl) (fun _ _ _ h => h) (Or.inl ⟨by rfl, ?_⟩) (by assumption) ?_
  rotate_left
  · intro w hSw
    try dsimp only at hSw
    go_simp
    all_goals with_reducible rfl
  simp only [List.getElem_toArray, List.getElem_cons_succ, List.getElem_cons_zero, Act.put, List.setIfInBounds_toArray, List.set_cons_zero, List.set_cons_succ]
  refine wpAnyH_ready (rs := [6]) (by kernel_rfl) (by simp) ?_
  refine AllReadyH.cons (o := _) rfl (fun K hK => ?_) AllReadyH.nil
  go_simp
  have HF := Lib.hid (show Blk ((w2.setCell ⟨w.heap.size + 1, 0, none⟩ (.int .i64 t)).setCell ⟨w.heap.size + 1, 1, none⟩ (.slice rq rx.length rc)) (w.heap.size + 1) 55 #[.int .i64 t, .slice rq rx.length rc] ∧ Blk ((w2.setCell ⟨w.heap.size + 1, 0, none⟩ (.int .i64 t)).setCell ⟨w.heap.size + 1, 1, none⟩ (.slice rq rx.length rc)) w.heap.size 55 #[.int .i64 t, .slice q xs.length c] ∧ OwnsV ((w2.setCell ⟨w.heap.size + 1, 0, none⟩ (.int .i64 t)).setCell ⟨w.heap.size + 1, 1, none⟩ (.slice rq rx.length rc)) w.heap.size (rowv (rq, rx, rc)) rx ∧ Below w.heap.size w ((w2.setCell ⟨w.heap.size + 1, 0, none⟩ (.int .i64 t)).setCell ⟨w.heap.size + 1, 1, none⟩ (.slice rq rx.length rc)) from by
    obtain ⟨b2, o2, _, j1, j2⟩ := HW2.out
    have ja := j2.setG 0 (.int .i64 t)
    have jb := ja.setG 1 (.slice rq rx.length rc)
    have oa := own_keep2 o2 (keep2_set w2 (w.heap.size + 1) 0 (.int .i64 t) none) (fun z hz => ⟨apart_blk o2 j2 (by decide) z hz, fun e => by cases e⟩)
    exact ⟨jb, (j1.setOther (by omega) _).setOther (by omega) _, own_keep2 oa (keep2_set _ (w.heap.size + 1) 1 _ none) (fun z hz => ⟨apart_blk oa ja (by decide) z hz, fun e => by cases e⟩), (b2.setCell (p := ⟨w.heap.size + 1, 0, none⟩) (by show w.heap.size ≤ w.heap.size + 1; omega) _).setCell (p := ⟨w.heap.size + 1, 1, none⟩) (by show w.heap.size ≤ w.heap.size + 1; omega) _⟩)
  refine hK.out _ _ ⟨HF.out.2.1.cell 0, HF.out.2.1.cell 1⟩ (fun hHeld3 => ?_)
  clear hHeld2 hK K
  refine wpAnyH_done (by kernel_rfl) ?_ _
  go_wp2_with fail
  have r4 := HF.out.1.cell 0
  have r5 := HF.out.1.cell 1
  simp only [List.getElem?_toArray, List.getElem?_cons_zero, List.getElem?_cons_succ] at r4 r5
  refine bodyPost_ret (v := .agg #[.int .i64 t, .slice rq rx.length rc]) (by simp [results, Try.f55, go_sem, r4, r5]) rfl ?_
  exact ⟨(t, rq, rx, rc), rfl, by show (t, rx) = (t, xs); rw [HW2.out.2.2.1], HF.out.2.2.1, HF.out.2.2.2⟩
end Go.Proofs.Ytmnbcofonhlplaa
