/-
  ParseSchema of package row, as a contract.
-/
import Derived.Test.YtlhhkiglpehnfaaDoorSf
import Derived.BigRegion
namespace Go.Proofs.YtlhhkiglpehnfaaDoor
open Go.RowKit
set_option linter.unusedSimpArgs false
set_option linter.unusedVariables false
attribute [local go_sem] Oper.semAt_some

theorem piece_small : ∀ (n : Nat) (s : List UInt8), (∀ x ∈ pieces n s, x.length ≤ s.length) ∧ (pieces n s).length ≤ n + 1
  | 0, s => ⟨fun x hx => by rw [show pieces 0 s = [s] from rfl, List.mem_singleton] at hx; subst hx; exact Nat.le_refl _, Nat.le_refl _⟩
  | n + 1, s => by
    unfold pieces
    split
    · obtain ⟨h1, h2⟩ := piece_small n (s.drop ((Lib.index s [44, 32]).toNat + 2))
      refine ⟨fun x hx => ?_, by rw [List.length_cons]; omega⟩
      rcases List.mem_cons.1 hx with rfl | hx
      · rw [List.length_take]; omega
      · have := h1 x hx
        rw [List.length_drop] at this
        omega
    · exact ⟨fun x hx => by rw [List.mem_singleton] at hx; subst hx; exact Nat.le_refl _, by simp⟩
theorem col_small (p : List UInt8) : (colOf p).1.size ≤ p.length := by
  have h : (Lib.cut p [32]).1.length ≤ p.length := by
    unfold Lib.cut
    split
    · rw [List.length_take]; omega
    · exact Nat.le_refl _
  have : (colOf p).1.size = (Lib.cut p [32]).1.length := by unfold colOf; simp [ByteArray.size]
  omega
theorem colsP_eq {pre : List ByteArray} {s : List UInt8} {n : Nat} (h : bytesL pre = pieces n s) : colsP pre = (pieces n s).map colOf := by
  rw [← h]; unfold colsP bytesL; rw [List.map_map]; rfl

theorem grownBy_putObjS (W : World) (D : Nat) (o : Obj) : W.grownBy (W.putObj D o) (some D) :=
  ⟨rfl, rfl, rfl, by simp, fun k _ hne => World.putObj_heap_other (fun e => hne (by rw [e]))⟩
theorem own_put {W : World} {lo n size D : Nat} {e : TypeId} {v : Value} {xs : List Value} {o o' : Obj} (h : W.ownsRow lo e size v n xs) (hd : W.heap[D]? = some o) (ho : o.isCells = false) : (W.putObj D o').ownsRow lo e size v n xs := by
  refine h.kept (grownBy_putObjS W D o') ?_
  cases hv : v.ownBlock with
  | none => exact .inl rfl
  | some x =>
    refine .inr fun e1 => ?_
    obtain ⟨cur, hc⟩ := own_type h x hv
    simp only [Option.some.injEq] at e1
    subst e1
    rw [hd] at hc; cases hc; cases ho

set_option maxRecDepth 100000 in
set_option maxHeartbeats 4000000 in
theorem rowParseS_any (s : ByteArray) (hs : s.size ≤ 65536) (m : Int) (w : World) (hM : w.cell? ⟨0, 0, none⟩ = some (.int .i64 m)) (er : Int) (out : List Col)
    (hfin : (schemaOK ((pieces s.size s.data.toList).map colOf) = true ∧ er = 0 ∧ out = (pieces s.size s.data.toList).map colOf) ∨ (schemaOK ((pieces s.size s.data.toList).map colOf) = false ∧ er = 2 ∧ out = [])) :
    Calls Tryd.prog 7 #[.string s] w (ParseP w out er) := by
  refine (callsIn_wide (n := 5)).1 ?_
  obtain ⟨i0, hii, hz0, hz1, hz2⟩ := info_parts infoC
  have h1 : (s.size : Int) ≤ 65536 := by omega
  have HFI := Lib.hid hfin
  have HM := Lib.hid hM
  have hMn : 0 < w.heap.size := World.block_lt_of_cell? w _ hM
  clear hfin hM
  refine callsIn_of_wp_marks Tryd.func7 rfl trivial ?_ rfl
  simp only [Tryd.ntmps7, List.size_toArray, List.length_cons, List.length_nil, Nat.reduceAdd, Nat.reduceSub, Array.replicate_succ, Array.replicate_zero, List.push_toArray, List.append_toArray, List.nil_append, List.cons_append]
  gi_wp2_with fail
  have HB1 := Lib.hid (below_newS w (.cells #[.slice none 0 0] 23))
  have HK1 := Lib.hid (Blk.new w 23 #[.slice none 0 0])
  generalize hw1 : w.alloc (.cells #[.slice none 0 0] 23) = w1 at HB1 HK1 ⊢
  have hs1 : w1.heap.size = w.heap.size + 1 := by rw [← hw1]; simp
  clear hw1
  refine ⟨trivial, (callsIn_wide.2 (SplitSeq_any s ⟨#[44, 32]⟩ w1)).mono ?_⟩
  rintro e w2 ⟨rfl, hw2⟩
  have hb2 : Below w1.heap.size w1 w2 := by
    rw [hw2]; exact (((Below.refl _ _).alloc (Nat.le_refl _) _).alloc (by simp) _).alloc (by simp; omega) _
  have hs2 : w2.heap.size = w1.heap.size + 3 := by rw [hw2]; simp
  have KB := Lib.hid (show Blk w2 w1.heap.size 9 #[.string s] by rw [hw2]; exact ((Blk.new w1 _ _).allocG _).allocG _)
  have KP := Lib.hid (show w2.cell? ⟨w1.heap.size + 1, 0, none⟩ = some (.string ⟨#[44, 32]⟩) by rw [hw2]; exact ((Blk.newAt _ 9 #[.string ⟨#[44, 32]⟩] (by simp)).allocG _).cell 0)
  have KV := Lib.hid (show w2.cell? ⟨w1.heap.size + 2, 0, none⟩ = some (.int .i64 0) by rw [hw2]; exact (Blk.newAt _ 3 #[.int .i64 0] (by simp)).cell 0)
  have HK2 := Lib.hid (HK1.out.belowV hb2 HK1.out.lt)
  have HB2 := Lib.hid (HB1.out.trans (hb2.mono HB1.out.size))
  have HM2 := Lib.hid ((HB2.out.cell (p := ⟨0, 0, none⟩) hMn).trans HM.out)
  rw [hs1] at KB KP KV hs2
  clear hw2 hb2 HK1 HB1
  gi_wp2_with fail
  refine range_own (F := Fence.wide) (w.heap.size + 1) (by omega) rfl (by omega) (gf := 37) (lb := #[.pointer (some ⟨w.heap.size + 1 + 1, 0, none⟩), .pointer (some ⟨w.heap.size + 1, 0, none⟩), .pointer (some ⟨w.heap.size + 1 + 2, 0, none⟩)]) rfl trivial (enters_of Tryd.func37 (by kernel_rfl) rfl)
    (split_in 4 (by omega) w.heap.size (w.heap.size + 1) (w.heap.size + 1 + 1) (w.heap.size + 1 + 2) m s hs w2 (by omega) (by omega) (by omega) (by omega) (by omega) (by omega) KB.out KP.out KV.out HM2.out hMn)
    (fun h k => h.trans k) ?_ (fun _ => rfl)
    (SchI w2.heap.size w.heap.size w.heap.size (w.heap.size + 1) (w.heap.size + 1 + 1) (w.heap.size + 1 + 2) w)
    (fun st X Y row hst hg hr => hst.aside (by omega) (hst.low rfl) hg (fun r e => ⟨by have := (hr r e).1; omega, .inl (hr r e).2⟩))
    (fun st X Y hst hg => hst.aside (by omega) (hst.low rfl) hg (fun r e => by cases e; exact ⟨by omega, .inr rfl⟩))
    ⟨_, HK2.out, World.ownsRow_nil _ _ _ _, (fun x h => by cases h), HB2.out, Nat.le_refl _⟩
    (fun pre x a' W => x.size ≤ s.size ∧ pre.length ≤ s.size ∧ a' = { tmps := #[.string s, undef, .slice none 0 0, .int .i64 0, .pointer (some ⟨w.heap.size, 0, none⟩), .string x, undef, undef, undef, .string s, .int .i64 (s.size : Int), .bool (decide (65536 < (s.size : Int))), .string s, .func (.func 37) #[] #[.pointer (some ⟨w.heap.size + 1 + 1, 0, none⟩), .pointer (some ⟨w.heap.size + 1, 0, none⟩), .pointer (some ⟨w.heap.size + 1 + 2, 0, none⟩)], .string x, undef, undef, undef, undef, undef, undef, undef, undef, undef, undef, undef, undef, undef, undef, undef, undef, undef], defers := [] })
    ?_ ?assign ?body ?done
  · intro W l o o' hl ho hc
    refine ⟨by simp, fun k hk hlt => World.putObj_heap_other ?_⟩
    omega
  · intro pre x a' st X Y row hst hg hr
    exact hst
  case assign =>
    rintro l pre x W K hI hok hK
    simp only [encS]
    gi_wp2_with fail
    exact hK _ _ ((KeepsOthers.refl _).from _) ⟨Nat.le_refl _, fun _ _ _ => rfl⟩ hI ⟨hok.1, hok.2, rfl⟩
  case body =>
    rintro l pre x a' W hI ⟨hxs, hps, rfl⟩
    have hnW := hI.low rfl
    obtain ⟨v, k4, o4, nn, hbW, hsz⟩ := hI
    obtain ⟨q, cap, rfl, _, _⟩ := slice_of_ownsC o4
    have hlen : (colsP pre).length ≤ 65536 := by unfold colsP; rw [List.length_map]; omega
    have hM := (hbW.cell (p := ⟨0, 0, none⟩) hMn).trans HM.out
    have HC := Lib.hid (Tryd.strings_Cut x ⟨#[32]⟩ m W (by omega) hM)
    rw [show (⟨#[32]⟩ : ByteArray).data.toList = [32] from rfl] at HC
    have HCO := Lib.hid (show colOf x.data.toList = (⟨(Lib.cut x.data.toList [32]).1.toArray⟩, meantZ (Lib.cut x.data.toList [32]).2.1) from rfl)
    have HCS := Lib.hid (show colsP (pre ++ [x]) = colsP pre ++ [colOf x.data.toList] from by simp [colsP])
    have HMT := Lib.hid (meant_any ⟨(Lib.cut x.data.toList [32]).2.1.toArray⟩)
    rw [show (⟨(Lib.cut x.data.toList [32]).2.1.toArray⟩ : ByteArray).data.toList = (Lib.cut x.data.toList [32]).2.1 from rfl] at HMT
    generalize (⟨(Lib.cut x.data.toList [32]).1.toArray⟩ : ByteArray) = nm at HC HCO
    generalize meantZ (Lib.cut x.data.toList [32]).2.1 = kd at HCO HMT
    generalize (⟨(Lib.cut x.data.toList [32]).2.1.toArray⟩ : ByteArray) = kw at HC HMT
    rw [HCO.out] at HCS
    clear hM HCO
    gi_wp2_with fail
    refine ⟨trivial, (calls_round HC.out).mono ?_⟩
    rintro e W1 ⟨rfl, kk, rfl⟩
    clear HC
    gi_wp2_with fail
    refine region_round_held (S := fun _ : World => True) (by rintro ⟨_, _, h⟩; exact h) (by kernel_rfl) (by kernel_rfl) trivial (fun hHeld => ?_)
    have hbd : Below W.heap.size W (W.drewN kk).drew := ⟨rfl, rfl, rfl, Nat.le_refl _, fun _ _ => rfl⟩
    have HKO := Lib.hid (show KeepsOthers W (W.drewN kk).drew from ⟨Nat.le_refl _, fun k o hk ho => hk⟩)
    generalize (W.drewN kk).drew = Wd at hbd HKO ⊢
    have hge := hbd.size
    have k5 := k4.belowV hbd k4.lt
    have o5 := owns_below o4 hbd
    have HO := Lib.hid o5
    have HKT := Lib.hid k5
    have hKc : Wd.cell? ⟨w.heap.size, 0, none⟩ = some (.slice q (colsP pre).length cap) := k5.cell 0
    have HEND := Lib.hid (fun (g cap' : Nat) (W5 : World) (h1 : W5.ownsRow w.heap.size 39 2 (.slice (some ⟨g, 0, none⟩) ((colsP pre).length + 1) cap') ((colsP pre).length + 1) (flatC (colsP pre ++ [(nm, kd)]))) (h2 : (Wd.alloc (.cells #[.string nm, .int .i64 kd] 39)).grownBy W5 (Value.slice q (colsP pre).length cap).ownBlock) (h3 : (Value.slice q (colsP pre).length cap).ownBlock = some g ∨ g = Wd.heap.size + 1) =>
      app_stepC (B := w.heap.size + 1) (TL := w.heap.size + 1 + 1) (TG := w.heap.size + 1 + 2) k5 o5 nn h1 h2 h3 (Nat.le_refl _) (by omega) (by omega) (by omega) (by omega) (by omega))
    have HG0 := Lib.hid (show KeepG w.heap.size (w.heap.size + 1) (w.heap.size + 1 + 1) (w.heap.size + 1 + 2) W Wd from ⟨hbd.size, fun k _ hl => hbd.block k hl⟩)
    have HBW := Lib.hid (hbW.trans (hbd.mono hnW))
    have HSZ := Lib.hid (show w2.heap.size ≤ Wd.heap.size by omega)
    have hwd : w.heap.size ≤ Wd.heap.size := by omega
    clear hbd o4 o5 k4 k5 nn hbW
    refine wpAnyH_take (i := 1) (oi := _) (v := ?_) rfl (by kernel_rfl) (by kernel_rfl) (by kernel_rfl) (fun _ _ _ h => h) (Or.inl ⟨by rfl, ?_⟩) (by assumption) ?_
    rotate_left
    · intro w hSw
      try dsimp only at hSw
      go_simp
      all_goals with_reducible rfl
    simp only [List.getElem_toArray, List.getElem_cons_succ, List.getElem_cons_zero, Act.put, List.setIfInBounds_toArray, List.set_cons_zero, List.set_cons_succ]
    refine wpAnyH_take (i := 2) (oi := _) (v := ?_) rfl (by kernel_rfl) (by kernel_rfl) (by kernel_rfl) (fun _ _ _ h => h) (Or.inl ⟨by rfl, ?_⟩) (by assumption) ?_
    rotate_left
    · intro w hSw
      try dsimp only at hSw
      go_simp
      all_goals with_reducible rfl
    simp only [List.getElem_toArray, List.getElem_cons_succ, List.getElem_cons_zero, Act.put, List.setIfInBounds_toArray, List.set_cons_zero, List.set_cons_succ]
    refine wpAnyH_ready (rs := [0, 3]) (by kernel_rfl) (by simp) ?_
    refine AllReadyH.cons (o := _) rfl (fun K hK => ?_) (AllReadyH.cons (o := _) rfl (fun K hK => ?_) AllReadyH.nil)
    · go_simp
      refine hK.out _ _ trivial (fun _ => ?_)
      clear hK K
      try simp only [List.getElem_toArray, List.getElem_cons_succ, List.getElem_cons_zero, Act.put, List.setIfInBounds_toArray, List.set_cons_zero, List.set_cons_succ]
      refine wpAnyH_ready (rs := [3]) (by kernel_rfl) (by simp) ?_
      refine AllReadyH.cons (o := _) rfl (fun K hK => ?_) AllReadyH.nil
      go_simp
      refine (HMT.out _).mono ?_
      rintro e w' ⟨rfl, rfl⟩
      refine hK.out _ _ trivial (fun _ => ?_)
      clear hK K
      try simp only [List.getElem_toArray, List.getElem_cons_succ, List.getElem_cons_zero, Act.put, List.setIfInBounds_toArray, List.set_cons_zero, List.set_cons_succ]
      refine wpAnyH_take (i := 4) (oi := _) (v := ?_) rfl (by kernel_rfl) (by kernel_rfl) (by kernel_rfl) (fun _ _ _ h => h) (Or.inl ⟨by rfl, ?_⟩) (by assumption) ?_
      rotate_left
      · intro w hSw
        try dsimp only at hSw
        go_simp
        all_goals with_reducible rfl
      simp only [List.getElem_toArray, List.getElem_cons_succ, List.getElem_cons_zero, Act.put, List.setIfInBounds_toArray, List.set_cons_zero, List.set_cons_succ]
      refine wpAnyH_ready (rs := [5]) (by kernel_rfl) (by simp) ?_
      refine AllReadyH.cons (o := _) rfl (fun K hK => ?_) AllReadyH.nil
      go_simp
      refine hK.out _ _ trivial (fun _ => ?_)
      clear hK K
      try simp only [List.getElem_toArray, List.getElem_cons_succ, List.getElem_cons_zero, Act.put, List.setIfInBounds_toArray, List.set_cons_zero, List.set_cons_succ]
      refine wpAnyH_ready (rs := [6]) (by kernel_rfl) (by simp) ?_
      refine AllReadyH.cons (o := _) rfl (fun K hK => ?_) AllReadyH.nil
      refine step_append_lies _ rfl _ _ 23 rfl w.heap.size 39 i0 (.agg #[.string ⟨#[]⟩, .int .i64 0]) 2 24 Tryd.underlying23 hii hz0 hz1 hz2 rfl (by decide) _ _ _ rfl (HO.out.alloc _) ⟨Wd.heap.size, 0, none⟩ 1 1 [.string nm, .int .i64 kd] rfl rfl (cells_newS _ _ _) (by simp [Value.oneCell']) (by decide) (by unfold maxLen; omega) (by omega) (by simp; omega) (Wd.heap.size + 1) (by simp) ?_
      intro g' cap' w5 hown' hgrow hor hlt5
      have he := HEND.out g' cap' w5 (by rw [flatC_app]; simpa [flatC, cellsC] using hown') hgrow hor
      have HE := Lib.hid he
      have hc5 : w5.cell? ⟨w.heap.size, 0, none⟩ = some (.slice q (colsP pre).length cap) := he.2.2.2.2.2.2.cell 0
      have hf5 := Blk.froz he.2.2.2.2.2.2 0
      clear he hown' hgrow
      refine hK.out _ _ trivial (fun _ => ?_)
      clear hK K
      try simp only [List.getElem_toArray, List.getElem_cons_succ, List.getElem_cons_zero, Act.put, List.setIfInBounds_toArray, List.set_cons_zero, List.set_cons_succ]
      refine wpAnyH_ready (rs := [7]) (by kernel_rfl) (by simp) ?_
      refine AllReadyH.cons (o := _) rfl (fun K hK => ?_) AllReadyH.nil
      go_simp
      refine hK.out _ _ trivial (fun _ => ?_)
      clear hK K
      try simp only [List.getElem_toArray, List.getElem_cons_succ, List.getElem_cons_zero, Act.put, List.setIfInBounds_toArray, List.set_cons_zero, List.set_cons_succ]
      refine wpAnyH_done (by kernel_rfl) ?_ _
      clear hc5 hf5
      obtain ⟨f1, f2, f3, f4, f5, f6, _⟩ := HE.out
      exact ⟨(HKO.out.trans f4).from _, HG0.out.trans f5, _, f1, by rw [HCS.out]; exact f2, f3, HBW.out.trans f6, Nat.le_trans HSZ.out f4.size⟩
    · go_simp
      refine (HMT.out _).mono ?_
      rintro e w' ⟨rfl, rfl⟩
      refine hK.out _ _ trivial (fun _ => ?_)
      clear hK K
      try simp only [List.getElem_toArray, List.getElem_cons_succ, List.getElem_cons_zero, Act.put, List.setIfInBounds_toArray, List.set_cons_zero, List.set_cons_succ]
      refine wpAnyH_take (i := 4) (oi := _) (v := ?_) rfl (by kernel_rfl) (by kernel_rfl) (by kernel_rfl) (fun _ _ _ h => h) (Or.inl ⟨by rfl, ?_⟩) (by assumption) ?_
      rotate_left
      · intro w hSw
        try dsimp only at hSw
        go_simp
        all_goals with_reducible rfl
      simp only [List.getElem_toArray, List.getElem_cons_succ, List.getElem_cons_zero, Act.put, List.setIfInBounds_toArray, List.set_cons_zero, List.set_cons_succ]
      refine wpAnyH_ready (rs := [0, 5]) (by kernel_rfl) (by simp) ?_
      refine AllReadyH.cons (o := _) rfl (fun K hK => ?_) (AllReadyH.cons (o := _) rfl (fun K hK => ?_) AllReadyH.nil)
      · go_simp
        refine hK.out _ _ trivial (fun _ => ?_)
        clear hK K
        try simp only [List.getElem_toArray, List.getElem_cons_succ, List.getElem_cons_zero, Act.put, List.setIfInBounds_toArray, List.set_cons_zero, List.set_cons_succ]
        refine wpAnyH_ready (rs := [5]) (by kernel_rfl) (by simp) ?_
        refine AllReadyH.cons (o := _) rfl (fun K hK => ?_) AllReadyH.nil
        go_simp
        refine hK.out _ _ trivial (fun _ => ?_)
        clear hK K
        try simp only [List.getElem_toArray, List.getElem_cons_succ, List.getElem_cons_zero, Act.put, List.setIfInBounds_toArray, List.set_cons_zero, List.set_cons_succ]
        refine wpAnyH_ready (rs := [6]) (by kernel_rfl) (by simp) ?_
        refine AllReadyH.cons (o := _) rfl (fun K hK => ?_) AllReadyH.nil
        refine step_append_lies _ rfl _ _ 23 rfl w.heap.size 39 i0 (.agg #[.string ⟨#[]⟩, .int .i64 0]) 2 24 Tryd.underlying23 hii hz0 hz1 hz2 rfl (by decide) _ _ _ rfl (HO.out.alloc _) ⟨Wd.heap.size, 0, none⟩ 1 1 [.string nm, .int .i64 kd] rfl rfl (cells_newS _ _ _) (by simp [Value.oneCell']) (by decide) (by unfold maxLen; omega) (by omega) (by simp; omega) (Wd.heap.size + 1) (by simp) ?_
        intro g' cap' w5 hown' hgrow hor hlt5
        have he := HEND.out g' cap' w5 (by rw [flatC_app]; simpa [flatC, cellsC] using hown') hgrow hor
        have HE := Lib.hid he
        have hc5 : w5.cell? ⟨w.heap.size, 0, none⟩ = some (.slice q (colsP pre).length cap) := he.2.2.2.2.2.2.cell 0
        have hf5 := Blk.froz he.2.2.2.2.2.2 0
        clear he hown' hgrow
        refine hK.out _ _ trivial (fun _ => ?_)
        clear hK K
        try simp only [List.getElem_toArray, List.getElem_cons_succ, List.getElem_cons_zero, Act.put, List.setIfInBounds_toArray, List.set_cons_zero, List.set_cons_succ]
        refine wpAnyH_ready (rs := [7]) (by kernel_rfl) (by simp) ?_
        refine AllReadyH.cons (o := _) rfl (fun K hK => ?_) AllReadyH.nil
        go_simp
        refine hK.out _ _ trivial (fun _ => ?_)
        clear hK K
        try simp only [List.getElem_toArray, List.getElem_cons_succ, List.getElem_cons_zero, Act.put, List.setIfInBounds_toArray, List.set_cons_zero, List.set_cons_succ]
        refine wpAnyH_done (by kernel_rfl) ?_ _
        clear hc5 hf5
        obtain ⟨f1, f2, f3, f4, f5, f6, _⟩ := HE.out
        exact ⟨(HKO.out.trans f4).from _, HG0.out.trans f5, _, f1, by rw [HCS.out]; exact f2, f3, HBW.out.trans f6, Nat.le_trans HSZ.out f4.size⟩
      · go_simp
        refine hK.out _ _ trivial (fun _ => ?_)
        clear hK K
        try simp only [List.getElem_toArray, List.getElem_cons_succ, List.getElem_cons_zero, Act.put, List.setIfInBounds_toArray, List.set_cons_zero, List.set_cons_succ]
        refine wpAnyH_ready (rs := [0]) (by kernel_rfl) (by simp) ?_
        refine AllReadyH.cons (o := _) rfl (fun K hK => ?_) AllReadyH.nil
        have hcA : (Wd.alloc (.cells #[.string nm, .int .i64 kd] 39)).cell? ⟨w.heap.size, 0, none⟩ = some (.slice q (colsP pre).length cap) := (HKT.out.allocG _).cell 0
        go_simp
        refine hK.out _ _ trivial (fun _ => ?_)
        clear hK K
        try simp only [List.getElem_toArray, List.getElem_cons_succ, List.getElem_cons_zero, Act.put, List.setIfInBounds_toArray, List.set_cons_zero, List.set_cons_succ]
        refine wpAnyH_ready (rs := [6]) (by kernel_rfl) (by simp) ?_
        refine AllReadyH.cons (o := _) rfl (fun K hK => ?_) AllReadyH.nil
        refine step_append_lies _ rfl _ _ 23 rfl w.heap.size 39 i0 (.agg #[.string ⟨#[]⟩, .int .i64 0]) 2 24 Tryd.underlying23 hii hz0 hz1 hz2 rfl (by decide) _ _ _ rfl (HO.out.alloc _) ⟨Wd.heap.size, 0, none⟩ 1 1 [.string nm, .int .i64 kd] rfl rfl (cells_newS _ _ _) (by simp [Value.oneCell']) (by decide) (by unfold maxLen; omega) (by omega) (by simp; omega) (Wd.heap.size + 1) (by simp) ?_
        intro g' cap' w5 hown' hgrow hor hlt5
        have he := HEND.out g' cap' w5 (by rw [flatC_app]; simpa [flatC, cellsC] using hown') hgrow hor
        have HE := Lib.hid he
        have hc5 : w5.cell? ⟨w.heap.size, 0, none⟩ = some (.slice q (colsP pre).length cap) := he.2.2.2.2.2.2.cell 0
        have hf5 := Blk.froz he.2.2.2.2.2.2 0
        clear he hown' hgrow
        refine hK.out _ _ trivial (fun _ => ?_)
        clear hK K
        try simp only [List.getElem_toArray, List.getElem_cons_succ, List.getElem_cons_zero, Act.put, List.setIfInBounds_toArray, List.set_cons_zero, List.set_cons_succ]
        refine wpAnyH_ready (rs := [7]) (by kernel_rfl) (by simp) ?_
        refine AllReadyH.cons (o := _) rfl (fun K hK => ?_) AllReadyH.nil
        go_simp
        refine hK.out _ _ trivial (fun _ => ?_)
        clear hK K
        try simp only [List.getElem_toArray, List.getElem_cons_succ, List.getElem_cons_zero, Act.put, List.setIfInBounds_toArray, List.set_cons_zero, List.set_cons_succ]
        refine wpAnyH_done (by kernel_rfl) ?_ _
        clear hc5 hf5
        obtain ⟨f1, f2, f3, f4, f5, f6, _⟩ := HE.out
        exact ⟨(HKO.out.trans f4).from _, HG0.out.trans f5, _, f1, by rw [HCS.out]; exact f2, f3, HBW.out.trans f6, Nat.le_trans HSZ.out f4.size⟩

  case done =>
    rintro D xs W hD hS hI hK
    have hcols := colsP_eq hS
    have hps := piece_small s.size s.data.toList
    obtain ⟨v, k4, o4, nn, hbW, hsz⟩ := hI
    rw [hcols] at o4
    obtain ⟨q, cap, rfl, _, _⟩ := slice_of_ownsC o4
    have hl0 : s.data.toList.length = s.size := by simp
    have hlen : ((pieces s.size s.data.toList).map colOf).length ≤ 65537 := by rw [List.length_map]; omega
    have hcs : ∀ j, (colAt ((pieces s.size s.data.toList).map colOf) j).1.size ≤ maxLen := fun j => by
      unfold colAt
      rw [List.getElem?_map]
      cases hj : (pieces s.size s.data.toList)[j]? with
      | none => simp [c0, ByteArray.size]
      | some x =>
        have h1 := col_small x
        have h2 := hps.1 x (List.mem_of_getElem? hj)
        simp only [Option.map_some, Option.getD_some]
        unfold maxLen
        omega
    generalize (pieces s.size s.data.toList).map colOf = cs at o4 k4 hlen hcs HFI
    have HV := Lib.hid (rowSchema_any q cs cap (by omega) hcs W (colsIn_of_owns o4))
    have hcT : W.cell? ⟨w.heap.size, 0, none⟩ = some (.slice q cs.length cap) := k4.cell 0
    have hDl : D < W.heap.size := (Array.getElem?_eq_some_iff.1 hK).1
    have HO := Lib.hid o4
    have HKT := Lib.hid k4
    have HBW := Lib.hid hbW
    have HK := Lib.hid hK
    clear o4 k4 hbW hK hcs hps hS hcols nn hlen
    rcases HFI.out with ⟨h1, rfl, ho⟩ | ⟨h1, rfl, rfl⟩
    · have ho' := ho.symm
      subst ho'
      rw [h1] at HV
      clear HFI ho h1
      gi_wp2_with fail
      refine ⟨trivial, (callsIn_wide.2 HV.out).mono ?_⟩
      rintro e W1 ⟨rfl, hb⟩
      have HO1 := Lib.hid (owns_below HO.out hb)
      have k1 := HKT.out.belowV hb HKT.out.lt
      have hc1 : W1.cell? ⟨w.heap.size, 0, none⟩ = some (.slice q cs.length cap) := k1.cell 0
      have HD1 := Lib.hid ((hb.block D hDl).trans HK.out)
      have HB1 := Lib.hid (HBW.out.trans (hb.mono (by have := HBW.out.size; omega)))
      clear hb k1 HO HKT HV HK
      gi_wp2_with fail
      refine ⟨by simp, .inl ⟨_, _, rfl, run_takeDeferred (b := D) HD1.out, ?_⟩⟩
      refine ⟨.tuple #[.slice q cs.length cap, .int .i64 0], by simp [results, Tryd.f7, go_sem], ?_⟩
      exact ⟨_, rfl, own_put HO1.out HD1.out rfl, HB1.out.grown (grownBy_putObjS W1 D _) HB1.out.size (fun k e => by cases e; omega)⟩
    · rw [h1] at HV
      clear HFI h1
      gi_wp2_with fail
      refine ⟨trivial, (callsIn_wide.2 HV.out).mono ?_⟩
      rintro e W1 ⟨rfl, hb⟩
      have HD1 := Lib.hid ((hb.block D hDl).trans HK.out)
      have HB1 := Lib.hid (HBW.out.trans (hb.mono (by have := HBW.out.size; omega)))
      clear hb HO HKT HV HK
      gi_wp2_with fail
      refine ⟨by simp, .inl ⟨_, _, rfl, run_takeDeferred (b := D) HD1.out, ?_⟩⟩
      refine ⟨.tuple #[.slice none 0 0, .int .i64 2], by simp [results, Tryd.f7, go_sem], ?_⟩
      exact ⟨_, rfl, World.ownsRow_nil _ _ _ _, HB1.out.grown (grownBy_putObjS W1 D _) HB1.out.size (fun k e => by cases e; omega)⟩
end Go.Proofs.YtlhhkiglpehnfaaDoor
