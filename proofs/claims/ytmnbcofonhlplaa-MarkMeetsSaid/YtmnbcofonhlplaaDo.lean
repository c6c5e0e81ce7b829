/-
  One call of a meet of package mark and of the document's own, side by side.
-/
import Derived.Test.YtmnbcofonhlplaaMlM
import Derived.Deep.RegionHeld3
namespace Go.Proofs.Ytmnbcofonhlplaa
open Go.RowKit Go.Lib
set_option linter.unusedSimpArgs false
set_option linter.unusedVariables false

theorem MeetP.keepR {W W' : World} {lo B I B' g c : Nat} {xs ys : List Inp} {a b : Int} (h : MeetP W lo B I xs a) (r : MeetR W lo B' g c ys b) (k : Keep2 W W' B' (some g)) : MeetP W' lo B I xs a :=
  ⟨h.loB, h.loI, h.blk.keep2 k (blk_ne h.blk r.blk (by decide)) (fun e => by simp only [Option.some.injEq] at e; exact apart_blk r.own h.blk (by decide) g rfl e), h.ins.keep2 k (blk_ne h.ins r.blk (by decide)) (fun e => by simp only [Option.some.injEq] at e; exact apart_blk r.own h.ins (by decide) g rfl e), h.len, h.marks, h.mark⟩
theorem MeetR.keepP {W W' : World} {lo B I B' g c : Nat} {xs ys : List Inp} {a b : Int} (h : MeetR W lo B' g c xs a) (p : MeetP W lo B I ys b) (k : Keep2 W W' B (some I)) : MeetR W' lo B' g c xs a :=
  ⟨h.loB, h.blk.keep2 k (blk_ne h.blk p.blk (by decide)) (fun e => by simp only [Option.some.injEq] at e; exact blk_ne p.ins h.blk (by decide) e), own_keep2 h.own k (fun x hx => ⟨apart_blk h.own p.blk (by decide) x hx, fun e => by simp only [Option.some.injEq] at e; exact apart_blk h.own p.ins (by decide) x hx e.symm⟩), h.len, h.marks, h.mark⟩
/-- Both meets, in one state. -/
def Both (W : World) (lo B I B' g c : Nat) (xs : List Inp) (a : Int) : Prop := MeetP W lo B I xs a ∧ MeetR W lo B' g c xs a
theorem Both.belowV {W W' : World} {lo B I B' g c : Nat} {xs : List Inp} {a : Int} (h : Both W lo B I B' g c xs a) (hb : Below W.heap.size W W') : Both W' lo B I B' g c xs a := ⟨h.1.belowV hb, h.2.belowV hb⟩
theorem lowP {w w' : World} {lo B I : Nat} {xs : List Inp} {at_ : Int} (hk : Keep2 w w' B (some I)) (hm : MeetP w' lo B I xs at_) (hlo : lo ≤ w.heap.size) : Below lo w w' :=
  hk.toBelow hlo hm.loB (fun k e => by cases e; exact hm.loI)
theorem lowR {w w' : World} {lo B g c : Nat} {xs : List Inp} {at_ : Int} (hk : Keep2 w w' B (some g)) (hm : MeetR w' lo B g c xs at_) (hlo : lo ≤ w.heap.size) : Below lo w w' :=
  hk.toBelow hlo hm.loB (fun k e => by cases e; exact hm.lt.1)
/-- The state behind a call. -/
def turnXs (kd j m : Int) (xs : List Inp) : List Inp := if kd = 0 then setXs xs j m else if kd = 1 then chgXs 1 xs j else if kd = 2 then chgXs 2 xs j else if kd = 3 then chgXs 3 xs j else xs
def turnAt (kd j m : Int) (xs : List Inp) (a : Int) : Int := if kd = 0 then setAt xs j m a else if kd = 1 then chgAt 1 xs j a else if kd = 2 then chgAt 2 xs j a else if kd = 3 then chgAt 3 xs j a else a
theorem onM_up (xs : List Inp) (a : Int) : a ≤ onM xs a := by unfold onM; split <;> omega
theorem turn_up (kd j m : Int) (xs : List Inp) (a : Int) : a ≤ turnAt kd j m xs a := by
  unfold turnAt setAt chgAt
  repeat (first | exact onM_up _ _ | exact Int.le_refl _ | split)
/-- The three cells of a call, in a block of their own. -/
def BoxT (W : World) (T : Nat) (kd j m : Int) : Prop := W.cell? ⟨T, 0, none⟩ = some (.int .i64 kd) ∧ W.cell? ⟨T, 1, none⟩ = some (.int .i64 j) ∧ W.cell? ⟨T, 2, none⟩ = some (.int .i64 m)
theorem BoxT.keep {W W' : World} {T B : Nat} {r : Option Nat} {kd j m : Int} {t : TypeId} (h : Blk W T t #[.int .i64 kd, .int .i64 j, .int .i64 m]) (k : Keep2 W W' B r) (hB : T ≠ B) (hr : r ≠ some T) : Blk W' T t #[.int .i64 kd, .int .i64 j, .int .i64 m] ∧ BoxT W' T kd j m := by
  have h2 := h.keep2 k hB hr
  exact ⟨h2, h2.cell 0, h2.cell 1, h2.cell 2⟩
def DoPost (w : World) (lo B I B' g c : Nat) (xs : List Inp) (a : Int) (e : Ending) (w' : World) : Prop := e = .returned (.bool true) ∧ Both w' lo B I B' g c xs a ∧ Below lo w w'
theorem doPost_of {w w' : World} {lo B I B' g c : Nat} {xs ys : List Inp} {a b : Int} (h : Both w' lo B I B' g c xs a ∧ Below lo w w') (hx : ys = xs) (hb : b = a) : DoPost w lo B I B' g c ys b (.returned (.bool true)) w' := by subst hx hb; exact ⟨rfl, h.1, h.2⟩

set_option maxRecDepth 100000 in
set_option maxHeartbeats 4000000 in
theorem do_any {lo B I B' g c : Nat} {xs : List Inp} {a : Int} (kd j m : Int) (w : World) (hlo : lo ≤ w.heap.size) (h : Both w lo B I B' g c xs a) :
    Calls Try.prog 11 #[.pointer (some ⟨B, 0, none⟩), .pointer (some ⟨B', 0, none⟩), .agg #[.int .i64 kd, .int .i64 j, .int .i64 m]] w (DoPost w lo B I B' g c (turnXs kd j m xs) (turnAt kd j m xs a)) := by
  have hbA := below_new w (.cells #[.int .i64 kd, .int .i64 j, .int .i64 m] 34)
  have HB1 := Lib.hid (show Both (w.alloc (.cells #[.int .i64 kd, .int .i64 j, .int .i64 m] 34)) lo B I B' g c xs a ∧ Blk (w.alloc (.cells #[.int .i64 kd, .int .i64 j, .int .i64 m] 34)) w.heap.size 34 #[.int .i64 kd, .int .i64 j, .int .i64 m] ∧ Below lo w (w.alloc (.cells #[.int .i64 kd, .int .i64 j, .int .i64 m] 34)) from ⟨h.belowV hbA, Blk.new _ _ _, hbA.mono hlo⟩)
  have HNE := Lib.hid (show B < w.heap.size ∧ I < w.heap.size ∧ B' < w.heap.size ∧ g < w.heap.size from ⟨h.1.blk.lt, h.1.ins.lt, h.2.blk.lt, h.2.lt.2⟩)
  have HLO := Lib.hid hlo
  clear hbA h hlo
  by_cases h0 : kd = 0
  · subst h0
    obtain ⟨W1, hW1⟩ : ∃ W1, W1 = w.alloc (.cells #[.int .i64 0, .int .i64 j, .int .i64 m] 34) := ⟨_, rfl⟩
    go_enter Try.func11, Try.ntmps11
    go_wp2_with fail
    rw [← hW1] at HB1 ⊢
    clear hW1
    have HD := Lib.hid (show Both W1.drew lo B I B' g c xs a ∧ Blk W1.drew w.heap.size 34 #[.int .i64 0, .int .i64 j, .int .i64 m] ∧ Below lo w W1.drew from ⟨HB1.out.1.belowV (Below.refl _ W1).drew, HB1.out.2.1.drewG, HB1.out.2.2.drew⟩)
    refine wp_region_held_drew (S := fun w' : World => w'.cell? ⟨w.heap.size, 0, none⟩ = some (.int .i64 0) ∧ w'.cell? ⟨w.heap.size, 1, none⟩ = some (.int .i64 j) ∧ w'.cell? ⟨w.heap.size, 2, none⟩ = some (.int .i64 m)) (by kernel_rfl) ⟨HB1.out.2.1.cell 0, HB1.out.2.1.cell 1, HB1.out.2.1.cell 2⟩ (fun hHeld => ?_)
    refine wpAnyH_take (i := 0) (oi := _) (v := ?_) rfl (by kernel_rfl) (by kernel_rfl) (by kernel_rfl) (fun _ _ _ h => h) (Or.inl ⟨by rfl, ?_⟩) (by assumption) ?_
    rotate_left
    · intro w hSw
      try dsimp only at hSw
      go_simp
      all_goals with_reducible rfl
    simp only [List.getElem_toArray, List.getElem_cons_succ, List.getElem_cons_zero, Act.put, List.setIfInBounds_toArray, List.set_cons_zero, List.set_cons_succ]
    refine wpAnyH_take (i := 1) (oi := _) (v := ?_) rfl (by kernel_rfl) (by kernel_rfl) (by kernel_rfl) (fun _ _ _ h => h) (Or.inl ⟨by rfl, ?_⟩) (by assumption) ?_
    rotate_left
    · intro w hSw
      try dsimp only at hSw
      go_simp
      all_goals with_reducible rfl
    simp only [List.getElem_toArray, List.getElem_cons_succ, List.getElem_cons_zero, Act.put, List.setIfInBounds_toArray, List.set_cons_zero, List.set_cons_succ]
    refine wpAnyH_take (i := 2) (oi := _) (v := ?_) rfl (by kernel_rfl) (by kernel_rfl) (by kernel_rfl) (fun _ _ _ h => h) (Or.inl ⟨by rfl, ?_⟩) (by assumption) ?_
    rotate_left
    · intro w hSw
      try dsimp only at hSw
      go_simp
      all_goals with_reducible rfl
    simp only [List.getElem_toArray, List.getElem_cons_succ, List.getElem_cons_zero, Act.put, List.setIfInBounds_toArray, List.set_cons_zero, List.set_cons_succ]
    refine wpAnyH_take (i := 3) (oi := _) (v := ?_) rfl (by kernel_rfl) (by kernel_rfl) (by kernel_rfl) (fun _ _ _ h => h) (Or.inl ⟨by rfl, ?_⟩) (by assumption) ?_
    rotate_left
    · intro w hSw
      try dsimp only at hSw
      go_simp
      all_goals with_reducible rfl
    simp only [List.getElem_toArray, List.getElem_cons_succ, List.getElem_cons_zero, Act.put, List.setIfInBounds_toArray, List.set_cons_zero, List.set_cons_succ]
    refine wpAnyH_take (i := 4) (oi := _) (v := ?_) rfl (by kernel_rfl) (by kernel_rfl) (by kernel_rfl) (fun _ _ _ h => h) (Or.inl ⟨by rfl, ?_⟩) (by assumption) ?_
    rotate_left
    · intro w hSw
      try dsimp only at hSw
      go_simp
      all_goals with_reducible rfl
    simp only [List.getElem_toArray, List.getElem_cons_succ, List.getElem_cons_zero, Act.put, List.setIfInBounds_toArray, List.set_cons_zero, List.set_cons_succ]
    refine wpAnyH_take (i := 6) (oi := _) (v := ?_) rfl (by kernel_rfl) (by kernel_rfl) (by kernel_rfl) (fun _ _ _ h => h) (Or.inl ⟨by rfl, ?_⟩) (by assumption) ?_
    rotate_left
    · intro w hSw
      try dsimp only at hSw
      go_simp
      all_goals with_reducible rfl
    simp only [List.getElem_toArray, List.getElem_cons_succ, List.getElem_cons_zero, Act.put, List.setIfInBounds_toArray, List.set_cons_zero, List.set_cons_succ]
    refine wpAnyH_take (i := 7) (oi := _) (v := ?_) rfl (by kernel_rfl) (by kernel_rfl) (by kernel_rfl) (fun _ _ _ h => h) (Or.inl ⟨by rfl, ?_⟩) (by assumption) ?_
    rotate_left
    · intro w hSw
      try dsimp only at hSw
      go_simp
      all_goals with_reducible rfl
    simp only [List.getElem_toArray, List.getElem_cons_succ, List.getElem_cons_zero, Act.put, List.setIfInBounds_toArray, List.set_cons_zero, List.set_cons_succ]
    refine wpAnyH_take (i := 8) (oi := _) (v := ?_) rfl (by kernel_rfl) (by kernel_rfl) (by kernel_rfl) (fun _ _ _ h => h) (Or.inl ⟨by rfl, ?_⟩) (by assumption) ?_
    rotate_left
    · intro w hSw
      try dsimp only at hSw
      go_simp
      all_goals with_reducible rfl
    simp only [List.getElem_toArray, List.getElem_cons_succ, List.getElem_cons_zero, Act.put, List.setIfInBounds_toArray, List.set_cons_zero, List.set_cons_succ]
    refine wpAnyH_take (i := 9) (oi := _) (v := ?_) rfl (by kernel_rfl) (by kernel_rfl) (by kernel_rfl) (fun _ _ _ h => h) (Or.inl ⟨by rfl, ?_⟩) (by assumption) ?_
    rotate_left
    · intro w hSw
      try dsimp only at hSw
      go_simp
      all_goals with_reducible rfl
    simp only [List.getElem_toArray, List.getElem_cons_succ, List.getElem_cons_zero, Act.put, List.setIfInBounds_toArray, List.set_cons_zero, List.set_cons_succ]
    refine wpAnyH_take (i := 10) (oi := _) (v := ?_) rfl (by kernel_rfl) (by kernel_rfl) (by kernel_rfl) (fun _ _ _ h => h) (Or.inl ⟨by rfl, ?_⟩) (by assumption) ?_
    rotate_left
    · intro w hSw
      try dsimp only at hSw
      go_simp
      all_goals with_reducible rfl
    simp only [List.getElem_toArray, List.getElem_cons_succ, List.getElem_cons_zero, Act.put, List.setIfInBounds_toArray, List.set_cons_zero, List.set_cons_succ]
    refine wpAnyH_ready (rs := [5]) (by kernel_rfl) (by simp) ?_
    refine AllReadyH.cons (o := _) rfl (fun K hK => ?_) AllReadyH.nil
    go_simp
    refine (mkSet_any j m _ HD.out.1.1).mono ?_
    rintro e u1 ⟨rfl, hm1, hk1⟩
    have HT1 := Lib.hid (BoxT.keep HD.out.2.1 hk1 (fun e => by have := HNE.out.1; omega) (fun e => by simp only [Option.some.injEq] at e; have := HNE.out.2.1; omega))
    have HR1 := Lib.hid (HD.out.1.2.keepP HD.out.1.1 hk1)
    have HL1 := Lib.hid (HD.out.2.2.trans ((lowP hk1 hm1 (Nat.le_trans HLO.out HD.out.2.2.size)).mono (Nat.le_refl _)))
    have HP1 := Lib.hid hm1
    clear hm1 hk1
    refine hK.out _ _ HT1.out.2 (fun hHeld1 => ?_)
    clear hHeld
    clear hK K
    try simp only [List.getElem_toArray, List.getElem_cons_succ, List.getElem_cons_zero, Act.put, List.setIfInBounds_toArray, List.set_cons_zero, List.set_cons_succ]
    refine wpAnyH_ready (rs := [11]) (by kernel_rfl) (by simp) ?_
    refine AllReadyH.cons (o := _) rfl (fun K hK => ?_) AllReadyH.nil
    go_simp
    refine (rkSet_any j m _ HR1.out).mono ?_
    rintro e u2 ⟨rfl, hm2, hk2⟩
    have HT2 := Lib.hid (BoxT.keep HT1.out.1 hk2 (fun e => by have := HNE.out.2.2.1; omega) (fun e => by simp only [Option.some.injEq] at e; have := HNE.out.2.2.2; omega))
    have HF := Lib.hid (show Both u2 lo B I B' g c (setXs xs j m) (setAt xs j m a) ∧ Below lo w u2 from ⟨⟨HP1.out.keepR HR1.out hk2, hm2⟩, HL1.out.trans ((lowR hk2 hm2 (Nat.le_trans HLO.out HL1.out.size)).mono (Nat.le_refl _))⟩)
    clear hm2 hk2
    refine hK.out _ _ HT2.out.2 (fun hHeld2 => ?_)
    clear hHeld1
    clear hK K
    try simp only [List.getElem_toArray, List.getElem_cons_succ, List.getElem_cons_zero, Act.put, List.setIfInBounds_toArray, List.set_cons_zero, List.set_cons_succ]
    refine wpAnyH_take (i := 12) (oi := _) (v := ?_) rfl (by kernel_rfl) (by kernel_rfl) (by kernel_rfl) (fun _ _ _ h => h) (Or.inl ⟨by rfl, ?_⟩) (by assumption) ?_
    rotate_left
    · intro w hSw
      try dsimp only at hSw
      go_simp
      all_goals with_reducible rfl
    simp only [List.getElem_toArray, List.getElem_cons_succ, List.getElem_cons_zero, Act.put, List.setIfInBounds_toArray, List.set_cons_zero, List.set_cons_succ]
    refine wpAnyH_take (i := 13) (oi := _) (v := ?_) rfl (by kernel_rfl) (by kernel_rfl) (by kernel_rfl) (fun _ _ _ h => h) (Or.inl ⟨by rfl, ?_⟩) (by assumption) ?_
    rotate_left
    · intro w hSw
      try dsimp only at hSw
      go_simp
      all_goals with_reducible rfl
    simp only [List.getElem_toArray, List.getElem_cons_succ, List.getElem_cons_zero, Act.put, List.setIfInBounds_toArray, List.set_cons_zero, List.set_cons_succ]
    refine wpAnyH_done (by kernel_rfl) ?_ _
    go_wp2_with fail
    go_ret
    exact doPost_of HF.out rfl rfl
  have e0 : (kd == 0) = false := by simpa using h0
  by_cases h1 : kd = 1
  · subst h1
    obtain ⟨W1, hW1⟩ : ∃ W1, W1 = w.alloc (.cells #[.int .i64 1, .int .i64 j, .int .i64 m] 34) := ⟨_, rfl⟩
    go_enter Try.func11, Try.ntmps11
    go_wp2_with fail
    rw [← hW1] at HB1 ⊢
    clear hW1
    have HD := Lib.hid (show Both W1.drew lo B I B' g c xs a ∧ Blk W1.drew w.heap.size 34 #[.int .i64 1, .int .i64 j, .int .i64 m] ∧ Below lo w W1.drew from ⟨HB1.out.1.belowV (Below.refl _ W1).drew, HB1.out.2.1.drewG, HB1.out.2.2.drew⟩)
    refine wp_region_held_drew (S := fun w' : World => w'.cell? ⟨w.heap.size, 0, none⟩ = some (.int .i64 1) ∧ w'.cell? ⟨w.heap.size, 1, none⟩ = some (.int .i64 j) ∧ w'.cell? ⟨w.heap.size, 2, none⟩ = some (.int .i64 m)) (by kernel_rfl) ⟨HB1.out.2.1.cell 0, HB1.out.2.1.cell 1, HB1.out.2.1.cell 2⟩ (fun hHeld => ?_)
    refine wpAnyH_take (i := 0) (oi := _) (v := ?_) rfl (by kernel_rfl) (by kernel_rfl) (by kernel_rfl) (fun _ _ _ h => h) (Or.inl ⟨by rfl, ?_⟩) (by assumption) ?_
    rotate_left
    · intro w hSw
      try dsimp only at hSw
      go_simp
      all_goals with_reducible rfl
    simp only [List.getElem_toArray, List.getElem_cons_succ, List.getElem_cons_zero, Act.put, List.setIfInBounds_toArray, List.set_cons_zero, List.set_cons_succ]
    refine wpAnyH_take (i := 1) (oi := _) (v := ?_) rfl (by kernel_rfl) (by kernel_rfl) (by kernel_rfl) (fun _ _ _ h => h) (Or.inl ⟨by rfl, ?_⟩) (by assumption) ?_
    rotate_left
    · intro w hSw
      try dsimp only at hSw
      go_simp
      all_goals with_reducible rfl
    simp only [List.getElem_toArray, List.getElem_cons_succ, List.getElem_cons_zero, Act.put, List.setIfInBounds_toArray, List.set_cons_zero, List.set_cons_succ]
    refine wpAnyH_take (i := 2) (oi := _) (v := ?_) rfl (by kernel_rfl) (by kernel_rfl) (by kernel_rfl) (fun _ _ _ h => h) (Or.inl ⟨by rfl, ?_⟩) (by assumption) ?_
    rotate_left
    · intro w hSw
      try dsimp only at hSw
      go_simp
      all_goals with_reducible rfl
    simp only [List.getElem_toArray, List.getElem_cons_succ, List.getElem_cons_zero, Act.put, List.setIfInBounds_toArray, List.set_cons_zero, List.set_cons_succ]
    refine wpAnyH_take (i := 4) (oi := _) (v := ?_) rfl (by kernel_rfl) (by kernel_rfl) (by kernel_rfl) (fun _ _ _ h => h) (Or.inl ⟨by rfl, ?_⟩) (by assumption) ?_
    rotate_left
    · intro w hSw
      try dsimp only at hSw
      go_simp
      all_goals with_reducible rfl
    simp only [List.getElem_toArray, List.getElem_cons_succ, List.getElem_cons_zero, Act.put, List.setIfInBounds_toArray, List.set_cons_zero, List.set_cons_succ]
    refine wpAnyH_take (i := 5) (oi := _) (v := ?_) rfl (by kernel_rfl) (by kernel_rfl) (by kernel_rfl) (fun _ _ _ h => h) (Or.inl ⟨by rfl, ?_⟩) (by assumption) ?_
    rotate_left
    · intro w hSw
      try dsimp only at hSw
      go_simp
      all_goals with_reducible rfl
    simp only [List.getElem_toArray, List.getElem_cons_succ, List.getElem_cons_zero, Act.put, List.setIfInBounds_toArray, List.set_cons_zero, List.set_cons_succ]
    refine wpAnyH_take (i := 6) (oi := _) (v := ?_) rfl (by kernel_rfl) (by kernel_rfl) (by kernel_rfl) (fun _ _ _ h => h) (Or.inl ⟨by rfl, ?_⟩) (by assumption) ?_
    rotate_left
    · intro w hSw
      try dsimp only at hSw
      go_simp
      all_goals with_reducible rfl
    simp only [List.getElem_toArray, List.getElem_cons_succ, List.getElem_cons_zero, Act.put, List.setIfInBounds_toArray, List.set_cons_zero, List.set_cons_succ]
    refine wpAnyH_ready (rs := [3]) (by kernel_rfl) (by simp) ?_
    refine AllReadyH.cons (o := _) rfl (fun K hK => ?_) AllReadyH.nil
    go_simp
    refine (mkIdle_any j _ HD.out.1.1).mono ?_
    rintro e u1 ⟨rfl, hm1, hk1⟩
    have HT1 := Lib.hid (BoxT.keep HD.out.2.1 hk1 (fun e => by have := HNE.out.1; omega) (fun e => by simp only [Option.some.injEq] at e; have := HNE.out.2.1; omega))
    have HR1 := Lib.hid (HD.out.1.2.keepP HD.out.1.1 hk1)
    have HL1 := Lib.hid (HD.out.2.2.trans ((lowP hk1 hm1 (Nat.le_trans HLO.out HD.out.2.2.size)).mono (Nat.le_refl _)))
    have HP1 := Lib.hid hm1
    clear hm1 hk1
    refine hK.out _ _ HT1.out.2 (fun hHeld1 => ?_)
    clear hHeld
    clear hK K
    try simp only [List.getElem_toArray, List.getElem_cons_succ, List.getElem_cons_zero, Act.put, List.setIfInBounds_toArray, List.set_cons_zero, List.set_cons_succ]
    refine wpAnyH_ready (rs := [7]) (by kernel_rfl) (by simp) ?_
    refine AllReadyH.cons (o := _) rfl (fun K hK => ?_) AllReadyH.nil
    go_simp
    refine (rkIdle_any j _ HR1.out).mono ?_
    rintro e u2 ⟨rfl, hm2, hk2⟩
    have HT2 := Lib.hid (BoxT.keep HT1.out.1 hk2 (fun e => by have := HNE.out.2.2.1; omega) (fun e => by simp only [Option.some.injEq] at e; have := HNE.out.2.2.2; omega))
    have HF := Lib.hid (show Both u2 lo B I B' g c (chgXs 1 xs j) (chgAt 1 xs j a) ∧ Below lo w u2 from ⟨⟨HP1.out.keepR HR1.out hk2, hm2⟩, HL1.out.trans ((lowR hk2 hm2 (Nat.le_trans HLO.out HL1.out.size)).mono (Nat.le_refl _))⟩)
    clear hm2 hk2
    refine hK.out _ _ HT2.out.2 (fun hHeld2 => ?_)
    clear hHeld1
    clear hK K
    try simp only [List.getElem_toArray, List.getElem_cons_succ, List.getElem_cons_zero, Act.put, List.setIfInBounds_toArray, List.set_cons_zero, List.set_cons_succ]
    refine wpAnyH_take (i := 8) (oi := _) (v := ?_) rfl (by kernel_rfl) (by kernel_rfl) (by kernel_rfl) (fun _ _ _ h => h) (Or.inl ⟨by rfl, ?_⟩) (by assumption) ?_
    rotate_left
    · intro w hSw
      try dsimp only at hSw
      go_simp
      all_goals with_reducible rfl
    simp only [List.getElem_toArray, List.getElem_cons_succ, List.getElem_cons_zero, Act.put, List.setIfInBounds_toArray, List.set_cons_zero, List.set_cons_succ]
    refine wpAnyH_take (i := 9) (oi := _) (v := ?_) rfl (by kernel_rfl) (by kernel_rfl) (by kernel_rfl) (fun _ _ _ h => h) (Or.inl ⟨by rfl, ?_⟩) (by assumption) ?_
    rotate_left
    · intro w hSw
      try dsimp only at hSw
      go_simp
      all_goals with_reducible rfl
    simp only [List.getElem_toArray, List.getElem_cons_succ, List.getElem_cons_zero, Act.put, List.setIfInBounds_toArray, List.set_cons_zero, List.set_cons_succ]
    refine wpAnyH_done (by kernel_rfl) ?_ _
    go_wp2_with fail
    go_ret
    exact doPost_of HF.out (by unfold turnXs; simp) (by unfold turnAt; simp)
  have e1 : (kd == 1) = false := by simpa using h1
  by_cases h2 : kd = 2
  · subst h2
    obtain ⟨W1, hW1⟩ : ∃ W1, W1 = w.alloc (.cells #[.int .i64 2, .int .i64 j, .int .i64 m] 34) := ⟨_, rfl⟩
    go_enter Try.func11, Try.ntmps11
    go_wp2_with fail
    rw [← hW1] at HB1 ⊢
    clear hW1
    have HD := Lib.hid (show Both W1.drew lo B I B' g c xs a ∧ Blk W1.drew w.heap.size 34 #[.int .i64 2, .int .i64 j, .int .i64 m] ∧ Below lo w W1.drew from ⟨HB1.out.1.belowV (Below.refl _ W1).drew, HB1.out.2.1.drewG, HB1.out.2.2.drew⟩)
    refine wp_region_held_drew (S := fun w' : World => w'.cell? ⟨w.heap.size, 0, none⟩ = some (.int .i64 2) ∧ w'.cell? ⟨w.heap.size, 1, none⟩ = some (.int .i64 j) ∧ w'.cell? ⟨w.heap.size, 2, none⟩ = some (.int .i64 m)) (by kernel_rfl) ⟨HB1.out.2.1.cell 0, HB1.out.2.1.cell 1, HB1.out.2.1.cell 2⟩ (fun hHeld => ?_)
    refine wpAnyH_take (i := 0) (oi := _) (v := ?_) rfl (by kernel_rfl) (by kernel_rfl) (by kernel_rfl) (fun _ _ _ h => h) (Or.inl ⟨by rfl, ?_⟩) (by assumption) ?_
    rotate_left
    · intro w hSw
      try dsimp only at hSw
      go_simp
      all_goals with_reducible rfl
    simp only [List.getElem_toArray, List.getElem_cons_succ, List.getElem_cons_zero, Act.put, List.setIfInBounds_toArray, List.set_cons_zero, List.set_cons_succ]
    refine wpAnyH_take (i := 1) (oi := _) (v := ?_) rfl (by kernel_rfl) (by kernel_rfl) (by kernel_rfl) (fun _ _ _ h => h) (Or.inl ⟨by rfl, ?_⟩) (by assumption) ?_
    rotate_left
    · intro w hSw
      try dsimp only at hSw
      go_simp
      all_goals with_reducible rfl
    simp only [List.getElem_toArray, List.getElem_cons_succ, List.getElem_cons_zero, Act.put, List.setIfInBounds_toArray, List.set_cons_zero, List.set_cons_succ]
    refine wpAnyH_take (i := 2) (oi := _) (v := ?_) rfl (by kernel_rfl) (by kernel_rfl) (by kernel_rfl) (fun _ _ _ h => h) (Or.inl ⟨by rfl, ?_⟩) (by assumption) ?_
    rotate_left
    · intro w hSw
      try dsimp only at hSw
      go_simp
      all_goals with_reducible rfl
    simp only [List.getElem_toArray, List.getElem_cons_succ, List.getElem_cons_zero, Act.put, List.setIfInBounds_toArray, List.set_cons_zero, List.set_cons_succ]
    refine wpAnyH_take (i := 4) (oi := _) (v := ?_) rfl (by kernel_rfl) (by kernel_rfl) (by kernel_rfl) (fun _ _ _ h => h) (Or.inl ⟨by rfl, ?_⟩) (by assumption) ?_
    rotate_left
    · intro w hSw
      try dsimp only at hSw
      go_simp
      all_goals with_reducible rfl
    simp only [List.getElem_toArray, List.getElem_cons_succ, List.getElem_cons_zero, Act.put, List.setIfInBounds_toArray, List.set_cons_zero, List.set_cons_succ]
    refine wpAnyH_take (i := 5) (oi := _) (v := ?_) rfl (by kernel_rfl) (by kernel_rfl) (by kernel_rfl) (fun _ _ _ h => h) (Or.inl ⟨by rfl, ?_⟩) (by assumption) ?_
    rotate_left
    · intro w hSw
      try dsimp only at hSw
      go_simp
      all_goals with_reducible rfl
    simp only [List.getElem_toArray, List.getElem_cons_succ, List.getElem_cons_zero, Act.put, List.setIfInBounds_toArray, List.set_cons_zero, List.set_cons_succ]
    refine wpAnyH_take (i := 6) (oi := _) (v := ?_) rfl (by kernel_rfl) (by kernel_rfl) (by kernel_rfl) (fun _ _ _ h => h) (Or.inl ⟨by rfl, ?_⟩) (by assumption) ?_
    rotate_left
    · intro w hSw
      try dsimp only at hSw
      go_simp
      all_goals with_reducible rfl
    simp only [List.getElem_toArray, List.getElem_cons_succ, List.getElem_cons_zero, Act.put, List.setIfInBounds_toArray, List.set_cons_zero, List.set_cons_succ]
    refine wpAnyH_ready (rs := [3]) (by kernel_rfl) (by simp) ?_
    refine AllReadyH.cons (o := _) rfl (fun K hK => ?_) AllReadyH.nil
    go_simp
    refine (mkBusy_any j _ HD.out.1.1).mono ?_
    rintro e u1 ⟨rfl, hm1, hk1⟩
    have HT1 := Lib.hid (BoxT.keep HD.out.2.1 hk1 (fun e => by have := HNE.out.1; omega) (fun e => by simp only [Option.some.injEq] at e; have := HNE.out.2.1; omega))
    have HR1 := Lib.hid (HD.out.1.2.keepP HD.out.1.1 hk1)
    have HL1 := Lib.hid (HD.out.2.2.trans ((lowP hk1 hm1 (Nat.le_trans HLO.out HD.out.2.2.size)).mono (Nat.le_refl _)))
    have HP1 := Lib.hid hm1
    clear hm1 hk1
    refine hK.out _ _ HT1.out.2 (fun hHeld1 => ?_)
    clear hHeld
    clear hK K
    try simp only [List.getElem_toArray, List.getElem_cons_succ, List.getElem_cons_zero, Act.put, List.setIfInBounds_toArray, List.set_cons_zero, List.set_cons_succ]
    refine wpAnyH_ready (rs := [7]) (by kernel_rfl) (by simp) ?_
    refine AllReadyH.cons (o := _) rfl (fun K hK => ?_) AllReadyH.nil
    go_simp
    refine (rkBusy_any j _ HR1.out).mono ?_
    rintro e u2 ⟨rfl, hm2, hk2⟩
    have HT2 := Lib.hid (BoxT.keep HT1.out.1 hk2 (fun e => by have := HNE.out.2.2.1; omega) (fun e => by simp only [Option.some.injEq] at e; have := HNE.out.2.2.2; omega))
    have HF := Lib.hid (show Both u2 lo B I B' g c (chgXs 2 xs j) (chgAt 2 xs j a) ∧ Below lo w u2 from ⟨⟨HP1.out.keepR HR1.out hk2, hm2⟩, HL1.out.trans ((lowR hk2 hm2 (Nat.le_trans HLO.out HL1.out.size)).mono (Nat.le_refl _))⟩)
    clear hm2 hk2
    refine hK.out _ _ HT2.out.2 (fun hHeld2 => ?_)
    clear hHeld1
    clear hK K
    try simp only [List.getElem_toArray, List.getElem_cons_succ, List.getElem_cons_zero, Act.put, List.setIfInBounds_toArray, List.set_cons_zero, List.set_cons_succ]
    refine wpAnyH_take (i := 8) (oi := _) (v := ?_) rfl (by kernel_rfl) (by kernel_rfl) (by kernel_rfl) (fun _ _ _ h => h) (Or.inl ⟨by rfl, ?_⟩) (by assumption) ?_
    rotate_left
    · intro w hSw
      try dsimp only at hSw
      go_simp
      all_goals with_reducible rfl
    simp only [List.getElem_toArray, List.getElem_cons_succ, List.getElem_cons_zero, Act.put, List.setIfInBounds_toArray, List.set_cons_zero, List.set_cons_succ]
    refine wpAnyH_take (i := 9) (oi := _) (v := ?_) rfl (by kernel_rfl) (by kernel_rfl) (by kernel_rfl) (fun _ _ _ h => h) (Or.inl ⟨by rfl, ?_⟩) (by assumption) ?_
    rotate_left
    · intro w hSw
      try dsimp only at hSw
      go_simp
      all_goals with_reducible rfl
    simp only [List.getElem_toArray, List.getElem_cons_succ, List.getElem_cons_zero, Act.put, List.setIfInBounds_toArray, List.set_cons_zero, List.set_cons_succ]
    refine wpAnyH_done (by kernel_rfl) ?_ _
    go_wp2_with fail
    go_ret
    exact doPost_of HF.out (by unfold turnXs; simp) (by unfold turnAt; simp)
  have e2 : (kd == 2) = false := by simpa using h2
  by_cases h3 : kd = 3
  · subst h3
    obtain ⟨W1, hW1⟩ : ∃ W1, W1 = w.alloc (.cells #[.int .i64 3, .int .i64 j, .int .i64 m] 34) := ⟨_, rfl⟩
    go_enter Try.func11, Try.ntmps11
    go_wp2_with fail
    rw [← hW1] at HB1 ⊢
    clear hW1
    have HD := Lib.hid (show Both W1.drew lo B I B' g c xs a ∧ Blk W1.drew w.heap.size 34 #[.int .i64 3, .int .i64 j, .int .i64 m] ∧ Below lo w W1.drew from ⟨HB1.out.1.belowV (Below.refl _ W1).drew, HB1.out.2.1.drewG, HB1.out.2.2.drew⟩)
    refine wp_region_held_drew (S := fun w' : World => w'.cell? ⟨w.heap.size, 0, none⟩ = some (.int .i64 3) ∧ w'.cell? ⟨w.heap.size, 1, none⟩ = some (.int .i64 j) ∧ w'.cell? ⟨w.heap.size, 2, none⟩ = some (.int .i64 m)) (by kernel_rfl) ⟨HB1.out.2.1.cell 0, HB1.out.2.1.cell 1, HB1.out.2.1.cell 2⟩ (fun hHeld => ?_)
    refine wpAnyH_take (i := 0) (oi := _) (v := ?_) rfl (by kernel_rfl) (by kernel_rfl) (by kernel_rfl) (fun _ _ _ h => h) (Or.inl ⟨by rfl, ?_⟩) (by assumption) ?_
    rotate_left
    · intro w hSw
      try dsimp only at hSw
      go_simp
      all_goals with_reducible rfl
    simp only [List.getElem_toArray, List.getElem_cons_succ, List.getElem_cons_zero, Act.put, List.setIfInBounds_toArray, List.set_cons_zero, List.set_cons_succ]
    refine wpAnyH_take (i := 1) (oi := _) (v := ?_) rfl (by kernel_rfl) (by kernel_rfl) (by kernel_rfl) (fun _ _ _ h => h) (Or.inl ⟨by rfl, ?_⟩) (by assumption) ?_
    rotate_left
    · intro w hSw
      try dsimp only at hSw
      go_simp
      all_goals with_reducible rfl
    simp only [List.getElem_toArray, List.getElem_cons_succ, List.getElem_cons_zero, Act.put, List.setIfInBounds_toArray, List.set_cons_zero, List.set_cons_succ]
    refine wpAnyH_take (i := 2) (oi := _) (v := ?_) rfl (by kernel_rfl) (by kernel_rfl) (by kernel_rfl) (fun _ _ _ h => h) (Or.inl ⟨by rfl, ?_⟩) (by assumption) ?_
    rotate_left
    · intro w hSw
      try dsimp only at hSw
      go_simp
      all_goals with_reducible rfl
    simp only [List.getElem_toArray, List.getElem_cons_succ, List.getElem_cons_zero, Act.put, List.setIfInBounds_toArray, List.set_cons_zero, List.set_cons_succ]
    refine wpAnyH_take (i := 4) (oi := _) (v := ?_) rfl (by kernel_rfl) (by kernel_rfl) (by kernel_rfl) (fun _ _ _ h => h) (Or.inl ⟨by rfl, ?_⟩) (by assumption) ?_
    rotate_left
    · intro w hSw
      try dsimp only at hSw
      go_simp
      all_goals with_reducible rfl
    simp only [List.getElem_toArray, List.getElem_cons_succ, List.getElem_cons_zero, Act.put, List.setIfInBounds_toArray, List.set_cons_zero, List.set_cons_succ]
    refine wpAnyH_take (i := 5) (oi := _) (v := ?_) rfl (by kernel_rfl) (by kernel_rfl) (by kernel_rfl) (fun _ _ _ h => h) (Or.inl ⟨by rfl, ?_⟩) (by assumption) ?_
    rotate_left
    · intro w hSw
      try dsimp only at hSw
      go_simp
      all_goals with_reducible rfl
    simp only [List.getElem_toArray, List.getElem_cons_succ, List.getElem_cons_zero, Act.put, List.setIfInBounds_toArray, List.set_cons_zero, List.set_cons_succ]
    refine wpAnyH_take (i := 6) (oi := _) (v := ?_) rfl (by kernel_rfl) (by kernel_rfl) (by kernel_rfl) (fun _ _ _ h => h) (Or.inl ⟨by rfl, ?_⟩) (by assumption) ?_
    rotate_left
    · intro w hSw
      try dsimp only at hSw
      go_simp
      all_goals with_reducible rfl
    simp only [List.getElem_toArray, List.getElem_cons_succ, List.getElem_cons_zero, Act.put, List.setIfInBounds_toArray, List.set_cons_zero, List.set_cons_succ]
    refine wpAnyH_ready (rs := [3]) (by kernel_rfl) (by simp) ?_
    refine AllReadyH.cons (o := _) rfl (fun K hK => ?_) AllReadyH.nil
    go_simp
    refine (mkClose_any j _ HD.out.1.1).mono ?_
    rintro e u1 ⟨rfl, hm1, hk1⟩
    have HT1 := Lib.hid (BoxT.keep HD.out.2.1 hk1 (fun e => by have := HNE.out.1; omega) (fun e => by simp only [Option.some.injEq] at e; have := HNE.out.2.1; omega))
    have HR1 := Lib.hid (HD.out.1.2.keepP HD.out.1.1 hk1)
    have HL1 := Lib.hid (HD.out.2.2.trans ((lowP hk1 hm1 (Nat.le_trans HLO.out HD.out.2.2.size)).mono (Nat.le_refl _)))
    have HP1 := Lib.hid hm1
    clear hm1 hk1
    refine hK.out _ _ HT1.out.2 (fun hHeld1 => ?_)
    clear hHeld
    clear hK K
    try simp only [List.getElem_toArray, List.getElem_cons_succ, List.getElem_cons_zero, Act.put, List.setIfInBounds_toArray, List.set_cons_zero, List.set_cons_succ]
    refine wpAnyH_ready (rs := [7]) (by kernel_rfl) (by simp) ?_
    refine AllReadyH.cons (o := _) rfl (fun K hK => ?_) AllReadyH.nil
    go_simp
    refine (rkClose_any j _ HR1.out).mono ?_
    rintro e u2 ⟨rfl, hm2, hk2⟩
    have HT2 := Lib.hid (BoxT.keep HT1.out.1 hk2 (fun e => by have := HNE.out.2.2.1; omega) (fun e => by simp only [Option.some.injEq] at e; have := HNE.out.2.2.2; omega))
    have HF := Lib.hid (show Both u2 lo B I B' g c (chgXs 3 xs j) (chgAt 3 xs j a) ∧ Below lo w u2 from ⟨⟨HP1.out.keepR HR1.out hk2, hm2⟩, HL1.out.trans ((lowR hk2 hm2 (Nat.le_trans HLO.out HL1.out.size)).mono (Nat.le_refl _))⟩)
    clear hm2 hk2
    refine hK.out _ _ HT2.out.2 (fun hHeld2 => ?_)
    clear hHeld1
    clear hK K
    try simp only [List.getElem_toArray, List.getElem_cons_succ, List.getElem_cons_zero, Act.put, List.setIfInBounds_toArray, List.set_cons_zero, List.set_cons_succ]
    refine wpAnyH_take (i := 8) (oi := _) (v := ?_) rfl (by kernel_rfl) (by kernel_rfl) (by kernel_rfl) (fun _ _ _ h => h) (Or.inl ⟨by rfl, ?_⟩) (by assumption) ?_
    rotate_left
    · intro w hSw
      try dsimp only at hSw
      go_simp
      all_goals with_reducible rfl
    simp only [List.getElem_toArray, List.getElem_cons_succ, List.getElem_cons_zero, Act.put, List.setIfInBounds_toArray, List.set_cons_zero, List.set_cons_succ]
    refine wpAnyH_take (i := 9) (oi := _) (v := ?_) rfl (by kernel_rfl) (by kernel_rfl) (by kernel_rfl) (fun _ _ _ h => h) (Or.inl ⟨by rfl, ?_⟩) (by assumption) ?_
    rotate_left
    · intro w hSw
      try dsimp only at hSw
      go_simp
      all_goals with_reducible rfl
    simp only [List.getElem_toArray, List.getElem_cons_succ, List.getElem_cons_zero, Act.put, List.setIfInBounds_toArray, List.set_cons_zero, List.set_cons_succ]
    refine wpAnyH_done (by kernel_rfl) ?_ _
    go_wp2_with fail
    go_ret
    exact doPost_of HF.out (by unfold turnXs; simp) (by unfold turnAt; simp)
  have e3 : (kd == 3) = false := by simpa using h3
  have HTX : Hid (turnXs kd j m xs = xs ∧ turnAt kd j m xs a = a) := Lib.hid (by unfold turnXs turnAt; simp [h0, h1, h2, h3])
  clear h0 h1 h2 h3
  obtain ⟨W1, hW1⟩ : ∃ W1, W1 = w.alloc (.cells #[.int .i64 kd, .int .i64 j, .int .i64 m] 34) := ⟨_, rfl⟩
  have c2 := HB1.out.2.1.cell 2
  have c0 := HB1.out.2.1.cell 0
  simp only [List.getElem?_toArray, List.getElem?_cons_zero, List.getElem?_cons_succ] at c2 c0
  go_enter Try.func11, Try.ntmps11
  go_wp2_with fail
  rw [← hW1] at HB1 c0 c2 ⊢
  clear hW1
  refine (mkHeld_any m W1 HB1.out.1.1).mono ?_
  rintro e w2 ⟨p, c1, rfl, hi2, hb2⟩
  have HB2 := Lib.hid (show Both w2 lo B I B' g c xs a ∧ Blk w2 w.heap.size 34 #[.int .i64 kd, .int .i64 j, .int .i64 m] ∧ Below lo w w2 from ⟨HB1.out.1.belowV hb2, HB1.out.2.1.belowV hb2 HB1.out.2.1.lt, HB1.out.2.2.trans (hb2.mono (Nat.le_trans HLO.out HB1.out.2.2.size))⟩)
  have HI2 := Lib.hid hi2
  clear hi2 hb2 HB1 c0 c2
  have c2 := HB2.out.2.1.cell 2
  simp only [List.getElem?_toArray, List.getElem?_cons_zero, List.getElem?_cons_succ] at c2
  go_wp2_with fail
  refine (rkHeld_any m w2 HB2.out.1.2).mono ?_
  rintro e w3 ⟨p', c1', rfl, hi3, hb3⟩
  have HF := Lib.hid (show Both w3 lo B I B' g c xs a ∧ Below lo w w3 from ⟨HB2.out.1.belowV hb3, HB2.out.2.2.trans (hb3.mono (Nat.le_trans HLO.out HB2.out.2.2.size))⟩)
  have HI3 := Lib.hid hi3
  have HI2 := Lib.hid (HI2.out.belowV hb3)
  have hl8 : (heldM xs m).length ≤ 8 := by
    have := HF.out.1.1.len
    have h2 := heldTo_len xs m xs.length
    unfold heldM
    split
    · omega
    · simp
  clear hi3 hb3 HB2 c2
  generalize heldM xs m = ms at *
  generalize heldErr m = er at *
  have HS := Lib.hid (sameInts_any p p' ms c1 c1' (by omega) w3 HI2.out HI3.out)
  have hee : (er == er) = true := by simp
  go_wp2_with fail
  refine HS.out.mono ?_
  rintro e w4 ⟨rfl, hb4⟩
  have HG := Lib.hid (show Both w4 lo B I B' g c xs a ∧ Below lo w w4 from ⟨HF.out.1.belowV hb4, HF.out.2.trans (hb4.mono (Nat.le_trans HLO.out HF.out.2.size))⟩)
  clear hb4
  go_wp2_with fail
  go_ret
  exact doPost_of HG.out HTX.out.1 HTX.out.2
end Go.Proofs.Ytmnbcofonhlplaa
