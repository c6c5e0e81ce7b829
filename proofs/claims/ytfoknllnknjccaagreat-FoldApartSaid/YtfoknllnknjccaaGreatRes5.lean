/-
  Result of package fold, as a contract.
-/
import Derived.Test.YtfoknllnknjccaaGreatMerge5
namespace Go.Proofs.YtfoknllnknjccaaGreat
open Go.RowKit
set_option linter.unusedSimpArgs false

theorem fitsA_of {n : Nat} {gs : List Ag} (h : validL (n : Int) gs = true) : fitsA gs n := by
  unfold validL at h
  rw [Bool.and_eq_true] at h
  intro a ha
  have := List.all_eq_true.1 h.2 a ha
  unfold aggOK aggP at this
  have h2 := of_decide_eq_true this
  rcases h2 with h2 | h2
  · exact .inl h2.1
  · exact .inr ⟨h2.2.2.1, h2.2.2.2⟩
theorem validL_len {n : Int} {gs : List Ag} (h : validL n gs = true) : 1 ≤ gs.length ∧ gs.length ≤ 8 := by
  unfold validL at h
  rw [Bool.and_eq_true, decide_eq_true_eq] at h
  exact h.1
def resErr (l : List It) : Int := if wholeB l = true then 0 else 10
def resVal (gs : List Ag) (l : List It) : List Val := if wholeB l = true then toldV gs l else []
def ResPost (w : World) (ys : List Val) (er : Int) (e : Ending) (w' : World) : Prop := ∃ v, e = .returned (.tuple #[v, .int .i64 er]) ∧ OwnsV w' w.heap.size v ys ∧ Below w.heap.size w w'
/-- Rows of n values. -/
def Wide (n : Nat) (l : List It) : Prop := ∀ x ∈ l, x.1.length = n
theorem mem_valsR {rs : List ItR} {r : ItR} (h : r ∈ rs) : itv r ∈ vals rs := List.mem_map_of_mem h

set_option maxRecDepth 100000 in
set_option maxHeartbeats 2000000 in
theorem result_any (A : Nat) (gs : List Ag) (n : Nat) (x : BagV) (hv : validL (n : Int) gs = true) (hx : x.2.1.length ≤ 100000) (hw : Wide n (vals x.2.1)) (w : World) (hA : AccAt w A gs n x) :
    Calls Tryz.prog 11 #[.pointer (some ⟨A, 0, none⟩)] w (ResPost w (resVal gs (vals x.2.1)) (resErr (vals x.2.1))) := by
  have hl := validL_len hv
  have HM1 := Lib.hid (made_any A gs n x (by omega) w hA)
  have HF := Lib.hid (fitsA_of hv)
  obtain ⟨p, c, k1, a1, b1⟩ := hA
  have x2 := k1.cell 2
  simp only [List.getElem?_toArray, List.getElem?_cons_zero, List.getElem?_cons_succ] at x2
  have hWh := bagWhole_any x.1 x.2.1 x.2.2 (by omega) b1.2.1 w b1.2.2
  have HAB := Lib.hid (And.intro k1 (And.intro a1 b1))
  have HWD := Lib.hid hw
  unfold resVal resErr
  clear k1 a1 b1 hv hw
  cases q : wholeB (vals x.2.1) with
  | false =>
    rw [q] at hWh
    have HW := Lib.hid hWh
    rw [if_neg (by decide), if_neg (by decide)]
    obtain ⟨xp, xs, xc⟩ := x
    dsimp only [bagv] at *
    clear hWh q
    go_enter Tryz.func11, Tryz.ntmps11
    go_wp2_with fail
    refine HM1.out.mono ?_
    rintro e w1 ⟨rfl, rfl⟩
    go_wp2_with fail
    refine HW.out.mono ?_
    rintro e w1 ⟨rfl, hb1⟩
    go_wp2_with fail
    go_ret2
    exact ⟨_, rfl, World.ownsRow_nil _ _ _ _, hb1⟩
  | true =>
    rw [q] at hWh
    have HW := Lib.hid hWh
    rw [if_pos rfl, if_pos rfl]
    have hvb : validBag (vals x.2.1) = true := by unfold wholeB at q; rw [Bool.and_eq_true] at q; exact q.1
    have hvv := validBag_iff.1 hvb
    have HT := Lib.hid fun W (h : Below w.heap.size w W) => told_v x.1 p x.2.1 x.2.2 gs c n (by have := hvv.1; rw [vals_len] at this; exact this) (by omega) HF.out (fun r hr => HWD.out _ (mem_valsR hr)) (fun r hr => (itOK_iff.1 (hvv.2.1 _ (mem_valsR hr))).1) W (HAB.out.2.2.2.2.belowV h) (HAB.out.2.1.belowV h)
    clear hWh q hvb hvv HWD HF
    obtain ⟨xp, xs, xc⟩ := x
    dsimp only [bagv] at *
    generalize toldV gs (vals xs) = tv at HT ⊢
    go_enter Tryz.func11, Tryz.ntmps11
    go_wp2_with fail
    refine HM1.out.mono ?_
    rintro e w1 ⟨rfl, rfl⟩
    go_wp2_with fail
    refine HW.out.mono ?_
    rintro e w1 ⟨rfl, hb1⟩
    have k3 := HAB.out.1.belowV hb1 HAB.out.1.lt
    have HS5 := Lib.hid (show ∀ w', Below w1.heap.size w1 w' → Below w1.heap.size w1 w' ∧ w'.cell? ⟨A, 0, none⟩ = some (.slice p gs.length c) ∧ w'.cell? ⟨A, 2, none⟩ = some (.slice xp xs.length xc) from fun w' hb => ⟨hb, (k3.belowV hb k3.lt).cell 0, (k3.belowV hb k3.lt).cell 2⟩)
    have HB1 := Lib.hid hb1
    have HBD := Lib.hid hb1.drew
    clear k3 x2 hb1
    go_wp2_with fail
    refine wp_region_held_drew (S := fun w' : World => Below w1.heap.size w1 w' ∧ w'.cell? ⟨A, 0, none⟩ = some (.slice p gs.length c) ∧ w'.cell? ⟨A, 2, none⟩ = some (.slice xp xs.length xc)) (by kernel_rfl) (HS5.out _ (Below.refl _ _).drew) (fun hHeld => ?_)
    refine wpAnyH_take (i := 0) (oi := _) (v := ?_) rfl (by kernel_rfl) (by kernel_rfl) (by kernel_rfl) (fun _ _ _ h => h) (Or.inl ⟨by rfl, ?_⟩) (by assumption) ?_
    rotate_left
    · intro w hSw
      try dsimp only at hSw
      go_simp
      all_goals with_reducible rfl
    simp only [List.getElem_toArray, List.getElem_cons_succ, List.getElem_cons_zero, Act.put, List.setIfInBounds_toArray, List.set_cons_zero, List.set_cons_succ]
    refine wpAnyH_take (i := 1) (oi := _) (v := ?_) rfl (by kernel_rfl) (by kernel_rfl) (by kernel_rfl) (fun _ _ _ h => h) (Or.inl ⟨by rfl, ?_⟩) (by assumption) ?_
    rotate_left
    · intro w hSw
      try dsimp only at hSw
      go_simp
      all_goals with_reducible rfl
    simp only [List.getElem_toArray, List.getElem_cons_succ, List.getElem_cons_zero, Act.put, List.setIfInBounds_toArray, List.set_cons_zero, List.set_cons_succ]
    refine wpAnyH_take (i := 2) (oi := _) (v := ?_) rfl (by kernel_rfl) (by kernel_rfl) (by kernel_rfl) (fun _ _ _ h => h) (Or.inl ⟨by rfl, ?_⟩) (by assumption) ?_
    rotate_left
    · intro w hSw
      try dsimp only at hSw
      go_simp
      all_goals with_reducible rfl
    simp only [List.getElem_toArray, List.getElem_cons_succ, List.getElem_cons_zero, Act.put, List.setIfInBounds_toArray, List.set_cons_zero, List.set_cons_succ]
    refine wpAnyH_take (i := 3) (oi := _) (v := ?_) rfl (by kernel_rfl) (by kernel_rfl) (by kernel_rfl) (fun _ _ _ h => h) (Or.inl ⟨by rfl, ?_⟩) (by assumption) ?_
    rotate_left
    · intro w hSw
      try dsimp only at hSw
      go_simp
      all_goals with_reducible rfl
    simp only [List.getElem_toArray, List.getElem_cons_succ, List.getElem_cons_zero, Act.put, List.setIfInBounds_toArray, List.set_cons_zero, List.set_cons_succ]
    refine wpAnyH_take (i := 4) (oi := _) (v := ?_) rfl (by kernel_rfl) (by kernel_rfl) (by kernel_rfl) (fun _ _ _ h => h) (Or.inl ⟨by rfl, ?_⟩) (by assumption) ?_
    rotate_left
    · intro w hSw
      try dsimp only at hSw
      go_simp
      all_goals with_reducible rfl
    simp only [List.getElem_toArray, List.getElem_cons_succ, List.getElem_cons_zero, Act.put, List.setIfInBounds_toArray, List.set_cons_zero, List.set_cons_succ]
    refine wpAnyH_take (i := 5) (oi := _) (v := ?_) rfl (by kernel_rfl) (by kernel_rfl) (by kernel_rfl) (fun _ _ _ h => h) (Or.inl ⟨by rfl, ?_⟩) (by assumption) ?_
    rotate_left
    · intro w hSw
      try dsimp only at hSw
      go_simp
      all_goals with_reducible rfl
    simp only [List.getElem_toArray, List.getElem_cons_succ, List.getElem_cons_zero, Act.put, List.setIfInBounds_toArray, List.set_cons_zero, List.set_cons_succ]
    refine wpAnyH_take (i := 6) (oi := _) (v := ?_) rfl (by kernel_rfl) (by kernel_rfl) (by kernel_rfl) (fun _ _ _ h => h) (Or.inl ⟨by rfl, ?_⟩) (by assumption) ?_
    rotate_left
    · intro w hSw
      try dsimp only at hSw
      go_simp
      all_goals with_reducible rfl
    simp only [List.getElem_toArray, List.getElem_cons_succ, List.getElem_cons_zero, Act.put, List.setIfInBounds_toArray, List.set_cons_zero, List.set_cons_succ]
    refine wpAnyH_take (i := 7) (oi := _) (v := ?_) rfl (by kernel_rfl) (by kernel_rfl) (by kernel_rfl) (fun _ _ _ h => h) (Or.inl ⟨by rfl, ?_⟩) (by assumption) ?_
    rotate_left
    · intro w hSw
      try dsimp only at hSw
      go_simp
      all_goals with_reducible rfl
    simp only [List.getElem_toArray, List.getElem_cons_succ, List.getElem_cons_zero, Act.put, List.setIfInBounds_toArray, List.set_cons_zero, List.set_cons_succ]
    refine wpAnyH_take (i := 8) (oi := _) (v := ?_) rfl (by kernel_rfl) (by kernel_rfl) (by kernel_rfl) (fun _ _ _ h => h) (Or.inl ⟨by rfl, ?_⟩) (by assumption) ?_
    rotate_left
    · intro w hSw
      try dsimp only at hSw
      go_simp
      all_goals with_reducible rfl
    simp only [List.getElem_toArray, List.getElem_cons_succ, List.getElem_cons_zero, Act.put, List.setIfInBounds_toArray, List.set_cons_zero, List.set_cons_succ]
    refine wpAnyH_ready (rs := [9]) (by kernel_rfl) (by simp) ?_
    refine AllReadyH.cons (o := _) rfl (fun K hK => ?_) AllReadyH.nil
    go_simp
    refine (HT.out w1.drew HBD.out).mono ?_
    rintro e w2 ⟨v2, rfl, ho2, hb2⟩
    have hb2' : Below w1.heap.size w1 w2 := (Below.refl _ w1).drew.trans hb2
    refine hK.out _ _ (HS5.out _ hb2') (fun hHeld2 => ?_)
    clear hHeld
    clear hK K
    try simp only [List.getElem_toArray, List.getElem_cons_succ, List.getElem_cons_zero, Act.put, List.setIfInBounds_toArray, List.set_cons_zero, List.set_cons_succ]
    refine wpAnyH_take (i := 10) (oi := _) (v := ?_) rfl (by kernel_rfl) (by kernel_rfl) (by kernel_rfl) (fun _ _ _ h => h) (Or.inl ⟨by rfl, ?_⟩) (by assumption) ?_
    rotate_left
    · intro w hSw
      try dsimp only at hSw
      go_simp
      all_goals with_reducible rfl
    simp only [List.getElem_toArray, List.getElem_cons_succ, List.getElem_cons_zero, Act.put, List.setIfInBounds_toArray, List.set_cons_zero, List.set_cons_succ]
    refine wpAnyH_take (i := 11) (oi := _) (v := ?_) rfl (by kernel_rfl) (by kernel_rfl) (by kernel_rfl) (fun _ _ _ h => h) (Or.inl ⟨by rfl, ?_⟩) (by assumption) ?_
    rotate_left
    · intro w hSw
      try dsimp only at hSw
      go_simp
      all_goals with_reducible rfl
    simp only [List.getElem_toArray, List.getElem_cons_succ, List.getElem_cons_zero, Act.put, List.setIfInBounds_toArray, List.set_cons_zero, List.set_cons_succ]
    refine wpAnyH_done (by kernel_rfl) ?_ _
    have HFI := Lib.hid (show OwnsV w2 w.heap.size v2 tv ∧ Below w.heap.size w w2 from ⟨ownsRow_base ho2 HB1.out.size, HB1.out.trans (hb2'.mono HB1.out.size)⟩)
    clear ho2 hb2 hb2'
    go_wp2_with fail
    go_ret2
    exact ⟨v2, rfl, HFI.out.1, HFI.out.2⟩
end Go.Proofs.YtfoknllnknjccaaGreat
