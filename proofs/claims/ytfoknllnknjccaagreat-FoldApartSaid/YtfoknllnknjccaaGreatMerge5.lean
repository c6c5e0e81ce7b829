/-
  New and Merge of package fold, as contracts.
-/
import Derived.Test.YtfoknllnknjccaaGreatAcc
namespace Go.Proofs.YtfoknllnknjccaaGreat
open Go.RowKit
set_option linter.unusedSimpArgs false

theorem AggsIn.keepG {W W' : World} {row : Option Nat} {p : Option Addr} {gs : List Ag} (h : AggsIn W p gs) (hg : W.grownBy W' row) (hne : 0 < gs.length → ∀ b off, p = some ⟨b, off, none⟩ → some b ≠ row) : AggsIn W' p gs := fun hp => by
  obtain ⟨b, off, e, hl, hr⟩ := h hp
  have hb : ∀ o, W'.cell? ⟨b, o, none⟩ = W.cell? ⟨b, o, none⟩ := fun o => World.cell?_of_block (a := ⟨b, o, none⟩) (hg.block b hl (hne hp b off e))
  exact ⟨b, off, e, Nat.lt_of_lt_of_le hl hg.size, fun i hi => ⟨(hb _).trans (hr i hi).1, (hb _).trans (hr i hi).2⟩⟩
theorem ValsIn.keepG {W W' : World} {row : Option Nat} {p : Option Addr} {xs : List Val} (h : ValsIn W p xs) (hg : W.grownBy W' row) (hne : 0 < xs.length → ∀ b off, p = some ⟨b, off, none⟩ → some b ≠ row) : ValsIn W' p xs := fun hp => by
  obtain ⟨b, off, e, hl, hr⟩ := h hp
  have hb : ∀ o, W'.cell? ⟨b, o, none⟩ = W.cell? ⟨b, o, none⟩ := fun o => World.cell?_of_block (a := ⟨b, o, none⟩) (hg.block b hl (hne hp b off e))
  exact ⟨b, off, e, Nat.lt_of_lt_of_le hl hg.size, fun i hi => ⟨(hb _).trans (hr i hi).1, (hb _).trans (hr i hi).2.1, (hb _).trans (hr i hi).2.2⟩⟩
/-- The rows of these items lie elsewhere. -/
def Apart (B : Nat) (rs : List ItR) : Prop := ∀ r ∈ rs, 0 < r.1.2.1.length → ∀ b off, r.1.1 = some ⟨b, off, none⟩ → b ≠ B
theorem ItemsIn.keepG {W W' : World} {B : Nat} {p : Option Addr} {rs : List ItR} (h : ItemsIn W p rs) (hg : Grew W B W') (hne : 0 < rs.length → ∀ b off, p = some ⟨b, off, none⟩ → b ≠ B) (ha : Apart B rs) : ItemsIn W' p rs := fun hp => by
  obtain ⟨b, off, e, hl, hr⟩ := h hp
  have hb : ∀ o, W'.cell? ⟨b, o, none⟩ = W.cell? ⟨b, o, none⟩ := fun o => World.cell?_of_block (a := ⟨b, o, none⟩) (hg.block b hl (by simp; exact hne hp b off e))
  refine ⟨b, off, e, Nat.lt_of_lt_of_le hl hg.size, fun i hi => ⟨(hb _).trans (hr i hi).1, (hb _).trans (hr i hi).2.1, ⟨(hr i hi).2.2.1.1, (hr i hi).2.2.1.2.keepG hg fun hq b' off' e' => ?_⟩, (hr i hi).2.2.2⟩⟩
  have hm : rs[i]?.getD ir0 ∈ rs := by rw [List.getElem?_eq_getElem hi]; exact List.getElem_mem hi
  simp
  exact ha _ hm hq b' off' e'
/-- No values lie in a block of a slice, a number and a slice. -/
theorem vals_ne_acc {W : World} {B : Nat} {t : TypeId} {p q : Option Addr} {m c m' c' : Nat} {n : Int} (hK : Blk W B t #[.slice p m c, .int .i64 n, .slice q m' c']) {b off : Nat} {xs : List Val} (h : ValsAt W b off xs) (hp : 0 < xs.length) : b ≠ B := by
  rintro rfl
  have h2 := (h 0 hp).2.2
  rw [hK.cell] at h2
  simp only [Nat.zero_mul, Nat.add_zero, List.getElem?_toArray] at h2
  match off, h2 with
  | 0, h2 => simp at h2
  | k + 1, h2 => simp at h2
theorem aggs_ne_acc {W : World} {B : Nat} {t : TypeId} {p q : Option Addr} {m c m' c' : Nat} {n : Int} (hK : Blk W B t #[.slice p m c, .int .i64 n, .slice q m' c']) {b off : Nat} {gs : List Ag} (h : AggsAt W b off gs) (hp : 0 < gs.length) : b ≠ B := by
  rintro rfl
  have h1 := (h 0 hp).1
  have h2 := (h 0 hp).2
  rw [hK.cell] at h1 h2
  simp only [Nat.zero_mul, Nat.add_zero, List.getElem?_toArray] at h1 h2
  match off, h1, h2 with
  | 0, h1, h2 => simp at h1
  | 1, h1, h2 => simp at h2
  | 2, h1, h2 => simp at h1
  | k + 3, h1, h2 => simp at h1
theorem apart_acc {W : World} {B : Nat} {t : TypeId} {p q : Option Addr} {m c m' c' : Nat} {n : Int} (hK : Blk W B t #[.slice p m c, .int .i64 n, .slice q m' c']) {q2 : Option Addr} {rs : List ItR} (h : ItemsIn W q2 rs) : Apart B rs := fun r hr hp b off e => by
  obtain ⟨i, hi, rfl⟩ := List.mem_iff_getElem.1 hr
  obtain ⟨b2, off2, _, _, ha⟩ := h (by omega)
  have hrow := (ha i hi).2.2.1
  rw [List.getElem?_eq_getElem hi, Option.getD_some] at hrow
  obtain ⟨b3, off3, e3, _, hv⟩ := hrow.2 hp
  rw [e] at e3
  cases e3
  exact vals_ne_acc hK hv hp

theorem AccAt.setRows {W : World} {B : Nat} {gs : List Ag} {n : Int} {b b' : BagV} (h : AccAt W B gs n b) (hb : BagOK W b') (hne : 0 < b'.2.1.length → ∀ g off, b'.1 = some ⟨g, off, none⟩ → g ≠ B) : AccAt (W.setCell ⟨B, 2, none⟩ (bagv b')) B gs n b' := by
  obtain ⟨p, c, hK, hA, _⟩ := h
  have hg : Grew W B (W.setCell ⟨B, 2, none⟩ (bagv b')) := (grew_refl W B).set 2 _
  refine ⟨p, c, by simpa using hK.setG 2 (bagv b'), hA.keepG hg fun hp b2 off e => ?_, hb.1, hb.2.1, hb.2.2.keepG hg hne (apart_acc hK hb.2.2)⟩
  obtain ⟨b3, off3, e3, _, ha⟩ := hA hp
  rw [e] at e3
  cases e3
  have := aggs_ne_acc hK ha hp
  simpa using this

/-- New: an accumulator without rows. -/
def newErr (gs : List Ag) (n : Int) : Int := if validL n gs = false then 1 else if n < 0 ∨ 8 < n then 7 else 0
def NewPost (w : World) (gs : List Ag) (n : Int) (e : Ending) (w' : World) : Prop := ∃ B, e = .returned (.tuple #[.pointer (some ⟨B, 0, none⟩), .int .i64 0]) ∧ w.heap.size ≤ B ∧ AccAt w' B gs n (none, [], 0) ∧ Below w.heap.size w w'
set_option maxRecDepth 100000 in
theorem new_bad (p : Option Addr) (gs : List Ag) (c : Nat) (n er : Int) (hm : gs.length ≤ 9223372036854775807) (w : World) (hX : AggsIn w p gs) (he : newErr gs n = er) (h0 : er ≠ 0) :
    Calls Tryz.prog 7 #[.slice p gs.length c, .int .i64 n] w fun e w' => e = .returned (.tuple #[.pointer none, .int .i64 er]) ∧ Below w.heap.size w w' := by
  have hv := foldValid_any p gs c n hm w hX
  unfold newErr at he
  clear hX
  cases q : validL n gs with
  | false =>
    rw [if_pos q] at he
    subst he
    rw [q] at hv
    have HV := Lib.hid hv
    clear hv q
    go_enter Tryz.func7, Tryz.ntmps7
    go_wp2_with fail
    refine HV.out.mono ?_
    rintro e w1 ⟨rfl, hb1⟩
    go_wp2_with fail
    go_ret2
    exact ⟨rfl, hb1⟩
  | true =>
    rw [q] at he hv
    rw [if_neg (by decide)] at he
    have hn : n < 0 ∨ 8 < n := by
      by_cases h : n < 0 ∨ 8 < n
      · exact h
      · rw [if_neg h] at he; exact absurd he.symm h0
    rw [if_pos hn] at he
    subst he
    have HV := Lib.hid hv
    clear hv q
    rcases hn with hn | hn
    · go_enter Tryz.func7, Tryz.ntmps7
      go_wp2_with fail
      refine HV.out.mono ?_
      rintro e w1 ⟨rfl, hb1⟩
      go_wp2_with fail
      go_ret2
      exact ⟨rfl, hb1⟩
    · have hn0 : decide (n < 0) = false := decide_eq_false (by omega)
      go_enter Tryz.func7, Tryz.ntmps7
      go_wp2_with fail
      refine HV.out.mono ?_
      rintro e w1 ⟨rfl, hb1⟩
      go_wp2_with fail
      go_ret2
      exact ⟨rfl, hb1⟩
set_option maxRecDepth 100000 in
theorem new_ok (p : Option Addr) (gs : List Ag) (c : Nat) (n : Int) (hm : gs.length ≤ 9223372036854775807) (w : World) (hX : AggsIn w p gs) (hv : validL n gs = true) (hn0 : 0 ≤ n) (hn8 : n ≤ 8) :
    Calls Tryz.prog 7 #[.slice p gs.length c, .int .i64 n] w (NewPost w gs n) := by
  have h1 := foldValid_any p gs c n hm w hX
  rw [hv] at h1
  have hl : 1 ≤ gs.length ∧ gs.length ≤ 8 := by
    unfold validL at hv
    rw [Bool.and_eq_true, decide_eq_true_eq] at hv
    exact hv.1
  have HC := Lib.hid fun W (h : Below w.heap.size w W) => cloneG_any p gs c (by omega) (by omega) W (hX.belowV h)
  have HV := Lib.hid h1
  clear h1 hX hv
  go_enter Tryz.func7, Tryz.ntmps7
  go_wp2_with fail
  refine HV.out.mono ?_
  rintro e w1 ⟨rfl, hb1⟩
  go_wp2_with fail
  refine (HC.out _ hb1).mono ?_
  rintro e w2 ⟨p2, c2, rfl, hA2, hb2⟩
  have hB2 : Below w.heap.size w w2 := hb1.trans (hb2.mono hb1.size)
  have HE := Lib.hid (show AccAt (w2.alloc (.cells #[.slice p2 gs.length c2, .int .i64 n, .slice none 0 0] 66)) w2.heap.size gs n (none, [], 0) ∧ Below w.heap.size w (w2.alloc (.cells #[.slice p2 gs.length c2, .int .i64 n, .slice none 0 0] 66)) from
    ⟨⟨p2, c2, Blk.new w2 _ _, hA2.belowV (below_new _ _), by simp, Nat.le_refl _, fun h => absurd h (by simp)⟩, hB2.alloc hB2.size _⟩)
  have HZ := Lib.hid hB2.size
  clear hA2 hb2 hB2 hb1
  go_wp2_with fail
  go_ret2
  exact ⟨_, rfl, HZ.out, HE.out.1, HE.out.2⟩

def MergePost (w : World) (A : Nat) (gs : List Ag) (n : Int) (l : List It) (er : Int) (e : Ending) (w' : World) : Prop :=
  e = .returned (.int .i64 er) ∧ (er ≠ 0 → Below w.heap.size w w') ∧ (er = 0 → Grew w A w' ∧ ∃ p ss cap, vals ss = l ∧ AccAt w' A gs n (p, ss, cap) ∧ (0 < ss.length → ∀ g off, p = some ⟨g, off, none⟩ → w.heap.size ≤ g))
theorem own_from {B : Nat} {W : World} {p : Option Addr} {cap : Nat} {ss : List ItR} (h : OwnNew B W p cap ss) : 0 < ss.length → ∀ g off, p = some ⟨g, off, none⟩ → B ≤ g := fun hp g off e => by
  obtain ⟨g', cap', he, hB, _⟩ := own_addr hp h.1
  simp only [Value.slice.injEq, true_and] at he
  rw [e] at he
  cases he.1
  exact hB

set_option maxRecDepth 100000 in
set_option maxHeartbeats 2000000 in
theorem merge_any (A B : Nat) (gs : List Ag) (n : Int) (x y : BagV) (hg : 0 < gs.length) (hgm : gs.length ≤ 9223372036854775807) (hx : x.2.1.length ≤ 100000) (hy : y.2.1.length ≤ 100000) (w : World) (hA : AccAt w A gs n x) (hB : AccAt w B gs n y) :
    Calls Tryz.prog 16 #[.pointer (some ⟨A, 0, none⟩), .pointer (some ⟨B, 0, none⟩)] w (MergePost w A gs n (combVal (fun x y => x + y) (vals x.2.1) (vals y.2.1)) (combErr (fun x y => x + y) (vals x.2.1) (vals y.2.1))) := by
  have HM1 := Lib.hid (made_any A gs n x hg w hA)
  have HM2 := Lib.hid (made_any B gs n y hg w hB)
  have HA0 := Lib.hid hA
  obtain ⟨p1, c1, k1, a1, b1⟩ := hA
  obtain ⟨p2, c2, k2, a2, b2⟩ := hB
  have x0 := k1.cell 0
  have x1 := k1.cell 1
  have x2 := k1.cell 2
  have y0 := k2.cell 0
  have y1 := k2.cell 1
  have y2 := k2.cell 2
  simp only [List.getElem?_toArray, List.getElem?_cons_zero, List.getElem?_cons_succ] at x0 x1 x2 y0 y1 y2
  have HS := Lib.hid (same_eq p1 p2 gs c1 c2 gs.length n rfl hgm w.drew (a1.belowV (Below.refl _ _).drew) (a2.belowV (Below.refl _ _).drew))
  have HAB := Lib.hid (And.intro (And.intro k1 k2) (And.intro b1 b2))
  clear a1 a2 k1 k2 b1 b2
  obtain ⟨xp, xs, xc⟩ := x
  obtain ⟨yp, ys, yc⟩ := y
  dsimp only [bagv] at *
  have HSF := Lib.hid fun W (h1 : xs.length ≤ xc) (h2 : ys.length ≤ yc) (hX : ItemsIn W xp xs) (hY : ItemsIn W yp ys) => Sum_any xp yp xs ys xc yc hx hy h1 h2 W hX hY
  generalize combVal (fun x y => x + y) (vals xs) (vals ys) = cv at HSF ⊢
  generalize combErr (fun x y => x + y) (vals xs) (vals ys) = ce at HSF ⊢
  go_enter Tryz.func16, Tryz.ntmps16
  go_wp2_with fail
  refine HM1.out.mono ?_
  rintro e w1 ⟨rfl, rfl⟩
  go_wp2_with fail
  refine HM2.out.mono ?_
  rintro e w1 ⟨rfl, rfl⟩
  go_wp2_with fail
  go_still_tail 8, (by kernel_rfl)
  change wpList _ _ _ _ _ w.drew
  go_wp2_with fail
  refine HS.out.mono ?_
  rintro e w1 ⟨rfl, hb1⟩
  have hb1' : Below w.heap.size w w1 := (Below.refl _ w).drew.trans hb1
  have k3 := HAB.out.1.1.belowV hb1' HAB.out.1.1.lt
  have k4 := HAB.out.1.2.belowV hb1' HAB.out.1.2.lt
  clear x0 x1 x2 y0 y1 y2 hb1
  have x2 := k3.cell 2
  have y2 := k4.cell 2
  simp only [bagv, List.getElem?_toArray, List.getElem?_cons_zero, List.getElem?_cons_succ] at x2 y2
  have HX3 := Lib.hid ((HAB.out.2.1.belowV hb1').belowV (Below.refl _ _).drew)
  have HY3 := Lib.hid ((HAB.out.2.2.belowV hb1').belowV (Below.refl _ _).drew)
  have HSUM := Lib.hid (HSF.out w1.drew HX3.out.2.1 HY3.out.2.1 HX3.out.2.2 HY3.out.2.2)
  have HA1 := Lib.hid (HA0.out.belowV hb1')
  have HB1 := Lib.hid hb1'
  have HLT := Lib.hid (And.intro k3.lt k4.lt)
  clear k3 k4 hb1'
  --REG5
  have HS5 := Lib.hid (show ∀ w', Below w1.heap.size w1 w' → Below w1.heap.size w1 w' ∧ w'.cell? ⟨A, 2, none⟩ = some (.slice xp xs.length xc) ∧ w'.cell? ⟨B, 2, none⟩ = some (.slice yp ys.length yc) from fun w' hb => ⟨hb, (hb.cell (p := ⟨A, 2, none⟩) HLT.out.1).trans x2, (hb.cell (p := ⟨B, 2, none⟩) HLT.out.2).trans y2⟩)
  go_wp2_with fail
  refine wp_region_held_drew (S := fun w' : World => Below w1.heap.size w1 w' ∧ w'.cell? ⟨A, 2, none⟩ = some (.slice xp xs.length xc) ∧ w'.cell? ⟨B, 2, none⟩ = some (.slice yp ys.length yc)) (by kernel_rfl) (HS5.out _ (Below.refl _ _).drew) (fun hHeld => ?_)
  refine wpAnyH_take (i := 0) (oi := _) (v := ?_) rfl (by kernel_rfl) (by kernel_rfl) (by kernel_rfl) (fun _ _ _ h => h) (Or.inl ⟨by rfl, ?_⟩) (by assumption) ?_
  rotate_left
  · intro w hSw
    try dsimp only at hSw
    go_simp
    all_goals with_reducible rfl
  simp only [List.getElem_toArray, List.getElem_cons_succ, List.getElem_cons_zero, Act.put, List.setIfInBounds_toArray, List.set_cons_zero, List.set_cons_succ]
  refine wpAnyH_take (i := 1) (oi := _) (v := ?_) rfl (by kernel_rfl) (by kernel_rfl) (by kernel_rfl) (fun _ _ _ h => h) (Or.inl ⟨by rfl, ?_⟩) (by assumption) ?_
  rotate_left
  · intro w hSw
    try dsimp only at hSw
    go_simp
    all_goals with_reducible rfl
  simp only [List.getElem_toArray, List.getElem_cons_succ, List.getElem_cons_zero, Act.put, List.setIfInBounds_toArray, List.set_cons_zero, List.set_cons_succ]
  refine wpAnyH_take (i := 2) (oi := _) (v := ?_) rfl (by kernel_rfl) (by kernel_rfl) (by kernel_rfl) (fun _ _ _ h => h) (Or.inl ⟨by rfl, ?_⟩) (by assumption) ?_
  rotate_left
  · intro w hSw
    try dsimp only at hSw
    go_simp
    all_goals with_reducible rfl
  simp only [List.getElem_toArray, List.getElem_cons_succ, List.getElem_cons_zero, Act.put, List.setIfInBounds_toArray, List.set_cons_zero, List.set_cons_succ]
  refine wpAnyH_take (i := 3) (oi := _) (v := ?_) rfl (by kernel_rfl) (by kernel_rfl) (by kernel_rfl) (fun _ _ _ h => h) (Or.inl ⟨by rfl, ?_⟩) (by assumption) ?_
  rotate_left
  · intro w hSw
    try dsimp only at hSw
    go_simp
    all_goals with_reducible rfl
  simp only [List.getElem_toArray, List.getElem_cons_succ, List.getElem_cons_zero, Act.put, List.setIfInBounds_toArray, List.set_cons_zero, List.set_cons_succ]
  refine wpAnyH_take (i := 4) (oi := _) (v := ?_) rfl (by kernel_rfl) (by kernel_rfl) (by kernel_rfl) (fun _ _ _ h => h) (Or.inl ⟨by rfl, ?_⟩) (by assumption) ?_
  rotate_left
  · intro w hSw
    try dsimp only at hSw
    go_simp
    all_goals with_reducible rfl
  simp only [List.getElem_toArray, List.getElem_cons_succ, List.getElem_cons_zero, Act.put, List.setIfInBounds_toArray, List.set_cons_zero, List.set_cons_succ]
  refine wpAnyH_take (i := 5) (oi := _) (v := ?_) rfl (by kernel_rfl) (by kernel_rfl) (by kernel_rfl) (fun _ _ _ h => h) (Or.inl ⟨by rfl, ?_⟩) (by assumption) ?_
  rotate_left
  · intro w hSw
    try dsimp only at hSw
    go_simp
    all_goals with_reducible rfl
  simp only [List.getElem_toArray, List.getElem_cons_succ, List.getElem_cons_zero, Act.put, List.setIfInBounds_toArray, List.set_cons_zero, List.set_cons_succ]
  refine wpAnyH_take (i := 6) (oi := _) (v := ?_) rfl (by kernel_rfl) (by kernel_rfl) (by kernel_rfl) (fun _ _ _ h => h) (Or.inl ⟨by rfl, ?_⟩) (by assumption) ?_
  rotate_left
  · intro w hSw
    try dsimp only at hSw
    go_simp
    all_goals with_reducible rfl
  simp only [List.getElem_toArray, List.getElem_cons_succ, List.getElem_cons_zero, Act.put, List.setIfInBounds_toArray, List.set_cons_zero, List.set_cons_succ]
  refine wpAnyH_take (i := 7) (oi := _) (v := ?_) rfl (by kernel_rfl) (by kernel_rfl) (by kernel_rfl) (fun _ _ _ h => h) (Or.inl ⟨by rfl, ?_⟩) (by assumption) ?_
  rotate_left
  · intro w hSw
    try dsimp only at hSw
    go_simp
    all_goals with_reducible rfl
  simp only [List.getElem_toArray, List.getElem_cons_succ, List.getElem_cons_zero, Act.put, List.setIfInBounds_toArray, List.set_cons_zero, List.set_cons_succ]
  refine wpAnyH_ready (rs := [8]) (by kernel_rfl) (by simp) ?_
  refine AllReadyH.cons (o := _) rfl (fun K hK => ?_) AllReadyH.nil
  go_simp
  refine HSUM.out.mono ?_
  rintro e w2 ⟨p3, s3, c3, rfl, hv3, hc3, hl3, hi3, ho3, hb3⟩
  refine hK.out _ _ (HS5.out _ (hHeld.1.trans (hb3.mono hHeld.1.size))) (fun hHeld2 => ?_)
  clear hHeld
  clear hK K
  try simp only [List.getElem_toArray, List.getElem_cons_succ, List.getElem_cons_zero, Act.put, List.setIfInBounds_toArray, List.set_cons_zero, List.set_cons_succ]
  refine wpAnyH_take (i := 9) (oi := _) (v := ?_) rfl (by kernel_rfl) (by kernel_rfl) (by kernel_rfl) (fun _ _ _ h => h) (Or.inl ⟨by rfl, ?_⟩) (by assumption) ?_
  rotate_left
  · intro w hSw
    try dsimp only at hSw
    go_simp
    all_goals with_reducible rfl
  simp only [List.getElem_toArray, List.getElem_cons_succ, List.getElem_cons_zero, Act.put, List.setIfInBounds_toArray, List.set_cons_zero, List.set_cons_succ]
  refine wpAnyH_take (i := 10) (oi := _) (v := ?_) rfl (by kernel_rfl) (by kernel_rfl) (by kernel_rfl) (fun _ _ _ h => h) (Or.inl ⟨by rfl, ?_⟩) (by assumption) ?_
  rotate_left
  · intro w hSw
    try dsimp only at hSw
    go_simp
    all_goals with_reducible rfl
  simp only [List.getElem_toArray, List.getElem_cons_succ, List.getElem_cons_zero, Act.put, List.setIfInBounds_toArray, List.set_cons_zero, List.set_cons_succ]
  refine wpAnyH_take (i := 11) (oi := _) (v := ?_) rfl (by kernel_rfl) (by kernel_rfl) (by kernel_rfl) (fun _ _ _ h => h) (Or.inl ⟨by rfl, ?_⟩) (by assumption) ?_
  rotate_left
  · intro w hSw
    try dsimp only at hSw
    go_simp
    all_goals with_reducible rfl
  simp only [List.getElem_toArray, List.getElem_cons_succ, List.getElem_cons_zero, Act.put, List.setIfInBounds_toArray, List.set_cons_zero, List.set_cons_succ]
  refine wpAnyH_take (i := 12) (oi := _) (v := ?_) rfl (by kernel_rfl) (by kernel_rfl) (by kernel_rfl) (fun _ _ _ h => h) (Or.inl ⟨by rfl, ?_⟩) (by assumption) ?_
  rotate_left
  · intro w hSw
    try dsimp only at hSw
    go_simp
    all_goals with_reducible rfl
  simp only [List.getElem_toArray, List.getElem_cons_succ, List.getElem_cons_zero, Act.put, List.setIfInBounds_toArray, List.set_cons_zero, List.set_cons_succ]
  refine wpAnyH_take (i := 13) (oi := _) (v := ?_) rfl (by kernel_rfl) (by kernel_rfl) (by kernel_rfl) (fun _ _ _ h => h) (Or.inl ⟨by rfl, ?_⟩) (by assumption) ?_
  rotate_left
  · intro w hSw
    try dsimp only at hSw
    go_simp
    all_goals with_reducible rfl
  simp only [List.getElem_toArray, List.getElem_cons_succ, List.getElem_cons_zero, Act.put, List.setIfInBounds_toArray, List.set_cons_zero, List.set_cons_succ]
  refine wpAnyH_done (by kernel_rfl) ?_ _
  have HV3 := Lib.hid hv3
  have hB3 : Below w.heap.size w w2 := HB1.out.trans (hHeld2.1.mono HB1.out.size)
  have hA3 := HA1.out.belowV hHeld2.1
  have HOF := Lib.hid (own_from ho3)
  clear hv3 ho3 hHeld2 x2 y2
  by_cases h0 : ce = 0
  · subst h0
    obtain ⟨p5, c5, k5, a5, b5⟩ := hA3
    have hA5 : AccAt w2 A gs n (xp, xs, xc) := ⟨p5, c5, k5, a5, b5⟩
    have z2 := k5.cell 2
    have f2 := k5.froz 2
    simp only [bagv, List.getElem?_toArray, List.getElem?_cons_zero, List.getElem?_cons_succ] at z2
    have hne : 0 < s3.length → ∀ g off, p3 = some ⟨g, off, none⟩ → g ≠ A := fun hp g off e => by
      have h1 := HOF.out hp g off e
      have h2 := HA0.out.lt
      have h3 := HB1.out.size
      have h4 : w1.drew.heap.size = w1.heap.size := rfl
      omega
    have HFI := Lib.hid (show Grew w A (w2.setCell ⟨A, 2, none⟩ (.slice p3 s3.length c3)) ∧ AccAt (w2.setCell ⟨A, 2, none⟩ (.slice p3 s3.length c3)) A gs n (p3, s3, c3) from ⟨(grew_of_below hB3).set 2 _, hA5.setRows (b' := (p3, s3, c3)) ⟨by show s3.length ≤ _; omega, hc3, hi3⟩ hne⟩)
    have HSZ := Lib.hid HB1.out.size
    clear k5 a5 b5 hA5 hB3 hi3 hne
    go_wp2_with fail
    go_ret
    exact ⟨rfl, fun h => absurd rfl h, fun _ => ⟨HFI.out.1, p3, s3, c3, HV3.out, HFI.out.2, fun hp g off e => Nat.le_trans HSZ.out (HOF.out hp g off e)⟩⟩
  · have hd : (ce != 0) = true := by rw [bne_iff_ne]; exact h0
    have H0 := Lib.hid h0
    clear hA3 h0 hi3
    go_wp2_with fail
    go_ret
    exact ⟨rfl, fun _ => hB3, fun h => absurd h H0.out⟩
end Go.Proofs.YtfoknllnknjccaaGreat
