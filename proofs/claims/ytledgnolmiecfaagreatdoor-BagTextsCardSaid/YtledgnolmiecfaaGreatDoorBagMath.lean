/-
  Plain facts: bags as lists of rows with their numbers; two bags walked together; rows put in; what comes out hangs on how often each row comes, and on nothing else.
-/
import Derived.Test.YtledgnolmiecfaaGreatDoorCmpMath
import Derived.Test.YtledgnolmiecfaaGreatDoorRow
import Derived.WideShapes
namespace Go.Proofs.YtledgnolmiecfaaGreatDoor
set_option linter.unusedSimpArgs false

theorem cmpInt_zero {a b : Int} (h : Lib.compareInt a b = 0) : a = b := by
  unfold Lib.compareInt at h
  split at h
  · simp at h
  · split at h
    · simp at h
    · omega
theorem lexL_zero {α : Type} {f : α → α → Int} {P : α → Prop} (h : ∀ x y, P x → P y → f x y = 0 → x = y) : ∀ xs ys, (∀ x ∈ xs, P x) → (∀ y ∈ ys, P y) → lexL f xs ys = 0 → xs = ys
  | [], [] => fun _ _ _ => rfl
  | [], _ :: _ => by simp [lexL]
  | _ :: _, [] => by simp [lexL]
  | x :: xs, y :: ys => by
    intro hx hy e
    simp only [lexL] at e
    by_cases e1 : f x y = 0
    · rw [if_pos e1] at e
      rw [h x y (hx x (by simp)) (hy y (by simp)) e1, lexL_zero h xs ys (fun z hz => hx z (by simp [hz])) (fun z hz => hy z (by simp [hz])) e]
    · rw [if_neg e1] at e
      exact absurd e e1
theorem bytes_eq0 {a b : List UInt8} (h : Lib.compareBytes a b = 0) : a = b := by
  rw [bytes_lex] at h
  refine lexL_zero (P := fun _ => True) (fun x y _ _ e => ?_) a b (fun _ _ => trivial) (fun _ _ => trivial) h
  have := cmpInt_zero e
  apply UInt8.toNat_inj.1
  omega
theorem empty_eq {s : ByteArray} (h : s.toList.isEmpty = true) : s.data.toList = [] := by
  rw [Lib.toList_data] at h
  exact List.isEmpty_iff.1 h
/-- Two valid values that are neither before the other are one. -/
theorem val_eq {x y : Val} (hx : validV x.1 x.2.1 x.2.2 = true) (hy : validV y.1 y.2.1 y.2.2 = true) (h : cmpVal x y = 0) : x = y := by
  obtain ⟨k, n, s⟩ := x
  obtain ⟨l, m, r⟩ := y
  unfold validV at hx hy
  have hx' := of_decide_eq_true hx
  have hy' := of_decide_eq_true hy
  unfold validP at hx' hy'
  unfold cmpVal at h
  dsimp only at h hx' hy'
  have ck : cls k = k := by unfold cls; rcases hx' with h | h | h <;> simp [h.1]
  have cl : cls l = l := by unfold cls; rcases hy' with h | h | h <;> simp [h.1]
  rw [ck, cl] at h
  by_cases e : k = l
  · subst e
    rw [if_pos rfl] at h
    rcases hx' with ⟨rfl, rfl, hs⟩ | ⟨rfl, hs, _⟩ | ⟨rfl, rfl, _⟩
    · rcases hy' with ⟨_, rfl, hr⟩ | ⟨h1, _⟩ | ⟨h1, _⟩
      · rw [Go.WideShapes.bytes_inj ((empty_eq hs).trans (empty_eq hr).symm)]
      · simp at h1
      · simp at h1
    · rcases hy' with ⟨h1, _⟩ | ⟨_, hr, _⟩ | ⟨h1, _⟩
      · simp at h1
      · rw [if_pos rfl] at h
        rw [Go.WideShapes.bytes_inj ((empty_eq hs).trans (empty_eq hr).symm), cmpInt_zero h]
      · simp at h1
    · rcases hy' with ⟨h1, _⟩ | ⟨h1, _⟩ | ⟨_, rfl, _⟩
      · simp at h1
      · simp at h1
      · rw [if_neg (by decide), if_pos rfl] at h
        rw [Go.WideShapes.bytes_inj (bytes_eq0 h)]
  · rw [if_neg e] at h
    exact absurd (cmpInt_zero h) e
theorem row_eq {xs ys : List Val} (hx : validRow xs = true) (hy : validRow ys = true) (h : cmpRow xs ys = 0) : xs = ys := by
  unfold validRow at hx hy
  rw [Bool.and_eq_true] at hx hy
  have hx' := List.all_eq_true.1 hx.2
  have hy' := List.all_eq_true.1 hy.2
  exact lexL_zero (P := fun x : Val => validV x.1 x.2.1 x.2.2 = true) (fun x y h1 h2 e => val_eq h1 h2 e) xs ys hx' hy' h
theorem cmp_lt_trans {x y z : List Val} (h1 : cmpRow x y < 0) (h2 : cmpRow y z < 0) : cmpRow x z < 0 := by
  obtain ⟨t1, t2⟩ := cmpRow_ok.trans x y z (by omega) (by omega)
  have : cmpRow x z ≠ 0 := fun e => by have := (t2 e).1; omega
  omega
theorem cmp_lt_eq {x y z : List Val} (h1 : cmpRow x y < 0) (h2 : cmpRow y z = 0) : cmpRow x z < 0 := by
  rw [← cmpRow_ok.right h2]; exact h1
theorem cmp_eq_lt {x y z : List Val} (h1 : cmpRow x y = 0) (h2 : cmpRow y z < 0) : cmpRow x z < 0 := by
  rw [cmpRow_ok.left h1]; exact h2

abbrev It := List Val × Int
abbrev it0 : It := ([], 0)
def inN (n : Int) : Prop := n ≠ 0 ∧ -1000000 ≤ n ∧ n ≤ 1000000
instance (n : Int) : Decidable (inN n) := by unfold inN; infer_instance
def ltI (x y : It) : Prop := cmpRow x.1 y.1 < 0
instance (x y : It) : Decidable (ltI x y) := by unfold ltI; infer_instance
def Up (l : List It) : Prop := l.Pairwise ltI
instance (l : List It) : Decidable (Up l) := by unfold Up; infer_instance
def Asc (l : List It) : Prop := (∀ x ∈ l, validRow x.1 = true ∧ x.2 ≠ 0) ∧ Up l
def itOK (x : It) : Bool := validRow x.1 && decide (inN x.2)
def validBag (l : List It) : Bool := decide (l.length ≤ 400) && (l.all itOK && decide (Up l))
theorem validBag_iff {l : List It} : validBag l = true ↔ l.length ≤ 400 ∧ (∀ x ∈ l, itOK x = true) ∧ Up l := by
  unfold validBag; simp [List.all_eq_true]
theorem itOK_iff {x : It} : itOK x = true ↔ validRow x.1 = true ∧ inN x.2 := by unfold itOK; simp
theorem asc_of_valid {l : List It} (h : validBag l = true) : Asc l := by
  obtain ⟨_, h2, h3⟩ := validBag_iff.1 h
  exact ⟨fun x hx => ⟨(itOK_iff.1 (h2 x hx)).1, (itOK_iff.1 (h2 x hx)).2.1⟩, h3⟩

/-- How often a row is there. -/
def cnt : List It → List Val → Int
  | [], _ => 0
  | x :: l, r => if cmpRow x.1 r = 0 then x.2 else cnt l r
theorem cnt_none {l : List It} {r : List Val} (h : ∀ x ∈ l, cmpRow x.1 r ≠ 0) : cnt l r = 0 := by
  induction l with
  | nil => rfl
  | cons x l ih => rw [cnt, if_neg (h x (by simp)), ih fun y hy => h y (by simp [hy])]
theorem cnt_some {l : List It} {r : List Val} (h : cnt l r ≠ 0) : ∃ x ∈ l, cmpRow x.1 r = 0 := by
  induction l with
  | nil => exact absurd rfl h
  | cons x l ih =>
    rw [cnt] at h
    by_cases e : cmpRow x.1 r = 0
    · exact ⟨x, by simp, e⟩
    · rw [if_neg e] at h
      obtain ⟨y, hy, e⟩ := ih h
      exact ⟨y, by simp [hy], e⟩
theorem cnt_above {l : List It} {r : List Val} (h : ∀ x ∈ l, cmpRow r x.1 < 0) : cnt l r = 0 :=
  cnt_none fun x hx e => by have := h x hx; have := cmpRow_ok.anti x.1 r; omega
theorem cnt_head {x : It} {l : List It} (h : Up (x :: l)) {r : List Val} (e : cmpRow x.1 r = 0) : cnt l r = 0 :=
  cnt_above fun y hy => cmp_eq_lt (by have := cmpRow_ok.anti x.1 r; omega) ((List.pairwise_cons.1 h).1 y hy)
theorem bag_ext : ∀ {l m : List It}, Asc l → Asc m → (∀ r, cnt l r = cnt m r) → l = m
  | [], [], _, _, _ => rfl
  | [], y :: m, _, hm, h => by
    have := h y.1
    rw [cnt, cnt, if_pos (cmpRow_ok.refl _)] at this
    exact absurd this.symm (hm.1 y (by simp)).2
  | x :: l, [], hl, _, h => by
    have := h x.1
    rw [cnt, cnt, if_pos (cmpRow_ok.refl _)] at this
    exact absurd this (hl.1 x (by simp)).2
  | x :: l, y :: m, hl, hm, h => by
    have hx : ∃ z ∈ y :: m, cmpRow z.1 x.1 = 0 := cnt_some (by rw [← h, cnt, if_pos (cmpRow_ok.refl _)]; exact (hl.1 x (by simp)).2)
    have hy : ∃ z ∈ x :: l, cmpRow z.1 y.1 = 0 := cnt_some (by rw [h, cnt, if_pos (cmpRow_ok.refl _)]; exact (hm.1 y (by simp)).2)
    have e0 : cmpRow x.1 y.1 = 0 := by
      obtain ⟨z, hz, e⟩ := hx
      obtain ⟨u, hu, f⟩ := hy
      rcases List.mem_cons.1 hz with rfl | hz
      · have := cmpRow_ok.anti z.1 x.1; omega
      · rcases List.mem_cons.1 hu with rfl | hu
        · exact f
        · have h1 := (List.pairwise_cons.1 hm.2).1 z hz
          have h2 := (List.pairwise_cons.1 hl.2).1 u hu
          unfold ltI at h1 h2
          have h3 := cmp_lt_eq h1 e
          have h4 := cmp_lt_eq h2 f
          have := cmpRow_ok.anti x.1 y.1
          omega
    have e1 : x.1 = y.1 := row_eq (hl.1 x (by simp)).1 (hm.1 y (by simp)).1 e0
    have e2 : x.2 = y.2 := by
      have := h x.1
      rw [cnt, if_pos (cmpRow_ok.refl _), cnt, if_pos (by rw [e1]; exact cmpRow_ok.refl _)] at this
      exact this
    have hxy : x = y := Prod.ext e1 e2
    subst hxy
    have := bag_ext (l := l) (m := m) ⟨fun z hz => hl.1 z (by simp [hz]), (List.pairwise_cons.1 hl.2).2⟩ ⟨fun z hz => hm.1 z (by simp [hz]), (List.pairwise_cons.1 hm.2).2⟩ (fun r => by
      by_cases e : cmpRow x.1 r = 0
      · rw [cnt_head hl.2 e, cnt_head hm.2 e]
      · have := h r
        rw [cnt, cnt, if_neg e, if_neg e] at this
        exact this)
    rw [this]

abbrev Pr := List Val × Int × Int
/-- Two bags, walked together. -/
def pairsL : List It → List It → List Pr
  | [], [] => []
  | x :: a, [] => (x.1, x.2, 0) :: pairsL a []
  | [], y :: b => (y.1, 0, y.2) :: pairsL [] b
  | x :: a, y :: b =>
    if cmpRow x.1 y.1 < 0 then (x.1, x.2, 0) :: pairsL a (y :: b)
    else if 0 < cmpRow x.1 y.1 then (y.1, 0, y.2) :: pairsL (x :: a) b
    else (y.1, x.2, y.2) :: pairsL a b
termination_by a b => a.length + b.length
theorem pairs_from (a b : List It) : ∀ p ∈ pairsL a b, (∃ x ∈ a, cmpRow x.1 p.1 = 0) ∨ ∃ y ∈ b, cmpRow y.1 p.1 = 0 := by
  fun_induction pairsL a b with
  | case1 => simp
  | case2 x a ih =>
    intro p hp
    rcases List.mem_cons.1 hp with rfl | hp
    · exact .inl ⟨x, by simp, cmpRow_ok.refl _⟩
    · rcases ih p hp with ⟨z, hz, e⟩ | ⟨z, hz, e⟩
      · exact .inl ⟨z, by simp [hz], e⟩
      · exact .inr ⟨z, hz, e⟩
  | case3 y b ih =>
    intro p hp
    rcases List.mem_cons.1 hp with rfl | hp
    · exact .inr ⟨y, by simp, cmpRow_ok.refl _⟩
    · rcases ih p hp with ⟨z, hz, e⟩ | ⟨z, hz, e⟩
      · exact .inl ⟨z, hz, e⟩
      · exact .inr ⟨z, by simp [hz], e⟩
  | case4 x a y b h ih =>
    intro p hp
    rcases List.mem_cons.1 hp with rfl | hp
    · exact .inl ⟨x, by simp, cmpRow_ok.refl _⟩
    · rcases ih p hp with ⟨z, hz, e⟩ | ⟨z, hz, e⟩
      · exact .inl ⟨z, by simp [hz], e⟩
      · exact .inr ⟨z, hz, e⟩
  | case5 x a y b h h' ih =>
    intro p hp
    rcases List.mem_cons.1 hp with rfl | hp
    · exact .inr ⟨y, by simp, cmpRow_ok.refl _⟩
    · rcases ih p hp with ⟨z, hz, e⟩ | ⟨z, hz, e⟩
      · exact .inl ⟨z, hz, e⟩
      · exact .inr ⟨z, by simp [hz], e⟩
  | case6 x a y b h h' ih =>
    intro p hp
    rcases List.mem_cons.1 hp with rfl | hp
    · exact .inr ⟨y, by simp, cmpRow_ok.refl _⟩
    · rcases ih p hp with ⟨z, hz, e⟩ | ⟨z, hz, e⟩
      · exact .inl ⟨z, by simp [hz], e⟩
      · exact .inr ⟨z, by simp [hz], e⟩
theorem pairs_valid (a b : List It) (ha : ∀ x ∈ a, validRow x.1 = true) (hb : ∀ x ∈ b, validRow x.1 = true) : ∀ p ∈ pairsL a b, validRow p.1 = true := by
  fun_induction pairsL a b with
  | case1 => simp
  | case2 x a ih =>
    intro p hp
    rcases List.mem_cons.1 hp with rfl | hp
    · exact ha x (by simp)
    · exact ih (fun z hz => ha z (by simp [hz])) hb p hp
  | case3 y b ih =>
    intro p hp
    rcases List.mem_cons.1 hp with rfl | hp
    · exact hb y (by simp)
    · exact ih ha (fun z hz => hb z (by simp [hz])) p hp
  | case4 x a y b h ih =>
    intro p hp
    rcases List.mem_cons.1 hp with rfl | hp
    · exact ha x (by simp)
    · exact ih (fun z hz => ha z (by simp [hz])) hb p hp
  | case5 x a y b h h' ih =>
    intro p hp
    rcases List.mem_cons.1 hp with rfl | hp
    · exact hb y (by simp)
    · exact ih ha (fun z hz => hb z (by simp [hz])) p hp
  | case6 x a y b h h' ih =>
    intro p hp
    rcases List.mem_cons.1 hp with rfl | hp
    · exact hb y (by simp)
    · exact ih (fun z hz => ha z (by simp [hz])) (fun z hz => hb z (by simp [hz])) p hp
theorem up_tail {x : It} {l : List It} (h : Up (x :: l)) : Up l := (List.pairwise_cons.1 h).2
theorem up_head {x y : It} {l : List It} (h : Up (x :: l)) (hy : y ∈ l) : cmpRow x.1 y.1 < 0 := (List.pairwise_cons.1 h).1 y hy
theorem pairs_up (a b : List It) (ha : Up a) (hb : Up b) : (pairsL a b).Pairwise fun p q => cmpRow p.1 q.1 < 0 := by
  fun_induction pairsL a b with
  | case1 => exact .nil
  | case2 x a ih =>
    refine List.pairwise_cons.2 ⟨fun p hp => ?_, ih (up_tail ha) hb⟩
    rcases pairs_from _ _ p hp with ⟨z, hz, e⟩ | ⟨z, hz, e⟩
    · exact cmp_lt_eq (up_head ha hz) e
    · simp at hz
  | case3 y b ih =>
    refine List.pairwise_cons.2 ⟨fun p hp => ?_, ih ha (up_tail hb)⟩
    rcases pairs_from _ _ p hp with ⟨z, hz, e⟩ | ⟨z, hz, e⟩
    · simp at hz
    · exact cmp_lt_eq (up_head hb hz) e
  | case4 x a y b h ih =>
    refine List.pairwise_cons.2 ⟨fun p hp => ?_, ih (up_tail ha) hb⟩
    rcases pairs_from _ _ p hp with ⟨z, hz, e⟩ | ⟨z, hz, e⟩
    · exact cmp_lt_eq (up_head ha hz) e
    · rcases List.mem_cons.1 hz with rfl | hz
      · exact cmp_lt_eq h e
      · exact cmp_lt_eq (cmp_lt_trans h (up_head hb hz)) e
  | case5 x a y b h h' ih =>
    have h2 : cmpRow y.1 x.1 < 0 := by have := cmpRow_ok.anti x.1 y.1; omega
    refine List.pairwise_cons.2 ⟨fun p hp => ?_, ih ha (up_tail hb)⟩
    rcases pairs_from _ _ p hp with ⟨z, hz, e⟩ | ⟨z, hz, e⟩
    · rcases List.mem_cons.1 hz with rfl | hz
      · exact cmp_lt_eq h2 e
      · exact cmp_lt_eq (cmp_lt_trans h2 (up_head ha hz)) e
    · exact cmp_lt_eq (up_head hb hz) e
  | case6 x a y b h h' ih =>
    have h2 : cmpRow y.1 x.1 = 0 := by have := cmpRow_ok.anti x.1 y.1; omega
    refine List.pairwise_cons.2 ⟨fun p hp => ?_, ih (up_tail ha) (up_tail hb)⟩
    rcases pairs_from _ _ p hp with ⟨z, hz, e⟩ | ⟨z, hz, e⟩
    · exact cmp_lt_eq (cmp_eq_lt h2 (up_head ha hz)) e
    · exact cmp_lt_eq (up_head hb hz) e
def become (f : Int → Int → Int) (p : Pr) : It := (p.1, f p.2.1 p.2.2)
theorem pairs_cnt {f : Int → Int → Int} (f0 : f 0 0 = 0) (a b : List It) (ha : Up a) (hb : Up b) (r : List Val) : cnt ((pairsL a b).map (become f)) r = f (cnt a r) (cnt b r) := by
  fun_induction pairsL a b with
  | case1 => simp [cnt, f0]
  | case2 x a ih =>
    simp only [List.map_cons, cnt, become]
    by_cases e : cmpRow x.1 r = 0
    · rw [if_pos e, if_pos e]
    · rw [if_neg e, if_neg e, ih (up_tail ha) hb]; rfl
  | case3 y b ih =>
    simp only [List.map_cons, cnt, become]
    by_cases e : cmpRow y.1 r = 0
    · rw [if_pos e, if_pos e]
    · rw [if_neg e, if_neg e, ih ha (up_tail hb)]; rfl
  | case4 x a y b h ih =>
    simp only [List.map_cons, cnt, become]
    by_cases e : cmpRow x.1 r = 0
    · have e' : cmpRow r x.1 = 0 := by have := cmpRow_ok.anti x.1 r; omega
      have hy : cnt (y :: b) r = 0 := cnt_above fun z hz => by
        rcases List.mem_cons.1 hz with rfl | hz
        · exact cmp_eq_lt e' h
        · exact cmp_eq_lt e' (cmp_lt_trans h (up_head hb hz))
      rw [cnt] at hy
      rw [if_pos e, if_pos e, hy]
    · rw [if_neg e, if_neg e, ih (up_tail ha) hb]; rfl
  | case5 x a y b h h' ih =>
    have h2 : cmpRow y.1 x.1 < 0 := by have := cmpRow_ok.anti x.1 y.1; omega
    simp only [List.map_cons, cnt, become]
    by_cases e : cmpRow y.1 r = 0
    · have e' : cmpRow r y.1 = 0 := by have := cmpRow_ok.anti y.1 r; omega
      have hx : cnt (x :: a) r = 0 := cnt_above fun z hz => by
        rcases List.mem_cons.1 hz with rfl | hz
        · exact cmp_eq_lt e' h2
        · exact cmp_eq_lt e' (cmp_lt_trans h2 (up_head ha hz))
      rw [cnt] at hx
      rw [if_pos e, if_pos e, hx]
    · rw [if_neg e, if_neg e, ih ha (up_tail hb)]; rfl
  | case6 x a y b h h' ih =>
    have h2 : cmpRow y.1 x.1 = 0 := by have := cmpRow_ok.anti x.1 y.1; omega
    have h3 : cmpRow x.1 r = cmpRow y.1 r := (cmpRow_ok.left h2 r).symm
    simp only [List.map_cons, cnt, become]
    by_cases e : cmpRow y.1 r = 0
    · rw [if_pos e, if_pos (h3.trans e), if_pos e]
    · rw [if_neg e, if_neg (by rw [h3]; exact e), if_neg e, ih (up_tail ha) (up_tail hb)]
def nz (l : List It) : List It := l.filter fun x => x.2 != 0
theorem nz_up {l : List It} (h : Up l) : Up (nz l) := List.Pairwise.sublist List.filter_sublist h
theorem nz_cnt {l : List It} (h : Up l) (r : List Val) : cnt (nz l) r = cnt l r := by
  induction l with
  | nil => rfl
  | cons x l ih =>
    unfold nz
    rw [List.filter_cons]
    by_cases e : x.2 = 0
    · rw [if_neg (by simp [e]), cnt]
      show cnt (nz l) r = _
      rw [ih (up_tail h)]
      by_cases e2 : cmpRow x.1 r = 0
      · rw [if_pos e2, e, cnt_head h e2]
      · rw [if_neg e2]
    · rw [if_pos (by simp [e]), cnt, cnt]
      show (if _ then _ else cnt (nz l) r) = _
      rw [ih (up_tail h)]
def mapped (f : Int → Int → Int) (a b : List It) : List It := (pairsL a b).map (become f)
def comb (f : Int → Int → Int) (a b : List It) : List It := nz (mapped f a b)
theorem mapped_up (f : Int → Int → Int) {a b : List It} (ha : Up a) (hb : Up b) : Up (mapped f a b) := by
  unfold Up mapped
  rw [List.pairwise_map]
  exact pairs_up a b ha hb
theorem comb_asc (f : Int → Int → Int) {a b : List It} (ha : Asc a) (hb : Asc b) : Asc (comb f a b) := by
  refine ⟨fun x hx => ?_, nz_up (mapped_up f ha.2 hb.2)⟩
  have h1 := List.mem_filter.1 hx
  obtain ⟨p, hp, rfl⟩ := List.mem_map.1 h1.1
  exact ⟨pairs_valid a b (fun z hz => (ha.1 z hz).1) (fun z hz => (hb.1 z hz).1) p hp, by simpa using h1.2⟩
theorem comb_cnt {f : Int → Int → Int} (f0 : f 0 0 = 0) {a b : List It} (ha : Asc a) (hb : Asc b) (r : List Val) : cnt (comb f a b) r = f (cnt a r) (cnt b r) := by
  unfold comb
  rw [nz_cnt (mapped_up f ha.2 hb.2)]
  exact pairs_cnt f0 a b ha.2 hb.2 r
theorem pairs_len (a b : List It) : (pairsL a b).length ≤ a.length + b.length := by
  fun_induction pairsL a b <;> simp only [List.length_cons, List.length_nil] at * <;> omega

/-- A row put in, so many times. -/
def put : List It → List Val → Int → List It
  | [], r, n => if n = 0 then [] else [(r, n)]
  | x :: l, r, n =>
    if cmpRow r x.1 < 0 then (if n = 0 then x :: l else (r, n) :: x :: l)
    else if cmpRow r x.1 = 0 then (if x.2 + n = 0 then l else (r, x.2 + n) :: l)
    else x :: put l r n
theorem put_from {l : List It} {r : List Val} {n : Int} : ∀ x ∈ put l r n, x ∈ l ∨ x.1 = r := by
  induction l with
  | nil =>
    intro x hx
    rw [put] at hx
    split at hx <;> simp at hx
    exact .inr (by rw [hx])
  | cons y l ih =>
    intro x hx
    rw [put] at hx
    split at hx
    · split at hx
      · exact .inl hx
      · rcases List.mem_cons.1 hx with rfl | hx
        · exact .inr rfl
        · exact .inl hx
    · split at hx
      · split at hx
        · exact .inl (by simp [hx])
        · rcases List.mem_cons.1 hx with rfl | hx
          · exact .inr rfl
          · exact .inl (by simp [hx])
      · rcases List.mem_cons.1 hx with rfl | hx
        · exact .inl (by simp)
        · rcases ih x hx with h | h
          · exact .inl (by simp [h])
          · exact .inr h
theorem put_up {l : List It} {r : List Val} {n : Int} (h : Up l) : Up (put l r n) := by
  induction l with
  | nil => rw [put]; split <;> simp [Up]
  | cons y l ih =>
    rw [put]
    by_cases e1 : cmpRow r y.1 < 0
    · rw [if_pos e1]
      split
      · exact h
      · refine List.pairwise_cons.2 ⟨fun z hz => ?_, h⟩
        rcases List.mem_cons.1 hz with rfl | hz
        · exact e1
        · exact cmp_lt_trans e1 (up_head h hz)
    · rw [if_neg e1]
      by_cases e2 : cmpRow r y.1 = 0
      · rw [if_pos e2]
        split
        · exact up_tail h
        · exact List.pairwise_cons.2 ⟨fun z hz => cmp_eq_lt e2 (up_head h hz), up_tail h⟩
      · rw [if_neg e2]
        refine List.pairwise_cons.2 ⟨fun z hz => ?_, ih (up_tail h)⟩
        rcases put_from z hz with hz | hz
        · exact up_head h hz
        · show cmpRow y.1 z.1 < 0
          rw [hz]
          have := cmpRow_ok.anti r y.1; omega
theorem put_cnt {l : List It} {r : List Val} {n : Int} (h : Up l) (q : List Val) : cnt (put l r n) q = cnt l q + if cmpRow r q = 0 then n else 0 := by
  induction l with
  | nil =>
    rw [put]
    by_cases e : n = 0
    · rw [if_pos e, e, cnt]; simp
    · rw [if_neg e, cnt, cnt]; simp [cnt]
  | cons y l ih =>
    rw [put]
    by_cases e1 : cmpRow r y.1 < 0
    · rw [if_pos e1]
      by_cases e : n = 0
      · rw [if_pos e, e]; simp
      · rw [if_neg e, cnt]
        by_cases e2 : cmpRow r q = 0
        · have e' : cmpRow q r = 0 := by have := cmpRow_ok.anti r q; omega
          have : cnt (y :: l) q = 0 := cnt_above fun z hz => by
            rcases List.mem_cons.1 hz with rfl | hz
            · exact cmp_eq_lt e' e1
            · exact cmp_eq_lt e' (cmp_lt_trans e1 (up_head h hz))
          rw [if_pos e2, if_pos e2, this]; omega
        · rw [if_neg e2, if_neg e2]; omega
    · rw [if_neg e1]
      by_cases e2 : cmpRow r y.1 = 0
      · have e3 : cmpRow r q = cmpRow y.1 q := cmpRow_ok.left e2 q
        rw [if_pos e2]
        by_cases e : y.2 + n = 0
        · rw [if_pos e, cnt]
          by_cases e4 : cmpRow y.1 q = 0
          · rw [if_pos e4, if_pos (e3.trans e4), cnt_head h e4]; omega
          · rw [if_neg e4, if_neg (by rw [e3]; exact e4)]; omega
        · rw [if_neg e, cnt, cnt]
          by_cases e4 : cmpRow y.1 q = 0
          · rw [if_pos e4, if_pos (e3.trans e4), if_pos (e3.trans e4)]
          · rw [if_neg e4, if_neg (by rw [e3]; exact e4), if_neg (by rw [e3]; exact e4)]; omega
      · rw [if_neg e2, cnt, cnt, ih (up_tail h)]
        by_cases e4 : cmpRow y.1 q = 0
        · have : ¬ cmpRow r q = 0 := fun e5 => by
            have := cmpRow_ok.right e4 r
            omega
          rw [if_pos e4, if_pos e4, if_neg this]; omega
        · rw [if_neg e4, if_neg e4]
theorem put_asc {l : List It} {r : List Val} {n : Int} (h : Asc l) (hr : validRow r = true) : Asc (put l r n) := by
  refine ⟨?_, put_up h.2⟩
  have h1 := h.1
  clear h
  induction l with
  | nil =>
    intro x hx
    rw [put] at hx
    split at hx <;> simp at hx
    subst hx
    exact ⟨hr, by assumption⟩
  | cons y l ih =>
    intro x hx
    rw [put] at hx
    split at hx
    · split at hx
      · exact h1 x hx
      · rcases List.mem_cons.1 hx with rfl | hx
        · exact ⟨hr, by assumption⟩
        · exact h1 x hx
    · split at hx
      · split at hx
        · exact h1 x (by simp [hx])
        · rcases List.mem_cons.1 hx with rfl | hx
          · exact ⟨hr, by assumption⟩
          · exact h1 x (by simp [hx])
      · rcases List.mem_cons.1 hx with rfl | hx
        · exact h1 x (by simp)
        · exact ih (fun z hz => h1 z (by simp [hz])) x hx
/-- All of b put into a, each so many times as often. -/
def plus (a b : List It) (n : Int) : List It := b.foldl (fun o x => put o x.1 (n * x.2)) a
theorem plus_next {a b : List It} {n : Int} {i : Nat} (h : i < b.length) : plus a (b.take (i + 1)) n = put (plus a (b.take i) n) (b[i]?.getD it0).1 (n * (b[i]?.getD it0).2) := by
  rw [List.take_succ_eq_append_getElem h]; unfold plus; rw [List.foldl_append]; simp [h]
theorem plus_asc {a b : List It} {n : Int} (ha : Asc a) (hb : ∀ x ∈ b, validRow x.1 = true) : Asc (plus a b n) := by
  induction b generalizing a with
  | nil => exact ha
  | cons x b ih => exact ih (put_asc ha (hb x (by simp))) fun z hz => hb z (by simp [hz])
theorem plus_cnt {a b : List It} {n : Int} (ha : Up a) (hb : Up b) (q : List Val) : cnt (plus a b n) q = cnt a q + n * cnt b q := by
  induction b generalizing a with
  | nil => simp [plus, cnt]
  | cons x b ih =>
    show cnt (plus (put a x.1 (n * x.2)) b n) q = _
    rw [ih (put_up ha) (up_tail hb), put_cnt ha, cnt]
    by_cases e : cmpRow x.1 q = 0
    · rw [if_pos e, if_pos e, cnt_head hb e]; omega
    · rw [if_neg e, if_neg e]; omega
theorem plus_comb {a b : List It} (n : Int) (ha : Asc a) (hb : Asc b) : plus a b n = comb (fun x y => x + n * y) a b :=
  bag_ext (plus_asc ha fun x hx => (hb.1 x hx).1) (comb_asc _ ha hb) fun r => by rw [plus_cnt ha.2 hb.2, comb_cnt (by simp) ha hb]
theorem comb_comm {f : Int → Int → Int} (f0 : f 0 0 = 0) (hf : ∀ x y, f x y = f y x) {a b : List It} (ha : Asc a) (hb : Asc b) : comb f a b = comb f b a :=
  bag_ext (comb_asc _ ha hb) (comb_asc _ hb ha) fun r => by rw [comb_cnt f0 ha hb, comb_cnt f0 hb ha, hf]
theorem nil_asc : Asc [] := ⟨by simp, .nil⟩
end Go.Proofs.YtledgnolmiecfaaGreatDoor
