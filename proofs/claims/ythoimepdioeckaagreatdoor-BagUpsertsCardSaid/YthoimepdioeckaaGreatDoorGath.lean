/-
  Plain facts: elements put together by their rows, one after the other; how often each row comes then.
-/
import Derived.Test.YthoimepdioeckaaGreatDoorBagMath
import Derived.Test.YthoimepdioeckaaGreatDoorTextInj
import Derived.Maps.OwnSet
namespace Go.Proofs.YthoimepdioeckaaGreatDoor
open Go.RowKit

section
variable {E : Type} (row : E → List Val) (tog : E → E → E)
def gstep (acc : List E) (x : E) : List E := if acc.any (fun y => decide (row y = row x)) then acc.map (fun y => if row y = row x then tog y x else y) else acc ++ [x]
def gath (xs : List E) : List E := xs.foldl (gstep row tog) []
theorem gath_next {xs : List E} {i : Nat} (h : i < xs.length) : gath row tog (xs.take (i + 1)) = gstep row tog (gath row tog (xs.take i)) xs[i] := by
  unfold gath; rw [List.take_succ_eq_append_getElem h, List.foldl_append]; rfl
variable {row tog}
theorem gstep_yes {acc : List E} {x y : E} (hy : y ∈ acc) (e : row y = row x) : gstep row tog acc x = acc.map (fun y => if row y = row x then tog y x else y) := by
  unfold gstep; rw [if_pos (List.any_eq_true.2 ⟨y, hy, by simpa using e⟩)]
theorem gstep_no {acc : List E} {x : E} (h : ∀ y ∈ acc, row y ≠ row x) : gstep row tog acc x = acc ++ [x] := by
  unfold gstep; rw [if_neg]; intro hh
  obtain ⟨y, hy, e⟩ := List.any_eq_true.1 hh
  exact h y hy (by simpa using e)
def Diff (row : E → List Val) (l : List E) : Prop := l.Pairwise fun x y => row x ≠ row y
theorem gstep_rows (ht : ∀ a b, row (tog a b) = row a) {acc : List E} {x : E} : ∀ y, y ∈ gstep row tog acc x → (row y = row x ∨ ∃ z ∈ acc, row y = row z) := by
  intro y hy
  by_cases h : ∃ z ∈ acc, row z = row x
  · obtain ⟨z, hz, e⟩ := h
    rw [gstep_yes hz e] at hy
    obtain ⟨u, hu, rfl⟩ := List.mem_map.1 hy
    by_cases e2 : row u = row x
    · rw [if_pos e2, ht]; exact .inl e2
    · rw [if_neg e2]; exact .inr ⟨u, hu, rfl⟩
  · rw [gstep_no (fun z hz e => h ⟨z, hz, e⟩)] at hy
    rcases List.mem_append.1 hy with hy | hy
    · exact .inr ⟨y, hy, rfl⟩
    · rw [List.mem_singleton] at hy; rw [hy]; exact .inl rfl
theorem gstep_diff (ht : ∀ a b, row (tog a b) = row a) {acc : List E} {x : E} (h : Diff row acc) : Diff row (gstep row tog acc x) := by
  by_cases hh : ∃ z ∈ acc, row z = row x
  · obtain ⟨z, hz, e⟩ := hh
    rw [gstep_yes hz e]
    unfold Diff at *
    rw [List.pairwise_map]
    refine h.imp fun {a b} hab => ?_
    have ha : row (if row a = row x then tog a x else a) = row a := by split <;> simp [ht]
    have hb : row (if row b = row x then tog b x else b) = row b := by split <;> simp [ht]
    rw [ha, hb]; exact hab
  · have hn : ∀ y ∈ acc, row y ≠ row x := fun z hz e => hh ⟨z, hz, e⟩
    rw [gstep_no hn]
    unfold Diff at *
    rw [List.pairwise_append]
    exact ⟨h, by simp, fun a ha b hb => by rw [List.mem_singleton] at hb; rw [hb]; exact hn a ha⟩
theorem gstep_len {acc : List E} {x : E} : (gstep row tog acc x).length ≤ acc.length + 1 := by
  unfold gstep; split <;> simp
theorem take_ind {P : List E → Prop} (xs : List E) (h0 : P []) (hs : ∀ acc x, x ∈ xs → P acc → P (gstep row tog acc x)) : P (gath row tog xs) := by
  unfold gath
  have : ∀ (l acc : List E), (∀ x ∈ l, x ∈ xs) → P acc → P (l.foldl (gstep row tog) acc) := by
    intro l
    induction l with
    | nil => intro acc _ h; exact h
    | cons x l ih => intro acc hm h; exact ih _ (fun y hy => hm y (by simp [hy])) (hs acc x (hm x (by simp)) h)
  exact this xs [] (fun _ h => h) h0
theorem gath_diff (ht : ∀ a b, row (tog a b) = row a) (xs : List E) : Diff row (gath row tog xs) := take_ind xs List.Pairwise.nil fun _ _ _ h => gstep_diff ht h
theorem gath_rows (ht : ∀ a b, row (tog a b) = row a) (xs : List E) : ∀ y ∈ gath row tog xs, ∃ x ∈ xs, row y = row x := by
  refine take_ind (P := fun acc => ∀ y ∈ acc, ∃ x ∈ xs, row y = row x) xs (by simp) fun acc x hx ih y hy => ?_
  rcases gstep_rows ht y hy with e | ⟨z, hz, e⟩
  · exact ⟨x, hx, e⟩
  · obtain ⟨u, hu, e2⟩ := ih z hz
    exact ⟨u, hu, e.trans e2⟩
theorem gath_len (xs : List E) : (gath row tog xs).length ≤ xs.length := by
  unfold gath
  have : ∀ (l acc : List E), (l.foldl (gstep row tog) acc).length ≤ acc.length + l.length := by
    intro l
    induction l with
    | nil => intro acc; simp
    | cons x l ih => intro acc; have := ih (gstep row tog acc x); have := gstep_len (row := row) (tog := tog) (acc := acc) (x := x); simp only [List.foldl_cons, List.length_cons]; omega
  simpa using this xs []

/-- What all that have one row come to. -/
def total (row : E → List Val) (num : E → Int) (xs : List E) (r : List Val) : Int := (xs.map fun x => if row x = r then num x else 0).sum
theorem total_app (num : E → Int) (xs ys : List E) (r : List Val) : total row num (xs ++ ys) r = total row num xs r + total row num ys r := by
  unfold total; rw [List.map_append, List.sum_append]
theorem total_none {num : E → Int} {l : List E} {r : List Val} (h : ∀ y ∈ l, row y ≠ r) : total row num l r = 0 := by
  unfold total
  induction l with
  | nil => rfl
  | cons x l ih => rw [List.map_cons, List.sum_cons, if_neg (h x (by simp)), ih fun y hy => h y (by simp [hy])]; rfl
theorem total_one {num : E → Int} {l : List E} {y : E} (hd : Diff row l) (hy : y ∈ l) : total row num l (row y) = num y := by
  induction l with
  | nil => cases hy
  | cons x l ih =>
    have hd' := List.pairwise_cons.1 hd
    unfold total at *
    rw [List.map_cons, List.sum_cons]
    rcases List.mem_cons.1 hy with rfl | hy
    · have := total_none (row := row) (num := num) (l := l) (r := row y) (fun z hz e => hd'.1 z hz e.symm)
      unfold total at this
      rw [if_pos rfl, this]; omega
    · rw [if_neg (hd'.1 y hy), ih hd'.2 hy]; omega
theorem gstep_total (ht : ∀ a b, row (tog a b) = row a) {num : E → Int} (hn : ∀ a b, num (tog a b) = num a + num b) {acc : List E} {x : E} (hd : Diff row acc) (r : List Val) :
    total row num (gstep row tog acc x) r = total row num acc r + if row x = r then num x else 0 := by
  by_cases hh : ∃ z ∈ acc, row z = row x
  · obtain ⟨z, hz, e⟩ := hh
    rw [gstep_yes hz e]
    induction acc with
    | nil => cases hz
    | cons y l ih =>
      have hd' := List.pairwise_cons.1 hd
      have hc : ∀ (u : E) (m : List E), total row num (u :: m) r = (if row u = r then num u else 0) + total row num m r := fun u m => by unfold total; rw [List.map_cons, List.sum_cons]
      rw [List.map_cons, hc, hc]
      rcases List.mem_cons.1 hz with rfl | hz
      · have hl : l.map (fun y => if row y = row x then tog y x else y) = l := by
          rw [List.map_congr_left (g := id) (fun u hu => by rw [if_neg (fun e2 => hd'.1 u hu (e.trans e2.symm))]; rfl), List.map_id]
        rw [hl, if_pos e, ht, hn, e]
        by_cases er : row x = r
        · rw [if_pos er, if_pos er, if_pos er]; omega
        · rw [if_neg er, if_neg er, if_neg er]; omega
      · have := ih hd'.2 hz
        have hyx : ¬ row y = row x := fun e2 => hd'.1 z hz (e2.trans e.symm)
        rw [if_neg hyx, this, Int.add_assoc]
  · rw [gstep_no (fun z hz e => hh ⟨z, hz, e⟩), total_app]
    unfold total
    simp
theorem gath_total (ht : ∀ a b, row (tog a b) = row a) {num : E → Int} (hn : ∀ a b, num (tog a b) = num a + num b) (xs : List E) (r : List Val) : total row num (gath row tog xs) r = total row num xs r := by
  unfold gath
  have : ∀ (l acc : List E), Diff row acc → total row num (l.foldl (gstep row tog) acc) r = total row num acc r + total row num l r := by
    intro l
    induction l with
    | nil => intro acc _; simp [total]
    | cons x l ih =>
      intro acc hd
      rw [List.foldl_cons, ih _ (gstep_diff ht hd), gstep_total ht hn hd]
      unfold total
      rw [List.map_cons, List.sum_cons]; omega
  rw [this xs [] List.Pairwise.nil]; simp [total]

/-! ### As a map -/
variable (row) in
/-- The map that the elements so far are: at each row's text the element. -/
structure GatOf (enc : E → Value) (acc : List E) (D : DataW Value) : Prop where
  has : ∀ s, Maps.has D (.string s) = true ↔ ∃ y ∈ acc, textOf (row y) = s
  at_ : ∀ y ∈ acc, ∀ z, D.atKey (.string (textOf (row y))) z = .held (enc y)
  diff : Diff row acc
  valid : ∀ y ∈ acc, validRow (row y) = true
  size : Maps.size D = acc.length
theorem GatOf.zero (enc : E → Value) : GatOf row enc [] (.map []) where
  has s := ⟨fun h => by simp [Maps.has] at h, fun ⟨_, h, _⟩ => by cases h⟩
  at_ _ h := by cases h
  diff := .nil
  valid _ h := by cases h
  size := rfl
theorem GatOf.new {enc : E → Value} {acc : List E} {D : DataW Value} (h : GatOf row enc acc D) (ht : Maps.Tidy D) (hm : Maps.IsMap D) {x : E} (hx : validRow (row x) = true) (hn : Maps.has D (.string (textOf (row x))) = false) :
    GatOf row enc (gstep row tog acc x) (D.put (.string (textOf (row x))) (.held (enc x))) := by
  have hne : ∀ y ∈ acc, row y ≠ row x := fun y hy e => by
    have := (h.has (textOf (row x))).2 ⟨y, hy, by rw [e]⟩
    rw [hn] at this; cases this
  have hne2 : ∀ y ∈ acc, textOf (row y) ≠ textOf (row x) := fun y hy e => hne y hy (text_inj (h.valid y hy) hx e)
  rw [gstep_no hne]
  have lne : ∀ {s t : List UInt8}, s ≠ t → Lit.string s ≠ Lit.string t := fun h e => h (by simpa using e)
  refine ⟨fun s => ?_, fun y hy z => ?_, ?_, fun y hy => ?_, ?_⟩
  · by_cases e : s = textOf (row x)
    · subst e
      exact ⟨fun _ => ⟨x, by simp, rfl⟩, fun _ => Maps.has_put_same hm (show WideAt.IsKeyLit (Lit.string _) from trivial) _⟩
    · rw [Maps.has_put_other (lne e), h.has s]
      constructor
      · rintro ⟨y, hy, e2⟩; exact ⟨y, by simp [hy], e2⟩
      · rintro ⟨y, hy, e2⟩
        rcases List.mem_append.1 hy with hy | hy
        · exact ⟨y, hy, e2⟩
        · rw [List.mem_singleton] at hy; subst hy; exact absurd e2.symm e
  · rcases List.mem_append.1 hy with hy | hy
    · rw [Maps.atKey_put_other (lne (hne2 y hy))]; exact h.at_ y hy z
    · rw [List.mem_singleton] at hy; subst hy
      exact Maps.atKey_put_same hm (show WideAt.IsKeyLit (Lit.string _) from trivial) _ _
  · have := h.diff
    unfold Diff at *
    rw [List.pairwise_append]
    exact ⟨this, by simp, fun a ha b hb => by rw [List.mem_singleton] at hb; rw [hb]; exact hne a ha⟩
  · rcases List.mem_append.1 hy with hy | hy
    · exact h.valid y hy
    · rw [List.mem_singleton] at hy; subst hy; exact hx
  · rw [Maps.size_put ht, hn, h.size]; simp
theorem GatOf.old (hto : ∀ a b, row (tog a b) = row a) {enc : E → Value} {acc : List E} {D : DataW Value} (h : GatOf row enc acc D) (ht : Maps.Tidy D) (hm : Maps.IsMap D) {x y : E} (hy : y ∈ acc) (e : row y = row x) :
    GatOf row enc (gstep row tog acc x) (D.put (.string (textOf (row x))) (.held (enc (tog y x)))) := by
  have lne : ∀ {s t : List UInt8}, s ≠ t → Lit.string s ≠ Lit.string t := fun h e => h (by simpa using e)
  have hh : Maps.has D (.string (textOf (row x))) = true := (h.has _).2 ⟨y, hy, by rw [e]⟩
  have hd := gstep_diff (tog := tog) hto (x := x) h.diff
  have uniq : ∀ u ∈ acc, row u = row x → u = y := fun u hu eu => by
    have hp := h.diff
    unfold Diff at hp
    have := List.pairwise_iff_getElem.1 hp
    obtain ⟨i, hi, rfl⟩ := List.getElem_of_mem hu
    obtain ⟨j, hj, rfl⟩ := List.getElem_of_mem hy
    rcases Nat.lt_trichotomy i j with hl | hl | hl
    · exact absurd (eu.trans e.symm) (this i j hi hj hl)
    · subst hl; rfl
    · exact absurd (e.trans eu.symm) (this j i hj hi hl)
  have hval : ∀ z ∈ gstep row tog acc x, validRow (row z) = true := fun z hz => by
    rcases gstep_rows hto z hz with e2 | ⟨u, hu, e2⟩
    · rw [e2, ← e]; exact h.valid y hy
    · rw [e2]; exact h.valid u hu
  have hx : validRow (row x) = true := by rw [← e]; exact h.valid y hy
  refine ⟨fun s => ?_, fun z hz w => ?_, hd, hval, ?_⟩
  · rw [gstep_yes hy e]
    by_cases es : s = textOf (row x)
    · subst es
      refine ⟨fun _ => ⟨tog y x, List.mem_map.2 ⟨y, hy, by rw [if_pos e]⟩, by rw [hto, e]⟩, fun _ => Maps.has_put_same hm (show WideAt.IsKeyLit (Lit.string _) from trivial) _⟩
    · rw [Maps.has_put_other (lne es), h.has s]
      constructor
      · rintro ⟨u, hu, e2⟩
        have : row u ≠ row x := fun e3 => es (by rw [← e2, e3])
        exact ⟨u, List.mem_map.2 ⟨u, hu, by rw [if_neg this]⟩, e2⟩
      · rintro ⟨u, hu, e2⟩
        obtain ⟨v, hv, rfl⟩ := List.mem_map.1 hu
        by_cases e3 : row v = row x
        · rw [if_pos e3, hto, e3] at e2; exact absurd e2.symm es
        · rw [if_neg e3] at e2; exact ⟨v, hv, e2⟩
  · rw [gstep_yes hy e] at hz
    obtain ⟨v, hv, rfl⟩ := List.mem_map.1 hz
    by_cases e3 : row v = row x
    · have := uniq v hv e3
      subst this
      rw [if_pos e3, hto, e3]
      exact Maps.atKey_put_same hm (show WideAt.IsKeyLit (Lit.string _) from trivial) _ _
    · rw [if_neg e3]
      have : textOf (row v) ≠ textOf (row x) := fun e4 => e3 (text_inj (h.valid v hv) hx e4)
      rw [Maps.atKey_put_other (lne this)]
      exact h.at_ v hv w
  · rw [Maps.size_put ht, hh, h.size, gstep_yes hy e]; simp
end
end Go.Proofs.YthoimepdioeckaaGreatDoor
