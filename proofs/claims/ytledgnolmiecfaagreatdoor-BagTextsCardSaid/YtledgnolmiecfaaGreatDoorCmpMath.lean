/-
  Plain facts: the order of values and of rows, value by value.
-/
import Derived.Test.YtledgnolmiecfaaGreatDoorVal
import Derived.Lib.Bytealg
import Derived.Lib.Small
namespace Go.Proofs.YtledgnolmiecfaaGreatDoor
set_option linter.unusedSimpArgs false

/-- -1, 0 or 1; turned round it is its opposite; and it is transitive, strictly where one step is strict. -/
structure CmpOK {α : Type} (f : α → α → Int) : Prop where
  range : ∀ x y, f x y = -1 ∨ f x y = 0 ∨ f x y = 1
  anti : ∀ x y, f y x = - f x y
  trans : ∀ x y z, f x y ≤ 0 → f y z ≤ 0 → f x z ≤ 0 ∧ (f x z = 0 → f x y = 0 ∧ f y z = 0)
theorem CmpOK.refl {α : Type} {f : α → α → Int} (h : CmpOK f) (x : α) : f x x = 0 := by
  have := h.anti x x; omega
theorem CmpOK.left {α : Type} {f : α → α → Int} (h : CmpOK f) {x y : α} (e : f x y = 0) (z : α) : f x z = f y z := by
  have r1 := h.range x z
  have r2 := h.range y z
  have a1 := h.anti x y
  have a2 := h.anti x z
  have a3 := h.anti y z
  have t1 := h.trans x y z
  have t2 := h.trans z y x
  have t3 := h.trans y x z
  have t4 := h.trans z x y
  omega
theorem CmpOK.right {α : Type} {f : α → α → Int} (h : CmpOK f) {y z : α} (e : f y z = 0) (x : α) : f x y = f x z := by
  have a1 := h.anti x y
  have a2 := h.anti x z
  have := h.left e x
  omega

/-- Element by element, a beginning before the longer one. -/
def lexL {α : Type} (f : α → α → Int) : List α → List α → Int
  | [], [] => 0
  | [], _ :: _ => -1
  | _ :: _, [] => 1
  | x :: xs, y :: ys => if f x y = 0 then lexL f xs ys else f x y
theorem lexL_range {α : Type} {f : α → α → Int} (h : CmpOK f) : ∀ xs ys, lexL f xs ys = -1 ∨ lexL f xs ys = 0 ∨ lexL f xs ys = 1
  | [], [] => by simp [lexL]
  | [], _ :: _ => by simp [lexL]
  | _ :: _, [] => by simp [lexL]
  | x :: xs, y :: ys => by
    have h1 := h.range x y
    have h2 := lexL_range h xs ys
    simp only [lexL]
    split <;> assumption
theorem lexL_anti {α : Type} {f : α → α → Int} (h : CmpOK f) : ∀ xs ys, lexL f ys xs = - lexL f xs ys
  | [], [] => by simp [lexL]
  | [], _ :: _ => by simp [lexL]
  | _ :: _, [] => by simp [lexL]
  | x :: xs, y :: ys => by
    have h1 := h.anti x y
    have h2 := lexL_anti h xs ys
    simp only [lexL]
    by_cases e : f x y = 0
    · rw [if_pos e, if_pos (by omega), h2]
    · rw [if_neg e, if_neg (by omega), h1]
theorem lexL_trans {α : Type} {f : α → α → Int} (h : CmpOK f) : ∀ xs ys zs, lexL f xs ys ≤ 0 → lexL f ys zs ≤ 0 → lexL f xs zs ≤ 0 ∧ (lexL f xs zs = 0 → lexL f xs ys = 0 ∧ lexL f ys zs = 0)
  | [], [], [] => by simp [lexL]
  | [], [], _ :: _ => by simp [lexL]
  | [], _ :: _, [] => by simp [lexL]
  | [], _ :: _, _ :: _ => by simp [lexL]
  | _ :: _, [], [] => by simp [lexL]
  | _ :: _, [], _ :: _ => by simp [lexL]
  | _ :: _, _ :: _, [] => by simp [lexL]
  | x :: xs, y :: ys, z :: zs => by
    have ht := h.trans x y z
    have hl := fun e => h.left (x := x) (y := y) e z
    have hr := fun e => h.right (y := y) (z := z) e x
    have ih := lexL_trans h xs ys zs
    simp only [lexL]
    by_cases e1 : f x y = 0
    · rw [if_pos e1]
      have e := hl e1
      by_cases e2 : f y z = 0
      · rw [if_pos e2, if_pos (by omega)]
        exact ih
      · rw [if_neg e2, if_neg (by omega)]
        intro h1 h2
        exact ⟨by omega, fun h3 => by omega⟩
    · rw [if_neg e1]
      by_cases e2 : f y z = 0
      · have e := hr e2
        rw [if_pos e2, if_neg (by omega)]
        intro h1 h2
        exact ⟨by omega, fun h3 => by omega⟩
      · rw [if_neg e2]
        intro h1 h2
        obtain ⟨t1, t2⟩ := ht h1 h2
        by_cases e3 : f x z = 0
        · exact absurd (t2 e3).1 e1
        · rw [if_neg e3]
          exact ⟨t1, fun h3 => absurd h3 e3⟩
theorem lexL_ok {α : Type} {f : α → α → Int} (h : CmpOK f) : CmpOK (lexL f) := ⟨lexL_range h, lexL_anti h, lexL_trans h⟩

theorem cmpInt_ok : CmpOK Lib.compareInt where
  range x y := by unfold Lib.compareInt; split <;> (try split) <;> simp
  anti x y := by
    unfold Lib.compareInt
    split <;> split <;> (try split) <;> (try split) <;> omega
  trans x y z := by
    unfold Lib.compareInt
    by_cases h1 : x < y <;> by_cases h2 : x > y <;> by_cases h3 : y < z <;> by_cases h4 : y > z <;> by_cases h5 : x < z <;> by_cases h6 : x > z <;> simp [h1, h2, h3, h4, h5, h6] <;> omega
def cmp8 (a b : UInt8) : Int := Lib.compareInt a.toNat b.toNat
theorem cmp8_ok : CmpOK cmp8 := ⟨fun _ _ => cmpInt_ok.range _ _, fun _ _ => cmpInt_ok.anti _ _, fun _ _ _ => cmpInt_ok.trans _ _ _⟩
theorem bytes_lex : ∀ a b, Lib.compareBytes a b = lexL cmp8 a b
  | [], [] => rfl
  | [], _ :: _ => rfl
  | _ :: _, [] => rfl
  | a :: l, b :: m => by
    have ih := bytes_lex l m
    have hl : (a < b) ↔ ((a.toNat : Int) < (b.toNat : Int)) := by rw [UInt8.lt_iff_toNat_lt]; omega
    have hg : (b < a) ↔ ((a.toNat : Int) > (b.toNat : Int)) := by rw [UInt8.lt_iff_toNat_lt]; omega
    simp only [Lib.compareBytes, lexL, cmp8, Lib.compareInt, hl, hg, ih]
    by_cases h1 : (a.toNat : Int) < (b.toNat : Int)
    · simp [h1]
    · by_cases h2 : (a.toNat : Int) > (b.toNat : Int)
      · simp [h1, h2]
      · simp [h1, h2]
theorem bytes_ok : CmpOK Lib.compareBytes := by
  have e : Lib.compareBytes = lexL cmp8 := by funext a b; exact bytes_lex a b
  rw [e]; exact lexL_ok cmp8_ok

def cls (k : Int) : Int := if k = 1 ∨ k = 2 then k else 0
theorem cls_cases (k : Int) : cls k = 0 ∨ cls k = 1 ∨ cls k = 2 := by unfold cls; split <;> omega
def cmpVal (x y : Val) : Int :=
  if cls x.1 = cls y.1 then (if cls x.1 = 1 then Lib.compareInt x.2.1 y.2.1 else if cls x.1 = 2 then Lib.compareBytes x.2.2.data.toList y.2.2.data.toList else 0) else Lib.compareInt (cls x.1) (cls y.1)
theorem cmpVal_ok : CmpOK cmpVal where
  range x y := by
    unfold cmpVal
    split
    · split
      · exact cmpInt_ok.range _ _
      · split
        · exact bytes_ok.range _ _
        · simp
    · exact cmpInt_ok.range _ _
  anti x y := by
    unfold cmpVal
    by_cases h : cls x.1 = cls y.1
    · rw [if_pos h, if_pos h.symm, ← h]
      by_cases h1 : cls x.1 = 1
      · rw [if_pos h1, if_pos h1]; exact cmpInt_ok.anti _ _
      · rw [if_neg h1, if_neg h1]
        by_cases h2 : cls x.1 = 2
        · rw [if_pos h2, if_pos h2]; exact bytes_ok.anti _ _
        · rw [if_neg h2, if_neg h2]; rfl
    · rw [if_neg h, if_neg (fun e => h e.symm)]; exact cmpInt_ok.anti _ _
  trans x y z := by
    have ti := cmpInt_ok.trans (cls x.1) (cls y.1) (cls z.1)
    have z0 : ∀ a b : Int, Lib.compareInt a b = 0 ↔ a = b := fun a b => by unfold Lib.compareInt; split <;> (try split) <;> simp <;> omega
    unfold cmpVal
    by_cases h1 : cls x.1 = cls y.1
    · by_cases h2 : cls y.1 = cls z.1
      · rw [if_pos h1, if_pos h2, if_pos (h1.trans h2), ← h1]
        by_cases c1 : cls x.1 = 1
        · simp only [if_pos c1]; exact cmpInt_ok.trans _ _ _
        · simp only [if_neg c1]
          by_cases c2 : cls x.1 = 2
          · simp only [if_pos c2]; exact bytes_ok.trans _ _ _
          · simp [c2]
      · have h3 : ¬ cls x.1 = cls z.1 := fun e => h2 (h1.symm.trans e)
        rw [if_pos h1, if_neg h2, if_neg h3, h1]
        intro _ hb
        exact ⟨hb, fun e => absurd ((z0 _ _).1 e) h2⟩
    · by_cases h2 : cls y.1 = cls z.1
      · have h3 : ¬ cls x.1 = cls z.1 := fun e => h1 (e.trans h2.symm)
        rw [if_neg h1, if_pos h2, if_neg h3, ← h2]
        intro ha _
        exact ⟨ha, fun e => absurd ((z0 _ _).1 e) h1⟩
      · rw [if_neg h1, if_neg h2]
        intro ha hb
        obtain ⟨t1, t2⟩ := ti ha hb
        by_cases h3 : cls x.1 = cls z.1
        · exact absurd ((z0 _ _).1 (t2 ((z0 _ _).2 h3)).1) h1
        · rw [if_neg h3]
          exact ⟨t1, fun e => absurd ((z0 _ _).1 e) h3⟩
def cmpRow (xs ys : List Val) : Int := lexL cmpVal xs ys
theorem cmpRow_ok : CmpOK cmpRow := lexL_ok cmpVal_ok
/-- Where the first values are equal, the rest decides. -/
theorem cmpRow_drop {xs ys : List Val} {i : Nat} (hx : i < xs.length) (hy : i < ys.length) : cmpRow (xs.drop i) (ys.drop i) = if cmpVal xs[i] ys[i] = 0 then cmpRow (xs.drop (i + 1)) (ys.drop (i + 1)) else cmpVal xs[i] ys[i] := by
  rw [List.drop_eq_getElem_cons hx, List.drop_eq_getElem_cons hy]
  rfl
theorem cmpRow_end {xs ys : List Val} {i : Nat} (h : xs.length ≤ i ∨ ys.length ≤ i) (hx : i ≤ xs.length) (hy : i ≤ ys.length) : cmpRow (xs.drop i) (ys.drop i) = if xs.length < ys.length then -1 else if ys.length < xs.length then 1 else 0 := by
  unfold cmpRow
  rcases h with h | h
  · rw [List.drop_of_length_le h]
    by_cases e : ys.length ≤ i
    · rw [List.drop_of_length_le e, if_neg (by omega), if_neg (by omega)]; rfl
    · rw [List.drop_eq_getElem_cons (by omega), if_pos (by omega)]; rfl
  · rw [List.drop_of_length_le h]
    by_cases e : xs.length ≤ i
    · rw [List.drop_of_length_le e, if_neg (by omega), if_neg (by omega)]; rfl
    · rw [List.drop_eq_getElem_cons (by omega), if_neg (by omega), if_pos (by omega)]; rfl
end Go.Proofs.YtledgnolmiecfaaGreatDoor
