/-
  Several texts in one.
-/
import Derived.Test.YtfoknllnknjccaaGreatProg
import Derived.WalkKit
import Derived.ProofKit
import Derived.Lib.Hide
import Derived.KernelRfl
import Derived.Deep.QuietTactic
import Derived.BigQuiet
import Derived.Deep.RegionHeld3
import Derived.Laws.StructEq
import Derived.OneCell
import Derived.Outline
import Derived.Lib.Bytealg
import Derived.Lib.Small
import Derived.LoopTactic
import Derived.StillTailTactics
import Derived.Below
import Derived.WideShapes
import Derived.Laws.AppendOwn
import Derived.OwnWalk
import Derived.Lib.Walk
import Derived.Laws.AppendOwnNone
import Derived.Laws.OwnMore
/-!
  Values of three cells; which are valid, in both packages, as contracts.
-/
namespace Go.Proofs.YtfoknllnknjccaaGreat
open Go.RowKit

abbrev Val := Int × Int × ByteArray
def cellsV (x : Val) : List Value := [.int .i64 x.1, .int .i64 x.2.1, .string x.2.2]
def validP (k n : Int) (s : ByteArray) : Prop := (k = 0 ∧ n = 0 ∧ s.toList.isEmpty = true) ∨ (k = 1 ∧ s.toList.isEmpty = true ∧ -1000000000000000 ≤ n ∧ n ≤ 1000000000000000) ∨ (k = 2 ∧ n = 0 ∧ (s.size : Int) ≤ 200)
instance (k n : Int) (s : ByteArray) : Decidable (validP k n s) := by unfold validP; infer_instance
def validV (k n : Int) (s : ByteArray) : Bool := decide (validP k n s)
theorem retB {a b : Bool} (h : a = b) : Ending.returned (.bool a) = .returned (.bool b) := by rw [h]

theorem within_any (n lo hi : Int) (w : World) :
    Calls Tryz.prog 91 #[.int .i64 n, .int .i64 lo, .int .i64 hi] w fun e w' => e = .returned (.bool (decide (lo ≤ n ∧ n ≤ hi))) ∧ w = w' := by
  by_cases h : lo ≤ n
  · have e : decide (lo ≤ n ∧ n ≤ hi) = decide (n ≤ hi) := by simp [h]
    rw [e]
    clear e
    go_enter Tryz.func91, Tryz.ntmps91
    go_wp2
    go_ret
    exact ⟨rfl, rfl⟩
  · have e : decide (lo ≤ n ∧ n ≤ hi) = false := by rw [decide_eq_false]; omega
    have h' : n < lo := by omega
    rw [e]
    clear e
    go_enter Tryz.func91, Tryz.ntmps91
    go_wp2
    go_ret
    exact ⟨rfl, rfl⟩

theorem refValidValue_any (k n : Int) (s : ByteArray) (w : World) :
    Calls Tryz.prog 67 #[.agg #[.int .i64 k, .int .i64 n, .string s]] w fun e w' => e = .returned (.bool (validV k n s)) ∧ w' = w.alloc (.cells #[.int .i64 k, .int .i64 n, .string s] 55) := by
  have hv : ∀ b, validV k n s = b → (Calls Tryz.prog 67 #[.agg #[.int .i64 k, .int .i64 n, .string s]] w fun e w' => e = .returned (.bool b) ∧ w' = w.alloc (.cells #[.int .i64 k, .int .i64 n, .string s] 55)) := by
    intro b hb
    unfold validV validP at hb
    by_cases h0 : k = 0
    · subst h0
      have HB := Lib.hid hb
      clear hb
      go_enter Tryz.func67, Tryz.ntmps67
      go_wp2
      all_goals
        have hb := HB.out
        go_ret
        exact ⟨by simp_all <;> first | (rw [← hb]; cases s.toList <;> rfl) | (rw [← hb, decide_eq_false (by omega)]; rfl), rfl⟩
    · by_cases h1 : k = 1
      · subst h1
        have HB := Lib.hid hb
        clear hb
        go_enter Tryz.func67, Tryz.ntmps67
        go_wp2_with (go_at_call 91; refine (within_any _ _ _ _).mono ?_; rintro e w' ⟨rfl, rfl⟩)
        all_goals
          have hb := HB.out
          go_ret
          exact ⟨by simp_all <;> first | (rw [← hb]; cases s.toList <;> rfl) | (rw [← hb, decide_eq_false (by omega)]; rfl), rfl⟩
      · by_cases h2 : k = 2
        · subst h2
          have HB := Lib.hid hb
          clear hb
          go_enter Tryz.func67, Tryz.ntmps67
          go_wp2
          all_goals
            have hb := HB.out
            go_ret
            exact ⟨by simp_all <;> first | (rw [← hb]; cases s.toList <;> rfl) | (rw [← hb, decide_eq_false (by omega)]; rfl), rfl⟩
        · have g0 : (k == 0) = false := by simpa using h0
          have g1 : (k == 1) = false := by simpa using h1
          have g2 : (k == 2) = false := by simpa using h2
          have hb' : b = false := by rw [← hb]; simp [h0, h1, h2]
          subst hb'
          clear hb h0 h1 h2
          go_enter Tryz.func67, Tryz.ntmps67
          go_wp2
          go_ret
          exact ⟨rfl, rfl⟩
  exact hv _ rfl

theorem rowValidValue_any (k n : Int) (s : ByteArray) (w : World) :
    Calls Tryz.prog 82 #[.agg #[.int .i64 k, .int .i64 n, .string s]] w fun e w' => e = .returned (.bool (validV k n s)) ∧ w' = w.alloc (.cells #[.int .i64 k, .int .i64 n, .string s] 55) := by
  have hv : ∀ b, validV k n s = b → (Calls Tryz.prog 82 #[.agg #[.int .i64 k, .int .i64 n, .string s]] w fun e w' => e = .returned (.bool b) ∧ w' = w.alloc (.cells #[.int .i64 k, .int .i64 n, .string s] 55)) := by
    intro b hb
    unfold validV validP at hb
    by_cases h0 : k = 0
    · subst h0
      have HB := Lib.hid hb
      clear hb
      go_enter Tryz.func82, Tryz.ntmps82
      go_wp2
      all_goals
        have hb := HB.out
        go_ret
        exact ⟨by simp_all <;> first | (rw [← hb]; cases s.toList <;> rfl) | (rw [← hb, decide_eq_false (by omega)]; rfl), rfl⟩
    · by_cases h1 : k = 1
      · subst h1
        have HB := Lib.hid hb
        clear hb
        go_enter Tryz.func82, Tryz.ntmps82
        go_wp2
        all_goals
          have hb := HB.out
          go_ret
          exact ⟨by simp_all <;> first | (rw [← hb]; cases s.toList <;> rfl) | (rw [← hb, decide_eq_false (by omega)]; rfl), rfl⟩
      · by_cases h2 : k = 2
        · subst h2
          have HB := Lib.hid hb
          clear hb
          go_enter Tryz.func82, Tryz.ntmps82
          go_wp2
          all_goals
            have hb := HB.out
            go_ret
            exact ⟨by simp_all <;> first | (rw [← hb]; cases s.toList <;> rfl) | (rw [← hb, decide_eq_false (by omega)]; rfl), rfl⟩
        · have g0 : (k == 0) = false := by simpa using h0
          have g1 : (k == 1) = false := by simpa using h1
          have g2 : (k == 2) = false := by simpa using h2
          have hb' : b = false := by rw [← hb]; simp [h0, h1, h2]
          subst hb'
          clear hb h0 h1 h2
          go_enter Tryz.func82, Tryz.ntmps82
          go_wp2
          go_ret
          exact ⟨rfl, rfl⟩
  exact hv _ rfl
end Go.Proofs.YtfoknllnknjccaaGreat

/-!
  Plain facts: the order of values and of rows, value by value.
-/
namespace Go.Proofs.YtfoknllnknjccaaGreat

/-- -1, 0 or 1; turned round it is its opposite; and it is transitive, strictly where one step is strict. -/
structure CmpOK {α : Type} (f : α → α → Int) : Prop where
  range : ∀ x y, f x y = -1 ∨ f x y = 0 ∨ f x y = 1
  anti : ∀ x y, f y x = - f x y
  trans : ∀ x y z, f x y ≤ 0 → f y z ≤ 0 → f x z ≤ 0 ∧ (f x z = 0 → f x y = 0 ∧ f y z = 0)
theorem CmpOK.refl {α : Type} {f : α → α → Int} (h : CmpOK f) (x : α) : f x x = 0 := by
  have := h.anti x x; omega
theorem CmpOK.left {α : Type} {f : α → α → Int} (h : CmpOK f) {x y : α} (e : f x y = 0) (z : α) : f x z = f y z := by
  have r1 := h.range x z
  have r2 := h.range y z
  have a1 := h.anti x y
  have a2 := h.anti x z
  have a3 := h.anti y z
  have t1 := h.trans x y z
  have t2 := h.trans z y x
  have t3 := h.trans y x z
  have t4 := h.trans z x y
  omega
theorem CmpOK.right {α : Type} {f : α → α → Int} (h : CmpOK f) {y z : α} (e : f y z = 0) (x : α) : f x y = f x z := by
  have a1 := h.anti x y
  have a2 := h.anti x z
  have := h.left e x
  omega

/-- Element by element, a beginning before the longer one. -/
def lexL {α : Type} (f : α → α → Int) : List α → List α → Int
  | [], [] => 0
  | [], _ :: _ => -1
  | _ :: _, [] => 1
  | x :: xs, y :: ys => if f x y = 0 then lexL f xs ys else f x y
theorem lexL_range {α : Type} {f : α → α → Int} (h : CmpOK f) : ∀ xs ys, lexL f xs ys = -1 ∨ lexL f xs ys = 0 ∨ lexL f xs ys = 1
  | [], [] => by simp [lexL]
  | [], _ :: _ => by simp [lexL]
  | _ :: _, [] => by simp [lexL]
  | x :: xs, y :: ys => by
    have h1 := h.range x y
    have h2 := lexL_range h xs ys
    simp only [lexL]
    split <;> assumption
theorem lexL_anti {α : Type} {f : α → α → Int} (h : CmpOK f) : ∀ xs ys, lexL f ys xs = - lexL f xs ys
  | [], [] => by simp [lexL]
  | [], _ :: _ => by simp [lexL]
  | _ :: _, [] => by simp [lexL]
  | x :: xs, y :: ys => by
    have h1 := h.anti x y
    have h2 := lexL_anti h xs ys
    simp only [lexL]
    by_cases e : f x y = 0
    · rw [if_pos e, if_pos (by omega), h2]
    · rw [if_neg e, if_neg (by omega), h1]
theorem lexL_trans {α : Type} {f : α → α → Int} (h : CmpOK f) : ∀ xs ys zs, lexL f xs ys ≤ 0 → lexL f ys zs ≤ 0 → lexL f xs zs ≤ 0 ∧ (lexL f xs zs = 0 → lexL f xs ys = 0 ∧ lexL f ys zs = 0)
  | [], [], [] => by simp [lexL]
  | [], [], _ :: _ => by simp [lexL]
  | [], _ :: _, [] => by simp [lexL]
  | [], _ :: _, _ :: _ => by simp [lexL]
  | _ :: _, [], [] => by simp [lexL]
  | _ :: _, [], _ :: _ => by simp [lexL]
  | _ :: _, _ :: _, [] => by simp [lexL]
  | x :: xs, y :: ys, z :: zs => by
    have ht := h.trans x y z
    have hl := fun e => h.left (x := x) (y := y) e z
    have hr := fun e => h.right (y := y) (z := z) e x
    have ih := lexL_trans h xs ys zs
    simp only [lexL]
    by_cases e1 : f x y = 0
    · rw [if_pos e1]
      have e := hl e1
      by_cases e2 : f y z = 0
      · rw [if_pos e2, if_pos (by omega)]
        exact ih
      · rw [if_neg e2, if_neg (by omega)]
        intro h1 h2
        exact ⟨by omega, fun h3 => by omega⟩
    · rw [if_neg e1]
      by_cases e2 : f y z = 0
      · have e := hr e2
        rw [if_pos e2, if_neg (by omega)]
        intro h1 h2
        exact ⟨by omega, fun h3 => by omega⟩
      · rw [if_neg e2]
        intro h1 h2
        obtain ⟨t1, t2⟩ := ht h1 h2
        by_cases e3 : f x z = 0
        · exact absurd (t2 e3).1 e1
        · rw [if_neg e3]
          exact ⟨t1, fun h3 => absurd h3 e3⟩
theorem lexL_ok {α : Type} {f : α → α → Int} (h : CmpOK f) : CmpOK (lexL f) := ⟨lexL_range h, lexL_anti h, lexL_trans h⟩

theorem cmpInt_ok : CmpOK Lib.compareInt where
  range x y := by unfold Lib.compareInt; split <;> (try split) <;> simp
  anti x y := by
    unfold Lib.compareInt
    split <;> split <;> (try split) <;> (try split) <;> omega
  trans x y z := by
    unfold Lib.compareInt
    by_cases h1 : x < y <;> by_cases h2 : x > y <;> by_cases h3 : y < z <;> by_cases h4 : y > z <;> by_cases h5 : x < z <;> by_cases h6 : x > z <;> simp [h1, h2, h3, h4, h5, h6] <;> omega
def cmp8 (a b : UInt8) : Int := Lib.compareInt a.toNat b.toNat
theorem cmp8_ok : CmpOK cmp8 := ⟨fun _ _ => cmpInt_ok.range _ _, fun _ _ => cmpInt_ok.anti _ _, fun _ _ _ => cmpInt_ok.trans _ _ _⟩
theorem bytes_lex : ∀ a b, Lib.compareBytes a b = lexL cmp8 a b
  | [], [] => rfl
  | [], _ :: _ => rfl
  | _ :: _, [] => rfl
  | a :: l, b :: m => by
    have ih := bytes_lex l m
    have hl : (a < b) ↔ ((a.toNat : Int) < (b.toNat : Int)) := by rw [UInt8.lt_iff_toNat_lt]; omega
    have hg : (b < a) ↔ ((a.toNat : Int) > (b.toNat : Int)) := by rw [UInt8.lt_iff_toNat_lt]; omega
    simp only [Lib.compareBytes, lexL, cmp8, Lib.compareInt, hl, hg, ih]
    by_cases h1 : (a.toNat : Int) < (b.toNat : Int)
    · simp [h1]
    · by_cases h2 : (a.toNat : Int) > (b.toNat : Int)
      · simp [h1, h2]
      · simp [h1, h2]
theorem bytes_ok : CmpOK Lib.compareBytes := by
  have e : Lib.compareBytes = lexL cmp8 := by funext a b; exact bytes_lex a b
  rw [e]; exact lexL_ok cmp8_ok

def cls (k : Int) : Int := if k = 1 ∨ k = 2 then k else 0
theorem cls_cases (k : Int) : cls k = 0 ∨ cls k = 1 ∨ cls k = 2 := by unfold cls; split <;> omega
def cmpVal (x y : Val) : Int :=
  if cls x.1 = cls y.1 then (if cls x.1 = 1 then Lib.compareInt x.2.1 y.2.1 else if cls x.1 = 2 then Lib.compareBytes x.2.2.data.toList y.2.2.data.toList else 0) else Lib.compareInt (cls x.1) (cls y.1)
theorem cmpVal_ok : CmpOK cmpVal where
  range x y := by
    unfold cmpVal
    split
    · split
      · exact cmpInt_ok.range _ _
      · split
        · exact bytes_ok.range _ _
        · simp
    · exact cmpInt_ok.range _ _
  anti x y := by
    unfold cmpVal
    by_cases h : cls x.1 = cls y.1
    · rw [if_pos h, if_pos h.symm, ← h]
      by_cases h1 : cls x.1 = 1
      · rw [if_pos h1, if_pos h1]; exact cmpInt_ok.anti _ _
      · rw [if_neg h1, if_neg h1]
        by_cases h2 : cls x.1 = 2
        · rw [if_pos h2, if_pos h2]; exact bytes_ok.anti _ _
        · rw [if_neg h2, if_neg h2]; rfl
    · rw [if_neg h, if_neg (fun e => h e.symm)]; exact cmpInt_ok.anti _ _
  trans x y z := by
    have ti := cmpInt_ok.trans (cls x.1) (cls y.1) (cls z.1)
    have z0 : ∀ a b : Int, Lib.compareInt a b = 0 ↔ a = b := fun a b => by unfold Lib.compareInt; split <;> (try split) <;> simp <;> omega
    unfold cmpVal
    by_cases h1 : cls x.1 = cls y.1
    · by_cases h2 : cls y.1 = cls z.1
      · rw [if_pos h1, if_pos h2, if_pos (h1.trans h2), ← h1]
        by_cases c1 : cls x.1 = 1
        · simp only [if_pos c1]; exact cmpInt_ok.trans _ _ _
        · simp only [if_neg c1]
          by_cases c2 : cls x.1 = 2
          · simp only [if_pos c2]; exact bytes_ok.trans _ _ _
          · simp [c2]
      · have h3 : ¬ cls x.1 = cls z.1 := fun e => h2 (h1.symm.trans e)
        rw [if_pos h1, if_neg h2, if_neg h3, h1]
        intro _ hb
        exact ⟨hb, fun e => absurd ((z0 _ _).1 e) h2⟩
    · by_cases h2 : cls y.1 = cls z.1
      · have h3 : ¬ cls x.1 = cls z.1 := fun e => h1 (e.trans h2.symm)
        rw [if_neg h1, if_pos h2, if_neg h3, ← h2]
        intro ha _
        exact ⟨ha, fun e => absurd ((z0 _ _).1 e) h1⟩
      · rw [if_neg h1, if_neg h2]
        intro ha hb
        obtain ⟨t1, t2⟩ := ti ha hb
        by_cases h3 : cls x.1 = cls z.1
        · exact absurd ((z0 _ _).1 (t2 ((z0 _ _).2 h3)).1) h1
        · rw [if_neg h3]
          exact ⟨t1, fun e => absurd ((z0 _ _).1 e) h3⟩
def cmpRow (xs ys : List Val) : Int := lexL cmpVal xs ys
theorem cmpRow_ok : CmpOK cmpRow := lexL_ok cmpVal_ok
/-- Where the first values are equal, the rest decides. -/
theorem cmpRow_drop {xs ys : List Val} {i : Nat} (hx : i < xs.length) (hy : i < ys.length) : cmpRow (xs.drop i) (ys.drop i) = if cmpVal xs[i] ys[i] = 0 then cmpRow (xs.drop (i + 1)) (ys.drop (i + 1)) else cmpVal xs[i] ys[i] := by
  rw [List.drop_eq_getElem_cons hx, List.drop_eq_getElem_cons hy]
  rfl
theorem cmpRow_end {xs ys : List Val} {i : Nat} (h : xs.length ≤ i ∨ ys.length ≤ i) (hx : i ≤ xs.length) (hy : i ≤ ys.length) : cmpRow (xs.drop i) (ys.drop i) = if xs.length < ys.length then -1 else if ys.length < xs.length then 1 else 0 := by
  unfold cmpRow
  rcases h with h | h
  · rw [List.drop_of_length_le h]
    by_cases e : ys.length ≤ i
    · rw [List.drop_of_length_le e, if_neg (by omega), if_neg (by omega)]; rfl
    · rw [List.drop_eq_getElem_cons (by omega), if_pos (by omega)]; rfl
  · rw [List.drop_of_length_le h]
    by_cases e : xs.length ≤ i
    · rw [List.drop_of_length_le e, if_neg (by omega), if_neg (by omega)]; rfl
    · rw [List.drop_eq_getElem_cons (by omega), if_neg (by omega), if_pos (by omega)]; rfl
end Go.Proofs.YtfoknllnknjccaaGreat

/-!
  Rows: a slice that reads as values; which rows are valid, in both packages, as contracts.
-/
namespace Go.Proofs.YtfoknllnknjccaaGreat
open Go.RowKit

abbrev v0 : Val := (0, 0, ⟨#[]⟩)
/-- The slice reads as these values, in this world. -/
def ValsAt (W : World) (b off : Nat) (xs : List Val) : Prop :=
  ∀ i, i < xs.length → W.cell? ⟨b, off + i * 3, none⟩ = some (.int .i64 (xs[i]?.getD v0).1) ∧ W.cell? ⟨b, off + i * 3 + 1, none⟩ = some (.int .i64 (xs[i]?.getD v0).2.1) ∧ W.cell? ⟨b, off + i * 3 + 2, none⟩ = some (.string (xs[i]?.getD v0).2.2)
theorem ValsAt.belowV {n₀ b off : Nat} {W W' : World} {xs : List Val} (h : ValsAt W b off xs) (hb : Below n₀ W W') (hbk : b < n₀) : ValsAt W' b off xs := fun i hi =>
  ⟨(hb.cell (p := ⟨b, off + i * 3, none⟩) hbk).trans (h i hi).1, (hb.cell (p := ⟨b, off + i * 3 + 1, none⟩) hbk).trans (h i hi).2.1, (hb.cell (p := ⟨b, off + i * 3 + 2, none⟩) hbk).trans (h i hi).2.2⟩
/-- A row: where it has values, it has an address, and cells. -/
def ValsIn (W : World) (p : Option Addr) (xs : List Val) : Prop :=
  0 < xs.length → ∃ b off, p = some ⟨b, off, none⟩ ∧ b < W.heap.size ∧ ValsAt W b off xs
theorem ValsIn.belowV {p : Option Addr} {W W' : World} {xs : List Val} (h : ValsIn W p xs) (hb : Below W.heap.size W W') : ValsIn W' p xs := fun hp => by
  obtain ⟨b, off, e, hl, hr⟩ := h hp
  exact ⟨b, off, e, Nat.lt_of_lt_of_le hl hb.size, hr.belowV hb hl⟩
/-- .. in every world from one on. -/
def validVs (xs : List Val) : Bool := xs.all fun x => validV x.1 x.2.1 x.2.2
def validRow (xs : List Val) : Bool := decide (xs.length ≤ 8) && validVs xs
theorem validVs_next {xs : List Val} {i : Nat} (h : i < xs.length) : validVs (xs.take (i + 1)) = (validVs (xs.take i) && validV (xs[i]?.getD v0).1 (xs[i]?.getD v0).2.1 (xs[i]?.getD v0).2.2) := by
  rw [List.take_succ_eq_append_getElem h]; unfold validVs; rw [List.all_append]; simp [h]
theorem validVs_split (xs : List Val) (i : Nat) : validVs xs = (validVs (xs.take i) && validVs (xs.drop i)) := by
  unfold validVs; rw [← List.all_append, List.take_append_drop]
theorem validVs_stop {xs : List Val} {i : Nat} (h : validVs (xs.take i) = false) : validVs xs = false := by rw [validVs_split xs i, h]; rfl

theorem refVV_b (k n : Int) (s : ByteArray) (w : World) : Calls Tryz.prog 67 #[.agg #[.int .i64 k, .int .i64 n, .string s]] w fun e w' => e = .returned (.bool (validV k n s)) ∧ Below w.heap.size w w' :=
  (refValidValue_any k n s w).mono fun _ _ ⟨h1, h2⟩ => ⟨h1, by rw [h2]; exact (Below.refl _ _).alloc (Nat.le_refl _) _⟩
theorem rowVV_b (k n : Int) (s : ByteArray) (w : World) : Calls Tryz.prog 82 #[.agg #[.int .i64 k, .int .i64 n, .string s]] w fun e w' => e = .returned (.bool (validV k n s)) ∧ Below w.heap.size w w' :=
  (rowValidValue_any k n s w).mono fun _ _ ⟨h1, h2⟩ => ⟨h1, by rw [h2]; exact (Below.refl _ _).alloc (Nat.le_refl _) _⟩

set_option maxRecDepth 100000 in
set_option maxHeartbeats 1000000 in
theorem refValid_any (p : Option Addr) (xs : List Val) (cap : Nat) (hm : xs.length ≤ 9223372036854775807) (w : World) (hX : ValsIn w p xs) :
    Calls Tryz.prog 41 #[.slice p xs.length cap] w fun e w' => e = .returned (.bool (validRow xs)) ∧ Below w.heap.size w w' := by
  have HX := Lib.hid hX
  have HC := Lib.hid refVV_b
  have HW := Lib.hid within_any
  clear hX
  go_enter Tryz.func41, Tryz.ntmps41
  go_wp2_with fail
  go_loopw [3] (fun s wr => ∃ i : Nat, s = .int .i64 i ∧ i ≤ xs.length ∧ Hid (validVs (xs.take i) = true) ∧ Below w.heap.size w wr) (fun s _ => xs.length - (intOf s).toNat)
  case atStart => exact ⟨0, rfl, Nat.zero_le _, rfl, Below.refl _ _⟩
  case round =>
    obtain ⟨i, rfl, hi, hv, hB⟩ := hrel
    by_cases hlt : i < xs.length
    · obtain ⟨b, off, rfl, hbl, hra⟩ := HX.out (by omega)
      obtain ⟨c0, c1, c2⟩ := (hra.belowV hB hbl) i hlt
      have hnx := validVs_next hlt
      rw [hv.out, Bool.true_and] at hnx
      have hi0 : (0 : Int) ≤ (i : Int) := by omega
      have hi1 : (i : Int) < (xs.length : Int) := by omega
      clear hra
      generalize (xs[i]?.getD v0) = x at hnx c0 c1 c2
      obtain ⟨x0, x1, x2⟩ := x
      dsimp only at hnx c0 c1 c2
      have HC1 := fun W => HC.out x0 x1 x2 W
      cases hq : validV x0 x1 x2 with
      | true =>
        rw [hq] at HC1 hnx
        have HC2 := Lib.hid HC1
        have HNX := Lib.hid hnx
        clear HC1 hnx hq
        go_wp2_with fail
        refine (HC2.out _).mono ?_
        rintro e w' ⟨rfl, hb⟩
        go_wp2_with fail
        go_roundw
        case rel => exact ⟨i + 1, by go_num, by omega, HNX.out, hB.trans (hb.mono hB.size)⟩
        case measure => simp [intOf]; omega
      | false =>
        rw [hq] at HC1 hnx
        have HC2 := Lib.hid HC1
        have HNX := Lib.hid (validVs_stop hnx)
        clear HC1 hnx hq
        go_wp2_with fail
        refine (HC2.out _).mono ?_
        rintro e w' ⟨rfl, hb⟩
        go_wp2_with fail
        go_ret
        exact ⟨retB (by unfold validRow; rw [HNX.out, Bool.and_false]), hB.trans (hb.mono hB.size)⟩
    · have hge : xs.length ≤ i := by omega
      have hie : i = xs.length := by omega
      have hall : validVs xs = true := by have := hv.out; rw [hie, List.take_length] at this; exact this
      have HALL := Lib.hid hall
      clear hall hie
      by_cases h8 : (xs.length : Int) ≤ 8
      · go_wp2_with fail
        go_ret
        exact ⟨retB (by unfold validRow; rw [HALL.out, Bool.and_true, decide_eq_true (by omega)]), hB⟩
      · have h8' : decide ((xs.length : Int) ≤ 8) = false := by simpa using h8
        go_wp2_with fail
        go_ret
        exact ⟨retB (by unfold validRow; rw [HALL.out, Bool.and_true, decide_eq_false (by omega)]), hB⟩

set_option maxRecDepth 100000 in
set_option maxHeartbeats 1000000 in
theorem rowValid_any (p : Option Addr) (xs : List Val) (cap : Nat) (w : World) (hX : ValsIn w p xs) :
    Calls Tryz.prog 61 #[.slice p xs.length cap] w fun e w' => e = .returned (.bool (validRow xs)) ∧ Below w.heap.size w w' := by
  by_cases h8 : 8 < xs.length
  · have h8' : (8 : Int) < (xs.length : Int) := by omega
    have hr : validRow xs = false := by unfold validRow; rw [decide_eq_false (by omega)]; rfl
    rw [hr]
    clear hr
    go_enter Tryz.func61, Tryz.ntmps61
    go_wp2_with fail
    go_ret
    exact ⟨rfl, Below.refl _ _⟩
  · have h8' : (xs.length : Int) ≤ 8 := by omega
    have hr : validRow xs = validVs xs := by unfold validRow; rw [decide_eq_true (by omega)]; rfl
    rw [hr]
    have HX := Lib.hid hX
    have HC := Lib.hid rowVV_b
    clear hX hr
    go_enter Tryz.func61, Tryz.ntmps61
    go_wp2_with fail
    go_loopw [10] (fun s wr => ∃ i : Nat, s = .int .i64 i ∧ i ≤ xs.length ∧ Hid (validVs (xs.take i) = true) ∧ Below w.heap.size w wr) (fun s _ => xs.length - (intOf s).toNat)
    case atStart => exact ⟨0, rfl, Nat.zero_le _, rfl, Below.refl _ _⟩
    case round =>
      obtain ⟨i, rfl, hi, hv, hB⟩ := hrel
      by_cases hlt : i < xs.length
      · obtain ⟨b, off, rfl, hbl, hra⟩ := HX.out (by omega)
        obtain ⟨c0, c1, c2⟩ := (hra.belowV hB hbl) i hlt
        have hnx := validVs_next hlt
        rw [hv.out, Bool.true_and] at hnx
        have hi0 : (0 : Int) ≤ (i : Int) := by omega
        have hi1 : (i : Int) < (xs.length : Int) := by omega
        clear hra
        generalize (xs[i]?.getD v0) = x at hnx c0 c1 c2
        obtain ⟨x0, x1, x2⟩ := x
        dsimp only at hnx c0 c1 c2
        have hB2 : Below w.heap.size w (wr.alloc (.cells #[.int .i64 x0, .int .i64 x1, .string x2] 55)) := hB.alloc hB.size _
        have HC1 := fun W => HC.out x0 x1 x2 W
        cases hq : validV x0 x1 x2 with
        | true =>
          rw [hq] at HC1 hnx
          have HC2 := Lib.hid HC1
          have HNX := Lib.hid hnx
          clear HC1 hnx hq
          go_wp2_with fail
          refine (HC2.out _).mono ?_
          rintro e w' ⟨rfl, hb⟩
          go_wp2_with fail
          go_roundw
          case rel => exact ⟨i + 1, by go_num, by omega, HNX.out, hB2.trans (hb.mono hB2.size)⟩
          case measure => simp [intOf]; omega
        | false =>
          rw [hq] at HC1 hnx
          have HC2 := Lib.hid HC1
          have HNX := Lib.hid (validVs_stop hnx)
          clear HC1 hnx hq
          go_wp2_with fail
          refine (HC2.out _).mono ?_
          rintro e w' ⟨rfl, hb⟩
          go_wp2_with fail
          go_ret
          exact ⟨retB (by rw [HNX.out]), hB2.trans (hb.mono hB2.size)⟩
      · have hge : xs.length ≤ i := by omega
        have hie : i = xs.length := by omega
        have hall : validVs xs = true := by have := hv.out; rw [hie, List.take_length] at this; exact this
        have HALL := Lib.hid hall
        clear hall hie
        go_wp2_with fail
        go_ret
        exact ⟨retB (by rw [HALL.out]), hB⟩
end Go.Proofs.YtfoknllnknjccaaGreat

/-!
  Plain facts: bags as lists of rows with their numbers; two bags walked together; rows put in; what comes out hangs on how often each row comes, and on nothing else.
-/
namespace Go.Proofs.YtfoknllnknjccaaGreat

theorem cmpInt_zero {a b : Int} (h : Lib.compareInt a b = 0) : a = b := by
  unfold Lib.compareInt at h
  split at h
  · simp at h
  · split at h
    · simp at h
    · omega
theorem lexL_zero {α : Type} {f : α → α → Int} {P : α → Prop} (h : ∀ x y, P x → P y → f x y = 0 → x = y) : ∀ xs ys, (∀ x ∈ xs, P x) → (∀ y ∈ ys, P y) → lexL f xs ys = 0 → xs = ys
  | [], [] => fun _ _ _ => rfl
  | [], _ :: _ => by simp [lexL]
  | _ :: _, [] => by simp [lexL]
  | x :: xs, y :: ys => by
    intro hx hy e
    simp only [lexL] at e
    by_cases e1 : f x y = 0
    · rw [if_pos e1] at e
      rw [h x y (hx x (by simp)) (hy y (by simp)) e1, lexL_zero h xs ys (fun z hz => hx z (by simp [hz])) (fun z hz => hy z (by simp [hz])) e]
    · rw [if_neg e1] at e
      exact absurd e e1
theorem bytes_eq0 {a b : List UInt8} (h : Lib.compareBytes a b = 0) : a = b := by
  rw [bytes_lex] at h
  refine lexL_zero (P := fun _ => True) (fun x y _ _ e => ?_) a b (fun _ _ => trivial) (fun _ _ => trivial) h
  have := cmpInt_zero e
  apply UInt8.toNat_inj.1
  omega
theorem empty_eq {s : ByteArray} (h : s.toList.isEmpty = true) : s.data.toList = [] := by
  rw [Lib.toList_data] at h
  exact List.isEmpty_iff.1 h
/-- Two valid values that are neither before the other are one. -/
theorem val_eq {x y : Val} (hx : validV x.1 x.2.1 x.2.2 = true) (hy : validV y.1 y.2.1 y.2.2 = true) (h : cmpVal x y = 0) : x = y := by
  obtain ⟨k, n, s⟩ := x
  obtain ⟨l, m, r⟩ := y
  unfold validV at hx hy
  have hx' := of_decide_eq_true hx
  have hy' := of_decide_eq_true hy
  unfold validP at hx' hy'
  unfold cmpVal at h
  dsimp only at h hx' hy'
  have ck : cls k = k := by unfold cls; rcases hx' with h | h | h <;> simp [h.1]
  have cl : cls l = l := by unfold cls; rcases hy' with h | h | h <;> simp [h.1]
  rw [ck, cl] at h
  by_cases e : k = l
  · subst e
    rw [if_pos rfl] at h
    rcases hx' with ⟨rfl, rfl, hs⟩ | ⟨rfl, hs, _⟩ | ⟨rfl, rfl, _⟩
    · rcases hy' with ⟨_, rfl, hr⟩ | ⟨h1, _⟩ | ⟨h1, _⟩
      · rw [Go.WideShapes.bytes_inj ((empty_eq hs).trans (empty_eq hr).symm)]
      · simp at h1
      · simp at h1
    · rcases hy' with ⟨h1, _⟩ | ⟨_, hr, _⟩ | ⟨h1, _⟩
      · simp at h1
      · rw [if_pos rfl] at h
        rw [Go.WideShapes.bytes_inj ((empty_eq hs).trans (empty_eq hr).symm), cmpInt_zero h]
      · simp at h1
    · rcases hy' with ⟨h1, _⟩ | ⟨h1, _⟩ | ⟨_, rfl, _⟩
      · simp at h1
      · simp at h1
      · rw [if_neg (by decide), if_pos rfl] at h
        rw [Go.WideShapes.bytes_inj (bytes_eq0 h)]
  · rw [if_neg e] at h
    exact absurd (cmpInt_zero h) e
theorem row_eq {xs ys : List Val} (hx : validRow xs = true) (hy : validRow ys = true) (h : cmpRow xs ys = 0) : xs = ys := by
  unfold validRow at hx hy
  rw [Bool.and_eq_true] at hx hy
  have hx' := List.all_eq_true.1 hx.2
  have hy' := List.all_eq_true.1 hy.2
  exact lexL_zero (P := fun x : Val => validV x.1 x.2.1 x.2.2 = true) (fun x y h1 h2 e => val_eq h1 h2 e) xs ys hx' hy' h
theorem cmp_lt_trans {x y z : List Val} (h1 : cmpRow x y < 0) (h2 : cmpRow y z < 0) : cmpRow x z < 0 := by
  obtain ⟨t1, t2⟩ := cmpRow_ok.trans x y z (by omega) (by omega)
  have : cmpRow x z ≠ 0 := fun e => by have := (t2 e).1; omega
  omega
theorem cmp_lt_eq {x y z : List Val} (h1 : cmpRow x y < 0) (h2 : cmpRow y z = 0) : cmpRow x z < 0 := by
  rw [← cmpRow_ok.right h2]; exact h1
theorem cmp_eq_lt {x y z : List Val} (h1 : cmpRow x y = 0) (h2 : cmpRow y z < 0) : cmpRow x z < 0 := by
  rw [cmpRow_ok.left h1]; exact h2

abbrev It := List Val × Int
abbrev it0 : It := ([], 0)
def inN (n : Int) : Prop := n ≠ 0 ∧ -1000000 ≤ n ∧ n ≤ 1000000
instance (n : Int) : Decidable (inN n) := by unfold inN; infer_instance
def ltI (x y : It) : Prop := cmpRow x.1 y.1 < 0
instance (x y : It) : Decidable (ltI x y) := by unfold ltI; infer_instance
def Up (l : List It) : Prop := l.Pairwise ltI
instance (l : List It) : Decidable (Up l) := by unfold Up; infer_instance
def Asc (l : List It) : Prop := (∀ x ∈ l, validRow x.1 = true ∧ x.2 ≠ 0) ∧ Up l
def itOK (x : It) : Bool := validRow x.1 && decide (inN x.2)
def validBag (l : List It) : Bool := decide (l.length ≤ 400) && (l.all itOK && decide (Up l))
theorem validBag_iff {l : List It} : validBag l = true ↔ l.length ≤ 400 ∧ (∀ x ∈ l, itOK x = true) ∧ Up l := by
  unfold validBag; simp [List.all_eq_true]
theorem itOK_iff {x : It} : itOK x = true ↔ validRow x.1 = true ∧ inN x.2 := by unfold itOK; simp
theorem asc_of_valid {l : List It} (h : validBag l = true) : Asc l := by
  obtain ⟨_, h2, h3⟩ := validBag_iff.1 h
  exact ⟨fun x hx => ⟨(itOK_iff.1 (h2 x hx)).1, (itOK_iff.1 (h2 x hx)).2.1⟩, h3⟩

/-- How often a row is there. -/
def cnt : List It → List Val → Int
  | [], _ => 0
  | x :: l, r => if cmpRow x.1 r = 0 then x.2 else cnt l r
theorem cnt_none {l : List It} {r : List Val} (h : ∀ x ∈ l, cmpRow x.1 r ≠ 0) : cnt l r = 0 := by
  induction l with
  | nil => rfl
  | cons x l ih => rw [cnt, if_neg (h x (by simp)), ih fun y hy => h y (by simp [hy])]
theorem cnt_some {l : List It} {r : List Val} (h : cnt l r ≠ 0) : ∃ x ∈ l, cmpRow x.1 r = 0 := by
  induction l with
  | nil => exact absurd rfl h
  | cons x l ih =>
    rw [cnt] at h
    by_cases e : cmpRow x.1 r = 0
    · exact ⟨x, by simp, e⟩
    · rw [if_neg e] at h
      obtain ⟨y, hy, e⟩ := ih h
      exact ⟨y, by simp [hy], e⟩
theorem cnt_above {l : List It} {r : List Val} (h : ∀ x ∈ l, cmpRow r x.1 < 0) : cnt l r = 0 :=
  cnt_none fun x hx e => by have := h x hx; have := cmpRow_ok.anti x.1 r; omega
theorem cnt_head {x : It} {l : List It} (h : Up (x :: l)) {r : List Val} (e : cmpRow x.1 r = 0) : cnt l r = 0 :=
  cnt_above fun y hy => cmp_eq_lt (by have := cmpRow_ok.anti x.1 r; omega) ((List.pairwise_cons.1 h).1 y hy)
theorem bag_ext : ∀ {l m : List It}, Asc l → Asc m → (∀ r, cnt l r = cnt m r) → l = m
  | [], [], _, _, _ => rfl
  | [], y :: m, _, hm, h => by
    have := h y.1
    rw [cnt, cnt, if_pos (cmpRow_ok.refl _)] at this
    exact absurd this.symm (hm.1 y (by simp)).2
  | x :: l, [], hl, _, h => by
    have := h x.1
    rw [cnt, cnt, if_pos (cmpRow_ok.refl _)] at this
    exact absurd this (hl.1 x (by simp)).2
  | x :: l, y :: m, hl, hm, h => by
    have hx : ∃ z ∈ y :: m, cmpRow z.1 x.1 = 0 := cnt_some (by rw [← h, cnt, if_pos (cmpRow_ok.refl _)]; exact (hl.1 x (by simp)).2)
    have hy : ∃ z ∈ x :: l, cmpRow z.1 y.1 = 0 := cnt_some (by rw [h, cnt, if_pos (cmpRow_ok.refl _)]; exact (hm.1 y (by simp)).2)
    have e0 : cmpRow x.1 y.1 = 0 := by
      obtain ⟨z, hz, e⟩ := hx
      obtain ⟨u, hu, f⟩ := hy
      rcases List.mem_cons.1 hz with rfl | hz
      · have := cmpRow_ok.anti z.1 x.1; omega
      · rcases List.mem_cons.1 hu with rfl | hu
        · exact f
        · have h1 := (List.pairwise_cons.1 hm.2).1 z hz
          have h2 := (List.pairwise_cons.1 hl.2).1 u hu
          unfold ltI at h1 h2
          have h3 := cmp_lt_eq h1 e
          have h4 := cmp_lt_eq h2 f
          have := cmpRow_ok.anti x.1 y.1
          omega
    have e1 : x.1 = y.1 := row_eq (hl.1 x (by simp)).1 (hm.1 y (by simp)).1 e0
    have e2 : x.2 = y.2 := by
      have := h x.1
      rw [cnt, if_pos (cmpRow_ok.refl _), cnt, if_pos (by rw [e1]; exact cmpRow_ok.refl _)] at this
      exact this
    have hxy : x = y := Prod.ext e1 e2
    subst hxy
    have := bag_ext (l := l) (m := m) ⟨fun z hz => hl.1 z (by simp [hz]), (List.pairwise_cons.1 hl.2).2⟩ ⟨fun z hz => hm.1 z (by simp [hz]), (List.pairwise_cons.1 hm.2).2⟩ (fun r => by
      by_cases e : cmpRow x.1 r = 0
      · rw [cnt_head hl.2 e, cnt_head hm.2 e]
      · have := h r
        rw [cnt, cnt, if_neg e, if_neg e] at this
        exact this)
    rw [this]

abbrev Pr := List Val × Int × Int
/-- Two bags, walked together. -/
def pairsL : List It → List It → List Pr
  | [], [] => []
  | x :: a, [] => (x.1, x.2, 0) :: pairsL a []
  | [], y :: b => (y.1, 0, y.2) :: pairsL [] b
  | x :: a, y :: b =>
    if cmpRow x.1 y.1 < 0 then (x.1, x.2, 0) :: pairsL a (y :: b)
    else if 0 < cmpRow x.1 y.1 then (y.1, 0, y.2) :: pairsL (x :: a) b
    else (y.1, x.2, y.2) :: pairsL a b
termination_by a b => a.length + b.length
theorem pairs_from (a b : List It) : ∀ p ∈ pairsL a b, (∃ x ∈ a, cmpRow x.1 p.1 = 0) ∨ ∃ y ∈ b, cmpRow y.1 p.1 = 0 := by
  fun_induction pairsL a b with
  | case1 => simp
  | case2 x a ih =>
    intro p hp
    rcases List.mem_cons.1 hp with rfl | hp
    · exact .inl ⟨x, by simp, cmpRow_ok.refl _⟩
    · rcases ih p hp with ⟨z, hz, e⟩ | ⟨z, hz, e⟩
      · exact .inl ⟨z, by simp [hz], e⟩
      · exact .inr ⟨z, hz, e⟩
  | case3 y b ih =>
    intro p hp
    rcases List.mem_cons.1 hp with rfl | hp
    · exact .inr ⟨y, by simp, cmpRow_ok.refl _⟩
    · rcases ih p hp with ⟨z, hz, e⟩ | ⟨z, hz, e⟩
      · exact .inl ⟨z, hz, e⟩
      · exact .inr ⟨z, by simp [hz], e⟩
  | case4 x a y b h ih =>
    intro p hp
    rcases List.mem_cons.1 hp with rfl | hp
    · exact .inl ⟨x, by simp, cmpRow_ok.refl _⟩
    · rcases ih p hp with ⟨z, hz, e⟩ | ⟨z, hz, e⟩
      · exact .inl ⟨z, by simp [hz], e⟩
      · exact .inr ⟨z, hz, e⟩
  | case5 x a y b h h' ih =>
    intro p hp
    rcases List.mem_cons.1 hp with rfl | hp
    · exact .inr ⟨y, by simp, cmpRow_ok.refl _⟩
    · rcases ih p hp with ⟨z, hz, e⟩ | ⟨z, hz, e⟩
      · exact .inl ⟨z, hz, e⟩
      · exact .inr ⟨z, by simp [hz], e⟩
  | case6 x a y b h h' ih =>
    intro p hp
    rcases List.mem_cons.1 hp with rfl | hp
    · exact .inr ⟨y, by simp, cmpRow_ok.refl _⟩
    · rcases ih p hp with ⟨z, hz, e⟩ | ⟨z, hz, e⟩
      · exact .inl ⟨z, by simp [hz], e⟩
      · exact .inr ⟨z, by simp [hz], e⟩
theorem pairs_valid (a b : List It) (ha : ∀ x ∈ a, validRow x.1 = true) (hb : ∀ x ∈ b, validRow x.1 = true) : ∀ p ∈ pairsL a b, validRow p.1 = true := by
  fun_induction pairsL a b with
  | case1 => simp
  | case2 x a ih =>
    intro p hp
    rcases List.mem_cons.1 hp with rfl | hp
    · exact ha x (by simp)
    · exact ih (fun z hz => ha z (by simp [hz])) hb p hp
  | case3 y b ih =>
    intro p hp
    rcases List.mem_cons.1 hp with rfl | hp
    · exact hb y (by simp)
    · exact ih ha (fun z hz => hb z (by simp [hz])) p hp
  | case4 x a y b h ih =>
    intro p hp
    rcases List.mem_cons.1 hp with rfl | hp
    · exact ha x (by simp)
    · exact ih (fun z hz => ha z (by simp [hz])) hb p hp
  | case5 x a y b h h' ih =>
    intro p hp
    rcases List.mem_cons.1 hp with rfl | hp
    · exact hb y (by simp)
    · exact ih ha (fun z hz => hb z (by simp [hz])) p hp
  | case6 x a y b h h' ih =>
    intro p hp
    rcases List.mem_cons.1 hp with rfl | hp
    · exact hb y (by simp)
    · exact ih (fun z hz => ha z (by simp [hz])) (fun z hz => hb z (by simp [hz])) p hp
theorem up_tail {x : It} {l : List It} (h : Up (x :: l)) : Up l := (List.pairwise_cons.1 h).2
theorem up_head {x y : It} {l : List It} (h : Up (x :: l)) (hy : y ∈ l) : cmpRow x.1 y.1 < 0 := (List.pairwise_cons.1 h).1 y hy
theorem pairs_up (a b : List It) (ha : Up a) (hb : Up b) : (pairsL a b).Pairwise fun p q => cmpRow p.1 q.1 < 0 := by
  fun_induction pairsL a b with
  | case1 => exact .nil
  | case2 x a ih =>
    refine List.pairwise_cons.2 ⟨fun p hp => ?_, ih (up_tail ha) hb⟩
    rcases pairs_from _ _ p hp with ⟨z, hz, e⟩ | ⟨z, hz, e⟩
    · exact cmp_lt_eq (up_head ha hz) e
    · simp at hz
  | case3 y b ih =>
    refine List.pairwise_cons.2 ⟨fun p hp => ?_, ih ha (up_tail hb)⟩
    rcases pairs_from _ _ p hp with ⟨z, hz, e⟩ | ⟨z, hz, e⟩
    · simp at hz
    · exact cmp_lt_eq (up_head hb hz) e
  | case4 x a y b h ih =>
    refine List.pairwise_cons.2 ⟨fun p hp => ?_, ih (up_tail ha) hb⟩
    rcases pairs_from _ _ p hp with ⟨z, hz, e⟩ | ⟨z, hz, e⟩
    · exact cmp_lt_eq (up_head ha hz) e
    · rcases List.mem_cons.1 hz with rfl | hz
      · exact cmp_lt_eq h e
      · exact cmp_lt_eq (cmp_lt_trans h (up_head hb hz)) e
  | case5 x a y b h h' ih =>
    have h2 : cmpRow y.1 x.1 < 0 := by have := cmpRow_ok.anti x.1 y.1; omega
    refine List.pairwise_cons.2 ⟨fun p hp => ?_, ih ha (up_tail hb)⟩
    rcases pairs_from _ _ p hp with ⟨z, hz, e⟩ | ⟨z, hz, e⟩
    · rcases List.mem_cons.1 hz with rfl | hz
      · exact cmp_lt_eq h2 e
      · exact cmp_lt_eq (cmp_lt_trans h2 (up_head ha hz)) e
    · exact cmp_lt_eq (up_head hb hz) e
  | case6 x a y b h h' ih =>
    have h2 : cmpRow y.1 x.1 = 0 := by have := cmpRow_ok.anti x.1 y.1; omega
    refine List.pairwise_cons.2 ⟨fun p hp => ?_, ih (up_tail ha) (up_tail hb)⟩
    rcases pairs_from _ _ p hp with ⟨z, hz, e⟩ | ⟨z, hz, e⟩
    · exact cmp_lt_eq (cmp_eq_lt h2 (up_head ha hz)) e
    · exact cmp_lt_eq (up_head hb hz) e
def become (f : Int → Int → Int) (p : Pr) : It := (p.1, f p.2.1 p.2.2)
theorem pairs_cnt {f : Int → Int → Int} (f0 : f 0 0 = 0) (a b : List It) (ha : Up a) (hb : Up b) (r : List Val) : cnt ((pairsL a b).map (become f)) r = f (cnt a r) (cnt b r) := by
  fun_induction pairsL a b with
  | case1 => simp [cnt, f0]
  | case2 x a ih =>
    simp only [List.map_cons, cnt, become]
    by_cases e : cmpRow x.1 r = 0
    · rw [if_pos e, if_pos e]
    · rw [if_neg e, if_neg e, ih (up_tail ha) hb]; rfl
  | case3 y b ih =>
    simp only [List.map_cons, cnt, become]
    by_cases e : cmpRow y.1 r = 0
    · rw [if_pos e, if_pos e]
    · rw [if_neg e, if_neg e, ih ha (up_tail hb)]; rfl
  | case4 x a y b h ih =>
    simp only [List.map_cons, cnt, become]
    by_cases e : cmpRow x.1 r = 0
    · have e' : cmpRow r x.1 = 0 := by have := cmpRow_ok.anti x.1 r; omega
      have hy : cnt (y :: b) r = 0 := cnt_above fun z hz => by
        rcases List.mem_cons.1 hz with rfl | hz
        · exact cmp_eq_lt e' h
        · exact cmp_eq_lt e' (cmp_lt_trans h (up_head hb hz))
      rw [cnt] at hy
      rw [if_pos e, if_pos e, hy]
    · rw [if_neg e, if_neg e, ih (up_tail ha) hb]; rfl
  | case5 x a y b h h' ih =>
    have h2 : cmpRow y.1 x.1 < 0 := by have := cmpRow_ok.anti x.1 y.1; omega
    simp only [List.map_cons, cnt, become]
    by_cases e : cmpRow y.1 r = 0
    · have e' : cmpRow r y.1 = 0 := by have := cmpRow_ok.anti y.1 r; omega
      have hx : cnt (x :: a) r = 0 := cnt_above fun z hz => by
        rcases List.mem_cons.1 hz with rfl | hz
        · exact cmp_eq_lt e' h2
        · exact cmp_eq_lt e' (cmp_lt_trans h2 (up_head ha hz))
      rw [cnt] at hx
      rw [if_pos e, if_pos e, hx]
    · rw [if_neg e, if_neg e, ih ha (up_tail hb)]; rfl
  | case6 x a y b h h' ih =>
    have h2 : cmpRow y.1 x.1 = 0 := by have := cmpRow_ok.anti x.1 y.1; omega
    have h3 : cmpRow x.1 r = cmpRow y.1 r := (cmpRow_ok.left h2 r).symm
    simp only [List.map_cons, cnt, become]
    by_cases e : cmpRow y.1 r = 0
    · rw [if_pos e, if_pos (h3.trans e), if_pos e]
    · rw [if_neg e, if_neg (by rw [h3]; exact e), if_neg e, ih (up_tail ha) (up_tail hb)]
def nz (l : List It) : List It := l.filter fun x => x.2 != 0
theorem nz_up {l : List It} (h : Up l) : Up (nz l) := List.Pairwise.sublist List.filter_sublist h
theorem nz_cnt {l : List It} (h : Up l) (r : List Val) : cnt (nz l) r = cnt l r := by
  induction l with
  | nil => rfl
  | cons x l ih =>
    unfold nz
    rw [List.filter_cons]
    by_cases e : x.2 = 0
    · rw [if_neg (by simp [e]), cnt]
      show cnt (nz l) r = _
      rw [ih (up_tail h)]
      by_cases e2 : cmpRow x.1 r = 0
      · rw [if_pos e2, e, cnt_head h e2]
      · rw [if_neg e2]
    · rw [if_pos (by simp [e]), cnt, cnt]
      show (if _ then _ else cnt (nz l) r) = _
      rw [ih (up_tail h)]
def mapped (f : Int → Int → Int) (a b : List It) : List It := (pairsL a b).map (become f)
def comb (f : Int → Int → Int) (a b : List It) : List It := nz (mapped f a b)
theorem mapped_up (f : Int → Int → Int) {a b : List It} (ha : Up a) (hb : Up b) : Up (mapped f a b) := by
  unfold Up mapped
  rw [List.pairwise_map]
  exact pairs_up a b ha hb
theorem comb_asc (f : Int → Int → Int) {a b : List It} (ha : Asc a) (hb : Asc b) : Asc (comb f a b) := by
  refine ⟨fun x hx => ?_, nz_up (mapped_up f ha.2 hb.2)⟩
  have h1 := List.mem_filter.1 hx
  obtain ⟨p, hp, rfl⟩ := List.mem_map.1 h1.1
  exact ⟨pairs_valid a b (fun z hz => (ha.1 z hz).1) (fun z hz => (hb.1 z hz).1) p hp, by simpa using h1.2⟩
theorem comb_cnt {f : Int → Int → Int} (f0 : f 0 0 = 0) {a b : List It} (ha : Asc a) (hb : Asc b) (r : List Val) : cnt (comb f a b) r = f (cnt a r) (cnt b r) := by
  unfold comb
  rw [nz_cnt (mapped_up f ha.2 hb.2)]
  exact pairs_cnt f0 a b ha.2 hb.2 r
theorem pairs_len (a b : List It) : (pairsL a b).length ≤ a.length + b.length := by
  fun_induction pairsL a b <;> simp only [List.length_cons, List.length_nil] at * <;> omega

/-- A row put in, so many times. -/
def put : List It → List Val → Int → List It
  | [], r, n => if n = 0 then [] else [(r, n)]
  | x :: l, r, n =>
    if cmpRow r x.1 < 0 then (if n = 0 then x :: l else (r, n) :: x :: l)
    else if cmpRow r x.1 = 0 then (if x.2 + n = 0 then l else (r, x.2 + n) :: l)
    else x :: put l r n
theorem put_from {l : List It} {r : List Val} {n : Int} : ∀ x ∈ put l r n, x ∈ l ∨ x.1 = r := by
  induction l with
  | nil =>
    intro x hx
    rw [put] at hx
    split at hx <;> simp at hx
    exact .inr (by rw [hx])
  | cons y l ih =>
    intro x hx
    rw [put] at hx
    split at hx
    · split at hx
      · exact .inl hx
      · rcases List.mem_cons.1 hx with rfl | hx
        · exact .inr rfl
        · exact .inl hx
    · split at hx
      · split at hx
        · exact .inl (by simp [hx])
        · rcases List.mem_cons.1 hx with rfl | hx
          · exact .inr rfl
          · exact .inl (by simp [hx])
      · rcases List.mem_cons.1 hx with rfl | hx
        · exact .inl (by simp)
        · rcases ih x hx with h | h
          · exact .inl (by simp [h])
          · exact .inr h
theorem put_up {l : List It} {r : List Val} {n : Int} (h : Up l) : Up (put l r n) := by
  induction l with
  | nil => rw [put]; split <;> simp [Up]
  | cons y l ih =>
    rw [put]
    by_cases e1 : cmpRow r y.1 < 0
    · rw [if_pos e1]
      split
      · exact h
      · refine List.pairwise_cons.2 ⟨fun z hz => ?_, h⟩
        rcases List.mem_cons.1 hz with rfl | hz
        · exact e1
        · exact cmp_lt_trans e1 (up_head h hz)
    · rw [if_neg e1]
      by_cases e2 : cmpRow r y.1 = 0
      · rw [if_pos e2]
        split
        · exact up_tail h
        · exact List.pairwise_cons.2 ⟨fun z hz => cmp_eq_lt e2 (up_head h hz), up_tail h⟩
      · rw [if_neg e2]
        refine List.pairwise_cons.2 ⟨fun z hz => ?_, ih (up_tail h)⟩
        rcases put_from z hz with hz | hz
        · exact up_head h hz
        · show cmpRow y.1 z.1 < 0
          rw [hz]
          have := cmpRow_ok.anti r y.1; omega
theorem put_cnt {l : List It} {r : List Val} {n : Int} (h : Up l) (q : List Val) : cnt (put l r n) q = cnt l q + if cmpRow r q = 0 then n else 0 := by
  induction l with
  | nil =>
    rw [put]
    by_cases e : n = 0
    · rw [if_pos e, e, cnt]; simp
    · rw [if_neg e, cnt, cnt]; simp [cnt]
  | cons y l ih =>
    rw [put]
    by_cases e1 : cmpRow r y.1 < 0
    · rw [if_pos e1]
      by_cases e : n = 0
      · rw [if_pos e, e]; simp
      · rw [if_neg e, cnt]
        by_cases e2 : cmpRow r q = 0
        · have e' : cmpRow q r = 0 := by have := cmpRow_ok.anti r q; omega
          have : cnt (y :: l) q = 0 := cnt_above fun z hz => by
            rcases List.mem_cons.1 hz with rfl | hz
            · exact cmp_eq_lt e' e1
            · exact cmp_eq_lt e' (cmp_lt_trans e1 (up_head h hz))
          rw [if_pos e2, if_pos e2, this]; omega
        · rw [if_neg e2, if_neg e2]; omega
    · rw [if_neg e1]
      by_cases e2 : cmpRow r y.1 = 0
      · have e3 : cmpRow r q = cmpRow y.1 q := cmpRow_ok.left e2 q
        rw [if_pos e2]
        by_cases e : y.2 + n = 0
        · rw [if_pos e, cnt]
          by_cases e4 : cmpRow y.1 q = 0
          · rw [if_pos e4, if_pos (e3.trans e4), cnt_head h e4]; omega
          · rw [if_neg e4, if_neg (by rw [e3]; exact e4)]; omega
        · rw [if_neg e, cnt, cnt]
          by_cases e4 : cmpRow y.1 q = 0
          · rw [if_pos e4, if_pos (e3.trans e4), if_pos (e3.trans e4)]
          · rw [if_neg e4, if_neg (by rw [e3]; exact e4), if_neg (by rw [e3]; exact e4)]; omega
      · rw [if_neg e2, cnt, cnt, ih (up_tail h)]
        by_cases e4 : cmpRow y.1 q = 0
        · have : ¬ cmpRow r q = 0 := fun e5 => by
            have := cmpRow_ok.right e4 r
            omega
          rw [if_pos e4, if_pos e4, if_neg this]; omega
        · rw [if_neg e4, if_neg e4]
theorem put_asc {l : List It} {r : List Val} {n : Int} (h : Asc l) (hr : validRow r = true) : Asc (put l r n) := by
  refine ⟨?_, put_up h.2⟩
  have h1 := h.1
  clear h
  induction l with
  | nil =>
    intro x hx
    rw [put] at hx
    split at hx <;> simp at hx
    subst hx
    exact ⟨hr, by assumption⟩
  | cons y l ih =>
    intro x hx
    rw [put] at hx
    split at hx
    · split at hx
      · exact h1 x hx
      · rcases List.mem_cons.1 hx with rfl | hx
        · exact ⟨hr, by assumption⟩
        · exact h1 x hx
    · split at hx
      · split at hx
        · exact h1 x (by simp [hx])
        · rcases List.mem_cons.1 hx with rfl | hx
          · exact ⟨hr, by assumption⟩
          · exact h1 x (by simp [hx])
      · rcases List.mem_cons.1 hx with rfl | hx
        · exact h1 x (by simp)
        · exact ih (fun z hz => h1 z (by simp [hz])) x hx
/-- All of b put into a, each so many times as often. -/
def plus (a b : List It) (n : Int) : List It := b.foldl (fun o x => put o x.1 (n * x.2)) a
theorem plus_next {a b : List It} {n : Int} {i : Nat} (h : i < b.length) : plus a (b.take (i + 1)) n = put (plus a (b.take i) n) (b[i]?.getD it0).1 (n * (b[i]?.getD it0).2) := by
  rw [List.take_succ_eq_append_getElem h]; unfold plus; rw [List.foldl_append]; simp [h]
theorem plus_asc {a b : List It} {n : Int} (ha : Asc a) (hb : ∀ x ∈ b, validRow x.1 = true) : Asc (plus a b n) := by
  induction b generalizing a with
  | nil => exact ha
  | cons x b ih => exact ih (put_asc ha (hb x (by simp))) fun z hz => hb z (by simp [hz])
theorem plus_cnt {a b : List It} {n : Int} (ha : Up a) (hb : Up b) (q : List Val) : cnt (plus a b n) q = cnt a q + n * cnt b q := by
  induction b generalizing a with
  | nil => simp [plus, cnt]
  | cons x b ih =>
    show cnt (plus (put a x.1 (n * x.2)) b n) q = _
    rw [ih (put_up ha) (up_tail hb), put_cnt ha, cnt]
    by_cases e : cmpRow x.1 q = 0
    · rw [if_pos e, if_pos e, cnt_head hb e]; omega
    · rw [if_neg e, if_neg e]; omega
theorem plus_comb {a b : List It} (n : Int) (ha : Asc a) (hb : Asc b) : plus a b n = comb (fun x y => x + n * y) a b :=
  bag_ext (plus_asc ha fun x hx => (hb.1 x hx).1) (comb_asc _ ha hb) fun r => by rw [plus_cnt ha.2 hb.2, comb_cnt (by simp) ha hb]
theorem comb_comm {f : Int → Int → Int} (f0 : f 0 0 = 0) (hf : ∀ x y, f x y = f y x) {a b : List It} (ha : Asc a) (hb : Asc b) : comb f a b = comb f b a :=
  bag_ext (comb_asc _ ha hb) (comb_asc _ hb ha) fun r => by rw [comb_cnt f0 ha hb, comb_cnt f0 hb ha, hf]
theorem nil_asc : Asc [] := ⟨by simp, .nil⟩
end Go.Proofs.YtfoknllnknjccaaGreat

/-!
  Blocks of cells, whole; the cells of a new one.
-/
namespace Go.Proofs.YtfoknllnknjccaaGreat
open Go.RowKit Go.Lib

/-- A block of cells, whole. -/
def Blk (W : World) (B : Nat) (t : TypeId) (cs : Array Value) : Prop := W.heap[B]? = some (.cells cs t (0, 0))
theorem Blk.lt {W : World} {B : Nat} {t : TypeId} {cs : Array Value} (h : Blk W B t cs) : B < W.heap.size := (Array.getElem?_eq_some_iff.1 h).1
theorem Blk.cell {W : World} {B : Nat} {t : TypeId} {cs : Array Value} (h : Blk W B t cs) (j : Nat) : W.cell? ⟨B, j, none⟩ = cs[j]? := by simp [World.cell?, show W.heap[B]? = _ from h]
theorem Blk.new (W : World) (t : TypeId) (cs : Array Value) : Blk (W.alloc (.cells cs t)) W.heap.size t cs := heap_alloc_new W _
theorem Blk.belowV {n₀ B : Nat} {W W' : World} {t : TypeId} {cs : Array Value} (h : Blk W B t cs) (hb : Below n₀ W W') (hB : B < n₀) : Blk W' B t cs := (hb.block B hB).trans h
theorem cells_new (w : World) (cs : Array Value) (t : TypeId) : ∀ (j : Nat) (u : Value), cs.toList[j]? = some u → (w.alloc (.cells cs t)).cell? ((⟨w.heap.size, 0, none⟩ : Addr).add j) = some u := fun j u h => by
  have hb : (w.alloc (.cells cs t)).heap[w.heap.size]? = some (.cells cs t (0, 0)) := heap_alloc_new w _
  rw [Go.WideShapes.add_plain]
  simp only [World.cell?, hb, Nat.zero_add]
  simpa using h
theorem cells_at (w : World) (cs : Array Value) (t : TypeId) {g : Nat} (hg : w.heap.size = g) : ∀ (j : Nat) (u : Value), cs.toList[j]? = some u → (w.alloc (.cells cs t)).cell? ((⟨g, 0, none⟩ : Addr).add j) = some u := by
  subst hg; exact cells_new w cs t

end Go.Proofs.YtfoknllnknjccaaGreat

/-!
  Lists of rows; and Long, which looks at all their texts' lengths: some answer, and nothing that was there has changed.
-/
namespace Go.Proofs.YtfoknllnknjccaaGreat
open Go.RowKit

/-- A row's slice: its address, its values, its capacity. -/
abbrev RowV := Option Addr × List Val × Nat
def rowv (r : RowV) : Value := .slice r.1 r.2.1.length r.2.2
abbrev r0 : RowV := (none, [], 0)
def RowOK (W : World) (r : RowV) : Prop := r.2.1.length ≤ 9223372036854775807 ∧ ValsIn W r.1 r.2.1
def RowsAt (W : World) (b off : Nat) (rs : List RowV) : Prop := ∀ i, i < rs.length → W.cell? ⟨b, off + i, none⟩ = some (rowv (rs[i]?.getD r0)) ∧ RowOK W (rs[i]?.getD r0)
theorem RowsAt.belowV {b off : Nat} {W W' : World} {rs : List RowV} (h : RowsAt W b off rs) (hb : Below W.heap.size W W') (hbk : b < W.heap.size) : RowsAt W' b off rs := fun i hi =>
  ⟨(hb.cell (p := ⟨b, off + i, none⟩) hbk).trans (h i hi).1, (h i hi).2.1, (h i hi).2.2.belowV hb⟩
def RowsIn (W : World) (p : Option Addr) (rs : List RowV) : Prop :=
  0 < rs.length → ∃ b off, p = some ⟨b, off, none⟩ ∧ b < W.heap.size ∧ RowsAt W b off rs
theorem RowsIn.belowV {p : Option Addr} {W W' : World} {rs : List RowV} (h : RowsIn W p rs) (hb : Below W.heap.size W W') : RowsIn W' p rs := fun hp => by
  obtain ⟨b, off, e, hl, hr⟩ := h hp
  exact ⟨b, off, e, Nat.lt_of_lt_of_le hl hb.size, hr.belowV hb hl⟩
def SomeBool (w : World) (e : Ending) (w' : World) : Prop := ∃ q : Bool, e = .returned (.bool q) ∧ w = w'

set_option maxRecDepth 100000 in
set_option maxHeartbeats 1000000 in
theorem Long_any (p : Option Addr) (rs : List RowV) (cap : Nat) (hm : rs.length ≤ 9223372036854775807) (w : World) (hX : RowsIn w p rs) :
    Calls Tryz.prog 25 #[.slice p rs.length cap] w (SomeBool w) := by
  have HX := Lib.hid hX
  clear hX
  go_enter Tryz.func25, Tryz.ntmps25
  go_wp2_with fail
  go_loop [3, 4] (fun t s => ∃ (n : Int) (i : Nat), t = .int .i64 n ∧ s = .int .i64 i ∧ i ≤ rs.length) (fun _ s => rs.length - (intOf s).toNat)
  case atStart => exact ⟨0, 0, rfl, rfl, Nat.zero_le _⟩
  case round =>
    obtain ⟨n, i, rfl, rfl, hi⟩ := hrel
    by_cases hlt : i < rs.length
    · obtain ⟨b, off, rfl, hbl, hra⟩ := HX.out (by omega)
      obtain ⟨c0, hrl, hrv⟩ := hra i hlt
      have hi0 : (0 : Int) ≤ (i : Int) := by omega
      have hi1 : (i : Int) < (rs.length : Int) := by omega
      clear hra
      generalize (rs[i]?.getD r0) = r at c0 hrl hrv
      obtain ⟨q, xs, rc⟩ := r
      dsimp only [rowv] at c0 hrl hrv
      have HRV := Lib.hid hrv
      clear hrv
      go_wp2_with fail
      go_loop [3, 5] (fun t s => ∃ (n : Int) (k : Nat), t = .int .i64 n ∧ s = .int .i64 k ∧ k ≤ xs.length) (fun _ s => xs.length - (intOf s).toNat)
      case atStart => exact ⟨_, 0, rfl, rfl, Nat.zero_le _⟩
      case round =>
        obtain ⟨n', k, rfl, rfl, hk⟩ := hrel
        by_cases hkl : k < xs.length
        · obtain ⟨b2, off2, rfl, hbl2, hra2⟩ := HRV.out (by omega)
          obtain ⟨_, _, d2⟩ := hra2 k hkl
          have hk0 : (0 : Int) ≤ (k : Int) := by omega
          have hk1 : (k : Int) < (xs.length : Int) := by omega
          clear hra2
          generalize (xs[k]?.getD v0).2.2 = x2 at d2
          go_wp2_with fail
          go_round
          case rel => exact ⟨_, k + 1, rfl, by go_num, by omega⟩
          case measure => simp [intOf]; omega
        · have hge : xs.length ≤ k := by omega
          go_wp2_with fail
          go_round
          case rel => exact ⟨_, i + 1, rfl, by go_num, by omega⟩
          case measure => simp [intOf]; omega
    · have hge : rs.length ≤ i := by omega
      go_wp2_with fail
      go_ret
      exact ⟨_, rfl, rfl⟩
end Go.Proofs.YtfoknllnknjccaaGreat

/-!
  Rows of the call's own: their cells; append of a row that came in.
-/
namespace Go.Proofs.YtfoknllnknjccaaGreat
open Go.RowKit

def flatV (xs : List Val) : List Value := xs.flatMap cellsV
theorem flatV_app (xs ys : List Val) : flatV (xs ++ ys) = flatV xs ++ flatV ys := by simp [flatV]
theorem flatV_len (xs : List Val) : (flatV xs).length = xs.length * 3 := by
  induction xs with
  | nil => rfl
  | cons x xs ih => simp only [flatV, List.flatMap_cons, List.length_append, cellsV, List.length_cons, List.length_nil] at ih ⊢; omega
theorem flatV_get (xs : List Val) : ∀ i, i < xs.length → (flatV xs)[i * 3]? = some (.int .i64 (xs[i]?.getD v0).1) ∧ (flatV xs)[i * 3 + 1]? = some (.int .i64 (xs[i]?.getD v0).2.1) ∧ (flatV xs)[i * 3 + 2]? = some (.string (xs[i]?.getD v0).2.2) := by
  induction xs with
  | nil => intro i h; simp at h
  | cons x xs ih =>
    intro i h
    cases i with
    | zero => simp [flatV, cellsV]
    | succ i =>
      have := ih i (by simpa using h)
      rw [show (i + 1) * 3 = i * 3 + 3 by omega]
      simpa [flatV, cellsV] using this
theorem flatV_set : ∀ (xs : List Val) (i : Nat) (x : Val), flatV (xs.set i x) = (((flatV xs).set (i * 3) (.int .i64 x.1)).set (i * 3 + 1) (.int .i64 x.2.1)).set (i * 3 + 2) (.string x.2.2)
  | [], i, x => by simp [flatV]
  | w :: ws, 0, x => by simp [flatV, cellsV]
  | w :: ws, i + 1, x => by
    have h := flatV_set ws i x
    rw [show (i + 1) * 3 = i * 3 + 3 by omega]
    simp only [flatV, List.set_cons_succ, List.flatMap_cons, cellsV, List.cons_append, List.nil_append] at h ⊢
    rw [h]
theorem infoV : (Tryz.prog.info? 55).map (fun i => (i.zero, i.size, i.bytes)) = some (some (.agg #[.int .i64 0, .int .i64 0, .string ⟨#[]⟩]), 3, 32) := by kernel_rfl
abbrev OwnsV (W : World) (base : Nat) (v : Value) (xs : List Val) : Prop := W.ownsRow base 55 3 v xs.length (flatV xs)

theorem valsIn_of_owns {W : World} {base c : Nat} {p : Option Addr} {ys : List Val} (h : OwnsV W base (.slice p ys.length c) ys) : ValsIn W p ys := fun hp => by
  have hh := h
  rcases h.2 with ⟨h0, hn⟩ | ⟨g, cap, cur, he, _, hg, _⟩
  · omega
  · simp only [Value.slice.injEq, true_and] at he
    obtain ⟨rfl, rfl⟩ := he
    refine ⟨g, 0, rfl, (Array.getElem?_eq_some_iff.1 hg).1, fun i hi => ?_⟩
    obtain ⟨g0, g1, g2⟩ := flatV_get ys i hi
    simp only [Nat.zero_add]
    exact ⟨(hh.cellAt (i * 3) (by omega)).trans g0, (hh.cellAt (i * 3 + 1) (by omega)).trans g1, (hh.cellAt (i * 3 + 2) (by omega)).trans g2⟩
theorem slice_of_owns {W : World} {base n : Nat} {e : TypeId} {size : Nat} {v : Value} {xs : List Value} (h : W.ownsRow base e size v n xs) : ∃ p cap, v = .slice p n cap := by
  rcases h.2 with ⟨rfl, rfl⟩ | ⟨g, cap, cur, rfl, _⟩
  · exact ⟨none, 0, rfl⟩
  · exact ⟨_, cap, rfl⟩
theorem owns_below {W W' : World} {base : Nat} {v : Value} {k : Nat} {e : TypeId} {size : Nat} {xs : List Value} (h : W.ownsRow base e size v k xs) (hb : Below W.heap.size W W') : W'.ownsRow base e size v k xs := by
  refine ⟨h.1, ?_⟩
  rcases h.2 with hn | ⟨g, cap, cur, rfl, hg, hc, rest⟩
  · exact .inl hn
  · exact .inr ⟨g, cap, cur, rfl, hg, (hb.block g (Array.getElem?_eq_some_iff.1 hc).1).trans hc, rest⟩
theorem ownsRow_base {W : World} {base base' : Nat} {e : TypeId} {size : Nat} {v : Value} {k : Nat} {xs : List Value} (h : W.ownsRow base e size v k xs) (hb : base' ≤ base) : W.ownsRow base' e size v k xs := by
  refine ⟨h.1, ?_⟩
  rcases h.2 with hn | ⟨g, cap, cur, rfl, hg, rest⟩
  · exact .inl hn
  · exact .inr ⟨g, cap, cur, rfl, Nat.le_trans hb hg, rest⟩

/-- append of a row that came in, onto one of the call's own. -/
theorem wpList_append_vals {w : World} {ops : Array Oper} {rest : List Oper} {o : Oper} {a : Act} {Q : Exit → Act → World → Prop} (hgd : o.guard = none) (s x : Operand)
    (ho : o.op = .call { callee := .builtin .append, args := #[s, x], argTypes := #[34, 34] })
    (base : Nat) (v : Value) (n : Nat) (ys : List Value) (hs : a.eval s = v) (hown : w.ownsRow base 55 3 v n ys) (p : Option Addr) (xs : List Val) (cap : Nat) (hx : a.eval x = .slice p xs.length cap) (hX : ValsIn w p xs) (hz : p = none → cap = 0)
    (hn : n + xs.length ≤ 1000000) (hbase : base ≤ w.heap.size) (m : Nat) (hm : n + xs.length = m) (L : List Value) (hL : ys ++ flatV xs = L)
    (h : ∀ v' w', w'.ownsRow base 55 3 v' m L → Below base w w' → w.grownBy w' v.ownBlock → wpList Tryz.prog ops Q rest (a.put o.dst v') w') : wpList Tryz.prog ops Q (o :: rest) a w := by
  obtain ⟨i0, hi, hz0, hz1, hz2⟩ := info_parts infoV
  subst hm hL
  have hb : ∀ w', w.grownBy w' v.ownBlock → Below base w w' := fun w' hg => (Below.refl base w).grown hg hbase (fun k e => (hown.lt k e).1)
  rcases p with _ | ad
  · have hc := hz rfl
    subst hc
    have hxs : xs = [] := by
      cases xs with
      | nil => rfl
      | cons y ys => obtain ⟨_, _, h, _⟩ := hX (by simp); cases h
    subst hxs
    refine wpList_append_own_none hgd s x 34 ho base 55 i0 3 Tryz.underlying34 hi v n ys hs hown hx (h v w ?_ (Below.refl _ _) (World.grownBy.refl _ _))
    simpa [flatV] using hown
  · refine wpList_append_own _ hgd s x 34 ho base 55 i0 (.agg #[.int .i64 0, .int .i64 0, .string ⟨#[]⟩]) 3 32 Tryz.underlying34 hi hz0 hz1 hz2 rfl (by decide) v n ys hs hown ad xs.length cap (flatV xs) hx (flatV_len xs) ?_ ?_ (by unfold maxLen; omega) (by omega) hbase (fun v' w' h1 h2 _ => h v' w' h1 (hb w' h2) h2)
    · intro j u hu
      have hj : j < xs.length * 3 := by rw [← flatV_len]; exact (List.getElem?_eq_some_iff.1 hu).1
      obtain ⟨b, off, e, _, hra⟩ := hX (by omega)
      cases e
      rw [Go.WideShapes.add_plain]
      obtain ⟨g0, g1, g2⟩ := flatV_get xs (j / 3) (by omega)
      obtain ⟨c0, c1, c2⟩ := hra (j / 3) (by omega)
      have h3 : j % 3 = 0 ∨ j % 3 = 1 ∨ j % 3 = 2 := by omega
      rcases h3 with h3 | h3 | h3
      · have e : j / 3 * 3 = j := by omega
        rw [e] at g0 c0
        rw [c0, ← hu, g0]
      · have e : j / 3 * 3 + 1 = j := by omega
        rw [Nat.add_assoc, e] at c1
        rw [e] at g1
        rw [c1, ← hu, g1]
      · have e : j / 3 * 3 + 2 = j := by omega
        rw [Nat.add_assoc, e] at c2
        rw [e] at g2
        rw [c2, ← hu, g2]
    · intro u hu
      simp only [flatV, List.mem_flatMap, cellsV, List.mem_cons, List.not_mem_nil, or_false] at hu
      obtain ⟨y, _, rfl | rfl | rfl⟩ := hu <;> rfl
end Go.Proofs.YtfoknllnknjccaaGreat

/-!
  A slice that reads as items: rows, each with a number; how a bag's validity goes, item by item.
-/
namespace Go.Proofs.YtfoknllnknjccaaGreat
open Go.RowKit

/-- May come behind those that are there. -/
def followsB (l : List It) (x : It) : Bool := decide (l.length ≠ 400) && (itOK x && (decide (l.length = 0) || decide (cmpRow (l[l.length - 1]?.getD it0).1 x.1 < 0)))
theorem up_snoc {l : List It} {x : It} (h : Up l) : Up (l ++ [x]) ↔ (l.length = 0 ∨ cmpRow (l[l.length - 1]?.getD it0).1 x.1 < 0) := by
  unfold Up at *
  rw [List.pairwise_append]
  constructor
  · rintro ⟨_, _, h3⟩
    by_cases e : l.length = 0
    · exact .inl e
    · refine .inr ?_
      have hl : l.length - 1 < l.length := by omega
      rw [List.getElem?_eq_getElem hl]
      exact h3 _ (List.getElem_mem hl) x (by simp)
  · intro h4
    refine ⟨h, by simp, fun a ha b hb => ?_⟩
    rw [List.mem_singleton] at hb
    subst hb
    rcases h4 with h4 | h4
    · have : l = [] := List.length_eq_zero_iff.1 h4
      rw [this] at ha
      cases ha
    · have hp : 0 < l.length := List.length_pos_of_mem ha
      have hl : l.length - 1 < l.length := by omega
      rw [List.getElem?_eq_getElem hl] at h4
      obtain ⟨k, hk, rfl⟩ := List.getElem_of_mem ha
      by_cases e : k = l.length - 1
      · subst e; exact h4
      · exact cmp_lt_trans (List.pairwise_iff_getElem.1 h k (l.length - 1) hk hl (by omega)) h4
theorem valid_snoc (l : List It) (x : It) : validBag (l ++ [x]) = (validBag l && followsB l x) := by
  rw [Bool.eq_iff_iff, Bool.and_eq_true, validBag_iff, validBag_iff]
  unfold followsB
  simp only [Bool.and_eq_true, Bool.or_eq_true, decide_eq_true_eq, List.length_append, List.length_singleton, List.mem_append, List.mem_singleton]
  constructor
  · rintro ⟨h1, h2, h3⟩
    have hu : Up l := (List.pairwise_append.1 h3).1
    exact ⟨⟨by omega, fun y hy => h2 y (.inl hy), hu⟩, by omega, h2 x (.inr rfl), (up_snoc hu).1 h3⟩
  · rintro ⟨⟨h1, h2, h3⟩, h4, h5, h6⟩
    exact ⟨by omega, fun y hy => by rcases hy with hy | rfl; exact h2 y hy; exact h5, (up_snoc h3).2 h6⟩
theorem valid_pre {l m : List It} (h : validBag l = false) : validBag (l ++ m) = false := by
  cases e : validBag (l ++ m) with
  | false => rfl
  | true =>
    obtain ⟨h1, h2, h3⟩ := validBag_iff.1 e
    rw [List.length_append] at h1
    have : validBag l = true := validBag_iff.2 ⟨by omega, fun x hx => h2 x (by simp [hx]), (List.pairwise_append.1 h3).1⟩
    rw [h] at this
    exact this.symm
theorem valid_next {l : List It} {i : Nat} (h : i < l.length) : validBag (l.take (i + 1)) = (validBag (l.take i) && followsB (l.take i) (l[i]?.getD it0)) := by
  rw [List.take_succ_eq_append_getElem h, List.getElem?_eq_getElem h]; exact valid_snoc _ _
theorem valid_stop {l : List It} {i : Nat} (h : validBag (l.take i) = false) : validBag l = false := by
  rw [← List.take_append_drop i l]; exact valid_pre h

/-- An item: a row's slice, and a number. -/
abbrev ItR := RowV × Int
abbrev ir0 : ItR := (r0, 0)
def itv (r : ItR) : It := (r.1.2.1, r.2)
def vals (rs : List ItR) : List It := rs.map itv
theorem vals_len (rs : List ItR) : (vals rs).length = rs.length := by simp [vals]
theorem vals_get (rs : List ItR) (i : Nat) : (vals rs)[i]?.getD it0 = itv (rs[i]?.getD ir0) := by
  unfold vals
  rw [List.getElem?_map]
  cases rs[i]? <;> rfl
theorem vals_take (rs : List ItR) (i : Nat) : vals (rs.take i) = (vals rs).take i := by unfold vals; rw [List.map_take]
theorem vals_drop (rs : List ItR) (i : Nat) : vals (rs.drop i) = (vals rs).drop i := by unfold vals; rw [List.map_drop]
theorem vals_app (rs ss : List ItR) : vals (rs ++ ss) = vals rs ++ vals ss := by simp [vals]
def ItemsAt (W : World) (b off : Nat) (rs : List ItR) : Prop :=
  ∀ i, i < rs.length → W.cell? ⟨b, off + i * 2, none⟩ = some (rowv (rs[i]?.getD ir0).1) ∧ W.cell? ⟨b, off + i * 2 + 1, none⟩ = some (.int .i64 (rs[i]?.getD ir0).2) ∧ RowOK W (rs[i]?.getD ir0).1 ∧ ((rs[i]?.getD ir0).1.1 = none → (rs[i]?.getD ir0).1.2.2 = 0)
theorem RowOK.belowV {W W' : World} {r : RowV} (h : RowOK W r) (hb : Below W.heap.size W W') : RowOK W' r := ⟨h.1, h.2.belowV hb⟩
theorem ItemsAt.belowV {b off : Nat} {W W' : World} {rs : List ItR} (h : ItemsAt W b off rs) (hb : Below W.heap.size W W') (hbk : b < W.heap.size) : ItemsAt W' b off rs := fun i hi =>
  ⟨(hb.cell (p := ⟨b, off + i * 2, none⟩) hbk).trans (h i hi).1, (hb.cell (p := ⟨b, off + i * 2 + 1, none⟩) hbk).trans (h i hi).2.1, (h i hi).2.2.1.belowV hb, (h i hi).2.2.2⟩
def ItemsIn (W : World) (p : Option Addr) (rs : List ItR) : Prop :=
  0 < rs.length → ∃ b off, p = some ⟨b, off, none⟩ ∧ b < W.heap.size ∧ ItemsAt W b off rs
theorem ItemsIn.belowV {p : Option Addr} {W W' : World} {rs : List ItR} (h : ItemsIn W p rs) (hb : Below W.heap.size W W') : ItemsIn W' p rs := fun hp => by
  obtain ⟨b, off, e, hl, hr⟩ := h hp
  exact ⟨b, off, e, Nat.lt_of_lt_of_le hl hb.size, hr.belowV hb hl⟩
theorem ItemsIn.take {p : Option Addr} {W : World} {rs : List ItR} (h : ItemsIn W p rs) (i : Nat) : ItemsIn W p (rs.take i) := fun hp => by
  rw [List.length_take] at hp
  obtain ⟨b, off, e, hl, hr⟩ := h (by omega)
  refine ⟨b, off, e, hl, fun j hj => ?_⟩
  rw [List.length_take] at hj
  have := hr j (by omega)
  rw [List.getElem?_take_of_lt (by omega)]
  exact this
def cellsI (r : ItR) : List Value := [rowv r.1, .int .i64 r.2]
def flatI (rs : List ItR) : List Value := rs.flatMap cellsI
theorem flatI_app (rs ss : List ItR) : flatI (rs ++ ss) = flatI rs ++ flatI ss := by simp [flatI]
theorem flatI_len (rs : List ItR) : (flatI rs).length = rs.length * 2 := by
  induction rs with
  | nil => rfl
  | cons x xs ih => simp only [flatI, List.flatMap_cons, List.length_append, cellsI, List.length_cons, List.length_nil] at ih ⊢; omega
theorem flatI_get (rs : List ItR) : ∀ i, i < rs.length → (flatI rs)[i * 2]? = some (rowv (rs[i]?.getD ir0).1) ∧ (flatI rs)[i * 2 + 1]? = some (.int .i64 (rs[i]?.getD ir0).2) := by
  induction rs with
  | nil => intro i h; simp at h
  | cons x xs ih =>
    intro i h
    cases i with
    | zero => simp [flatI, cellsI]
    | succ i =>
      have := ih i (by simpa using h)
      rw [show (i + 1) * 2 = i * 2 + 2 by omega]
      simpa [flatI, cellsI] using this
theorem infoI : (Tryz.prog.info? 53).map (fun i => (i.zero, i.size, i.bytes)) = some (some (.agg #[.slice none 0 0, .int .i64 0]), 2, 32) := by kernel_rfl
end Go.Proofs.YtfoknllnknjccaaGreat

