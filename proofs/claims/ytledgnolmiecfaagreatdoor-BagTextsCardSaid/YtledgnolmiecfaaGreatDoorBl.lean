/-
  Lines of bags' texts, plain: what a line is, how a text falls into lines, what reading comes to.
-/
import Derived.Test.YtledgnolmiecfaaGreatDoorJB
import Derived.Test.YtledgnolmiecfaaGreatDoorFollows
namespace Go.Proofs.YtledgnolmiecfaaGreatDoor
open Go.RowKit Go.Lib
set_option linter.unusedSimpArgs false
set_option linter.unusedVariables false

/-- The line of an item. -/
def lineT (x : It) : List UInt8 := itoa x.2 ++ 32 :: (textR x.1 ++ [10])
theorem itoa_no32 (n : Int) : (32 : UInt8) ∉ itoa n := fun h => by
  have := itoa_byte n 32 h
  revert this
  decide
theorem itoa_no10 (n : Int) : (10 : UInt8) ∉ itoa n := fun h => by
  have := itoa_byte n 10 h
  revert this
  decide
theorem lineT_ne (x : It) : lineT x ≠ [] := by unfold lineT; simp
theorem at32 : ∀ {a b r s : List UInt8}, (32 : UInt8) ∉ a → (32 : UInt8) ∉ b → a ++ 32 :: r = b ++ 32 :: s → a = b ∧ r = s
  | [], [], r, s, _, _, h => ⟨rfl, (List.cons.inj h).2⟩
  | [], c :: b, r, s, _, hb, h => absurd (List.mem_cons.2 (.inl (List.cons.inj h).1)) hb
  | c :: a, [], r, s, ha, _, h => absurd (List.mem_cons.2 (.inl (List.cons.inj h).1.symm)) ha
  | c :: a, d :: b, r, s, ha, hb, h => by
    obtain ⟨h1, h2⟩ := List.cons.inj h
    obtain ⟨h3, h4⟩ := at32 (fun e => ha (List.mem_cons_of_mem _ e)) (fun e => hb (List.mem_cons_of_mem _ e)) h2
    exact ⟨by rw [h1, h3], h4⟩
theorem inN_in {n : Int} (h : inN n) : -1000000000000000000 < n ∧ n < 1000000000000000000 := by unfold inN at h; omega
theorem itoa_inj {n m : Int} (hn : inN n) (hm : inN m) (h : itoa n = itoa m) : n = m := by
  have h1 := atoi_itoa (inN_in hn).1 (inN_in hn).2
  rw [h, atoi_itoa (inN_in hm).1 (inN_in hm).2] at h1
  injection h1 with h2
  exact h2.symm
theorem follows_ok {b : List It} {x : It} (h : followsB b x = true) : itOK x = true := by
  unfold followsB at h
  simp only [Bool.and_eq_true] at h
  exact h.2.1
theorem lineT_split {x : It} {a c : List UInt8} (ha : (32 : UInt8) ∉ a) (h : a ++ 32 :: (c ++ [10]) = lineT x) : a = itoa x.2 ∧ c = textR x.1 := by
  obtain ⟨h1, h2⟩ := at32 ha (itoa_no32 _) h
  exact ⟨h1, List.append_cancel_right h2⟩
theorem lineT_inj {x y : It} (hx : itOK x = true) (hy : itOK y = true) (h : lineT x = lineT y) : x = y := by
  obtain ⟨h1, h2⟩ := lineT_split (itoa_no32 _) (show itoa x.2 ++ 32 :: (textR x.1 ++ [10]) = lineT y from h)
  rw [itOK_iff] at hx hy
  have e1 := textR_inj hx.1 hy.1 h2
  have e2 := itoa_inj hx.2 hy.2 h1
  exact Prod.ext e1 e2

theorem qB_no10 (c : UInt8) : (10 : UInt8) ∉ qB c := by
  have : ∀ n : Nat, n < 256 → (qB (UInt8.ofNat n)).contains 10 = false := by decide +kernel
  have h := this c.toNat c.toNat_lt
  rw [UInt8.ofNat_toNat] at h
  intro hc
  rw [List.contains_iff_mem.2 hc] at h
  cases h
theorem textV_no10 (x : Val) (hx : validV x.1 x.2.1 x.2.2 = true) : (10 : UInt8) ∉ textV x := by
  obtain ⟨x0, x1, x2⟩ := x
  have hv' : validP x0 x1 x2 := of_decide_eq_true hx
  rcases hv' with ⟨rfl, rfl, he⟩ | ⟨rfl, he, h1, h2⟩ | ⟨rfl, rfl, h2⟩
  · show (10 : UInt8) ∉ [126]
    decide
  · exact itoa_no10 x1
  · show (10 : UInt8) ∉ quoted x2.data.toList
    unfold quoted
    intro h
    rcases List.mem_cons.1 h with h | h
    · exact absurd h (by decide)
    · rcases List.mem_append.1 h with h | h
      · obtain ⟨c, _, hc⟩ := List.mem_flatMap.1 h
        exact qB_no10 c hc
      · rw [List.mem_singleton] at h
        exact absurd h (by decide)
theorem tailT_no10 : ∀ xs : List Val, validVs xs = true → (10 : UInt8) ∉ tailT xs
  | [], _ => by intro h; cases h
  | x :: xs, h => by
    unfold validVs at h
    rw [List.all_cons, Bool.and_eq_true] at h
    intro hc
    rcases List.mem_append.1 (show (10 : UInt8) ∈ textV x ++ _ from hc) with hc | hc
    · exact textV_no10 x h.1 hc
    · split at hc
      · cases hc
      · rcases List.mem_cons.1 hc with hc | hc
        · exact absurd hc (by decide)
        · exact tailT_no10 xs h.2 hc
theorem textR_no10 {xs : List Val} (h : validRow xs = true) : (10 : UInt8) ∉ textR xs := by
  rw [textR_tail]; exact tailT_no10 xs (valid_split h).2

/-! Lines. -/
def firstL : List UInt8 → List UInt8
  | [] => []
  | c :: r => if c = 10 then [10] else c :: firstL r
def restL : List UInt8 → List UInt8
  | [] => []
  | c :: r => if c = 10 then r else restL r
theorem first_line : ∀ {a : List UInt8} {r : List UInt8}, (10 : UInt8) ∉ a → firstL (a ++ 10 :: r) = a ++ [10] ∧ restL (a ++ 10 :: r) = r
  | [], r, _ => ⟨rfl, rfl⟩
  | c :: a, r, h => by
    have hc : c ≠ 10 := fun e => h (by rw [e]; exact List.mem_cons_self)
    obtain ⟨h1, h2⟩ := first_line (r := r) (fun e => h (List.mem_cons_of_mem c e))
    simp only [List.cons_append, firstL, restL, if_neg hc, h1, h2, and_self]
theorem first_last : ∀ {a : List UInt8}, (10 : UInt8) ∉ a → firstL a = a ∧ restL a = []
  | [], _ => ⟨rfl, rfl⟩
  | c :: a, h => by
    have hc : c ≠ 10 := fun e => h (by rw [e]; exact List.mem_cons_self)
    obtain ⟨h1, h2⟩ := first_last (a := a) (fun e => h (List.mem_cons_of_mem c e))
    simp only [firstL, restL, if_neg hc, h1, h2, and_self]
theorem restL_len : ∀ {t : List UInt8}, t ≠ [] → (restL t).length < t.length
  | [], h => absurd rfl h
  | [c], _ => by unfold restL; split <;> simp [restL]
  | c :: d :: r, _ => by
    unfold restL
    split
    · simp
    · have := restL_len (t := d :: r) (by simp)
      simp only [List.length_cons] at this ⊢
      omega
def linesT (t : List UInt8) : List (List UInt8) := if h : t = [] then [] else firstL t :: linesT (restL t)
termination_by t.length
decreasing_by exact restL_len h
theorem lines_nil : linesT [] = [] := by rw [linesT]; simp
theorem lines_cons {t : List UInt8} (h : t ≠ []) : linesT t = firstL t :: linesT (restL t) := by rw [linesT, dif_neg h]

/-! Reading. -/
open Classical in
noncomputable def readsL : List It → List (List UInt8) → List It × Int × Int
  | b, [] => (b, 0, 0)
  | b, L :: r => if h : ∃ x, L = lineT x ∧ followsB b x = true then readsL (b ++ [h.choose]) r else ([], (b.length : Int), 2)
theorem reads_go {b : List It} {L : List UInt8} {r : List (List UInt8)} {x : It} (h : L = lineT x) (hf : followsB b x = true) : readsL b (L :: r) = readsL (b ++ [x]) r := by
  have hx : ∃ x, L = lineT x ∧ followsB b x = true := ⟨x, h, hf⟩
  have hc := hx.choose_spec
  have e : hx.choose = x := lineT_inj (follows_ok hc.2) (follows_ok hf) (by rw [← hc.1, h])
  rw [readsL, dif_pos hx, e]
theorem reads_stop {b : List It} {L : List UInt8} {r : List (List UInt8)} (h : ∀ x, L = lineT x → followsB b x = false) : readsL b (L :: r) = ([], (b.length : Int), 2) := by
  rw [readsL, dif_neg]
  rintro ⟨x, h1, h2⟩
  rw [h x h1] at h2
  cases h2
theorem valid_follow {b : List It} {x : It} (hb : validBag b = true) (hf : followsB b x = true) : validBag (b ++ [x]) = true := by rw [valid_snoc, hb, hf]; rfl
theorem reads_valid : ∀ {ls : List (List UInt8)} {b : List It}, validBag b = true → validBag (readsL b ls).1 = true
  | [], b, h => h
  | L :: r, b, h => by
    by_cases hx : ∃ x, L = lineT x ∧ followsB b x = true
    · obtain ⟨x, h1, h2⟩ := hx
      rw [reads_go h1 h2]
      exact reads_valid (valid_follow h h2)
    · rw [reads_stop (fun x h1 => by
        cases h2 : followsB b x with
        | false => rfl
        | true => exact absurd ⟨x, h1, h2⟩ hx)]
      exact validBag_iff.2 ⟨Nat.zero_le _, by simp, .nil⟩
def textB (l : List It) : List UInt8 := l.flatMap lineT
theorem line_first {x : It} (h : itOK x = true) (r : List UInt8) : firstL (lineT x ++ r) = lineT x ∧ restL (lineT x ++ r) = r := by
  have hn : (10 : UInt8) ∉ itoa x.2 ++ 32 :: textR x.1 := fun hc => by
    rcases List.mem_append.1 hc with hc | hc
    · exact itoa_no10 _ hc
    · rcases List.mem_cons.1 hc with hc | hc
      · exact absurd hc (by decide)
      · exact textR_no10 (itOK_iff.1 h).1 hc
  have e : lineT x = (itoa x.2 ++ 32 :: textR x.1) ++ [10] := by unfold lineT; simp
  obtain ⟨h1, h2⟩ := first_line (r := r) hn
  rw [e, List.append_assoc]
  exact ⟨h1, h2⟩
theorem reads_text : ∀ (l b : List It), validBag (b ++ l) = true → readsL b (linesT (textB l)) = (b ++ l, 0, 0)
  | [], b, h => by
    rw [show textB [] = [] from rfl, lines_nil, List.append_nil]
    rfl
  | x :: l, b, h => by
    have h1 : validBag (b ++ [x]) = true := by
      cases hq : validBag (b ++ [x]) with
      | true => rfl
      | false =>
        have := valid_stop (l := b ++ x :: l) (i := b.length + 1) (by
          rw [show b ++ x :: l = (b ++ [x]) ++ l by simp, List.take_left' (by simp)]; exact hq)
        rw [h] at this
        cases this
    rw [valid_snoc, Bool.and_eq_true] at h1
    have ht : textB (x :: l) = lineT x ++ textB l := rfl
    obtain ⟨f1, f2⟩ := line_first (follows_ok h1.2) (textB l)
    rw [ht, lines_cons (by have := lineT_ne x; simp [this]), f1, f2, reads_go rfl h1.2, reads_text l (b ++ [x]) (by simpa using h)]
    simp
theorem textB_snoc (l : List It) (x : It) : textB (l ++ [x]) = textB l ++ lineT x := by unfold textB; simp
theorem lineT_len {x : It} (h : itOK x = true) : (lineT x).length ≤ 6460 := by
  rw [itOK_iff] at h
  have h1 := tailT_len (valid_split h.1).2
  have h2 := (valid_split h.1).1
  have h3 : (itoa x.2).length ≤ 21 := Lib.itoa_length_le _ (by have := inN_in h.2; omega) (by have := inN_in h.2; omega)
  unfold lineT
  rw [textR_tail]
  simp only [List.length_append, List.length_cons, List.length_nil]
  omega
end Go.Proofs.YtledgnolmiecfaaGreatDoor
