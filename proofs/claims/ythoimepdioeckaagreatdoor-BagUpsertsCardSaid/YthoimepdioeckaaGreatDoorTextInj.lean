/-
  Different valid rows have different texts: plain lists, no program.
-/
import Derived.Test.YthoimepdioeckaaGreatDoorText
namespace Go.Proofs.YthoimepdioeckaaGreatDoor
open Go.RowKit Go.Lib

/-! ### The decimal numeral read back -/
def undec (l : List UInt8) : Nat := l.foldl (fun n c => n * 10 + (c.toNat - 48)) 0
theorem undec_snoc (l : List UInt8) (c : UInt8) : undec (l ++ [c]) = undec l * 10 + (c.toNat - 48) := by unfold undec; rw [List.foldl_append]; rfl
theorem digit_nat {k : Nat} (h : k < 10) : (UInt8.ofNat (48 + k)).toNat = 48 + k := by
  rw [UInt8.toNat_ofNat']; omega
theorem undec_dec (u : Nat) : undec (decDigits u) = u := by
  induction u using Nat.strongRecOn with
  | ind u ih =>
    rw [decDigits]
    by_cases h : u < 10
    · rw [dif_pos h]; unfold undec; simp only [List.foldl_cons, List.foldl_nil]; rw [digit_nat h]; omega
    · rw [dif_neg h, undec_snoc, ih (u / 10) (by omega), digit_nat (by omega)]; omega
theorem dec_digit (u : Nat) : ∀ c ∈ decDigits u, 48 ≤ c.toNat ∧ c.toNat ≤ 57 := by
  induction u using Nat.strongRecOn with
  | ind u ih =>
    rw [decDigits]
    by_cases h : u < 10
    · rw [dif_pos h]; intro c hc; rw [List.mem_singleton] at hc; subst hc; rw [digit_nat h]; omega
    · rw [dif_neg h]; intro c hc
      rcases List.mem_append.1 hc with hc | hc
      · exact ih (u / 10) (by omega) c hc
      · rw [List.mem_singleton] at hc; subst hc; rw [digit_nat (by omega)]; omega
theorem dec_ne (u : Nat) : decDigits u ≠ [] := by
  rw [decDigits]; by_cases h : u < 10
  · rw [dif_pos h]; simp
  · rw [dif_neg h]; simp
theorem dec_inj {u v : Nat} (h : decDigits u = decDigits v) : u = v := by rw [← undec_dec u, h, undec_dec]
/-- The first byte of an integer's text: a minus or a digit. -/
def isNum (c : UInt8) : Bool := c.toNat == 45 || decide (48 ≤ c.toNat ∧ c.toNat ≤ 57)
theorem itoa_num (n : Int) : ∀ c ∈ itoa n, isNum c = true := by
  unfold itoa isNum
  intro c hc
  split at hc
  · rcases List.mem_cons.1 hc with rfl | hc
    · rfl
    · have := dec_digit _ c hc; simp [this]
  · have := dec_digit _ c hc; simp [this]
theorem itoa_ne (n : Int) : itoa n ≠ [] := by
  unfold itoa; split
  · simp
  · exact dec_ne _
theorem itoa_inj {n m : Int} (h : itoa n = itoa m) : n = m := by
  unfold itoa at h
  have key : ∀ u v, (45 : UInt8) :: decDigits u ≠ decDigits v := fun u v e => by
    have := dec_digit v 45 (by rw [← e]; simp)
    exact absurd this.1 (by decide)
  by_cases hn : n < 0 <;> by_cases hm : m < 0
  · rw [if_pos hn, if_pos hm] at h
    have := dec_inj (List.cons.inj h).2; omega
  · rw [if_pos hn, if_neg hm] at h; exact absurd h (key _ _)
  · rw [if_neg hn, if_pos hm] at h; exact absurd h.symm (key _ _)
  · rw [if_neg hn, if_neg hm] at h
    have := dec_inj h; omega

/-! ### Two words up to a byte that neither has -/
theorem split_at {p : UInt8 → Bool} : ∀ {a b r s : List UInt8}, (∀ c ∈ a, p c = true) → (∀ c ∈ b, p c = true) → (∀ c l, r = c :: l → p c = false) → (∀ c l, s = c :: l → p c = false) → a ++ r = b ++ s → a = b ∧ r = s
  | [], [], r, s, _, _, _, _, h => ⟨rfl, h⟩
  | [], y :: b, r, s, _, hb, hr, _, h => by
    have := hr y (b ++ s) h
    rw [hb y (by simp)] at this; exact absurd this (by decide)
  | x :: a, [], r, s, ha, _, _, hs, h => by
    have := hs x (a ++ r) h.symm
    rw [ha x (by simp)] at this; exact absurd this (by decide)
  | x :: a, y :: b, r, s, ha, hb, hr, hs, h => by
    simp only [List.cons_append, List.cons.injEq] at h
    obtain ⟨rfl, h⟩ := h
    obtain ⟨rfl, e⟩ := split_at (fun c hc => ha c (by simp [hc])) (fun c hc => hb c (by simp [hc])) hr hs h
    exact ⟨rfl, e⟩

/-! ### Quoted bytes read back -/
def unhex (c : UInt8) : Nat := if c.toNat < 58 then c.toNat - 48 else c.toNat - 87
def unq : List UInt8 → Option (UInt8 × List UInt8)
  | [] => none
  | c :: l =>
    if c.toNat = 92 then
      match l with
      | d :: l => if d.toNat = 110 then some (10, l) else if d.toNat = 120 then
          (match l with
           | h :: k :: l => some (UInt8.ofNat (unhex h * 16 + unhex k), l)
           | _ => none)
        else some (d, l)
      | [] => none
    else some (c, l)
theorem hexd_back {k : Nat} (h : k < 16) : unhex (UInt8.ofNat (hexd k)) = k := by
  have : ∀ k : Fin 16, unhex (UInt8.ofNat (hexd k.val)) = k.val := by decide
  exact this ⟨k, h⟩
theorem unq_qB (c : UInt8) (r : List UInt8) : unq (qB c ++ r) = some (c, r) := by
  have hc : c.toNat < 256 := c.toNat_lt
  unfold qB
  by_cases h1 : c.toNat = 34 ∨ c.toNat = 92
  · rw [if_pos h1]
    show unq (92 :: c :: r) = _
    unfold unq
    dsimp only
    rw [if_pos (by decide), if_neg (by omega), if_neg (by omega)]
  · rw [if_neg h1]
    by_cases h2 : c.toNat = 10
    · rw [if_pos h2]
      have : c = 10 := UInt8.toNat_inj.1 h2
      subst this
      rfl
    · rw [if_neg h2]
      by_cases h3 : c.toNat < 32 ∨ 126 < c.toNat
      · rw [if_pos h3]
        show unq (92 :: 120 :: UInt8.ofNat (hexd (c.toNat / 16)) :: UInt8.ofNat (hexd (c.toNat % 16)) :: r) = _
        unfold unq
        dsimp only
        rw [if_pos (by decide), if_neg (by decide), if_pos (by decide), hexd_back (by omega), hexd_back (by omega), show c.toNat / 16 * 16 + c.toNat % 16 = c.toNat by omega, UInt8.ofNat_toNat]
      · rw [if_neg h3]
        show unq (c :: r) = _
        unfold unq
        dsimp only
        rw [if_neg (by omega)]
theorem qB_head (c : UInt8) : ∃ d l, qB c = d :: l ∧ d.toNat ≠ 34 := by
  unfold qB
  by_cases h1 : c.toNat = 34 ∨ c.toNat = 92
  · rw [if_pos h1]; exact ⟨92, _, rfl, by decide⟩
  · rw [if_neg h1]
    by_cases h2 : c.toNat = 10
    · rw [if_pos h2]; exact ⟨92, _, rfl, by decide⟩
    · rw [if_neg h2]
      by_cases h3 : c.toNat < 32 ∨ 126 < c.toNat
      · rw [if_pos h3]; exact ⟨92, _, rfl, by decide⟩
      · rw [if_neg h3]; exact ⟨c, _, rfl, by omega⟩
theorem flat_inj : ∀ {a b r s : List UInt8}, a.flatMap qB ++ 34 :: r = b.flatMap qB ++ 34 :: s → a = b ∧ r = s
  | [], [], r, s, h => ⟨rfl, by simpa using h⟩
  | [], y :: b, r, s, h => by
    obtain ⟨d, l, e, hd⟩ := qB_head y
    rw [List.flatMap_cons, e] at h
    simp only [List.flatMap_nil, List.nil_append, List.cons_append, List.cons.injEq] at h
    exact absurd (by rw [← h.1]; rfl) hd
  | x :: a, [], r, s, h => by
    obtain ⟨d, l, e, hd⟩ := qB_head x
    rw [List.flatMap_cons, e] at h
    simp only [List.flatMap_nil, List.nil_append, List.cons_append, List.cons.injEq] at h
    exact absurd (by rw [h.1]; rfl) hd
  | x :: a, y :: b, r, s, h => by
    rw [List.flatMap_cons, List.flatMap_cons, List.append_assoc, List.append_assoc] at h
    have e := congrArg unq h
    rw [unq_qB, unq_qB] at e
    simp only [Option.some.injEq, Prod.mk.injEq] at e
    obtain ⟨rfl, e⟩ := e
    obtain ⟨rfl, e2⟩ := flat_inj e
    exact ⟨rfl, e2⟩

/-! ### Values and rows -/
def Ends (r : List UInt8) : Prop := ∀ c l, r = c :: l → c.toNat = 44
theorem kinds {x : Val} (h : validV x.1 x.2.1 x.2.2 = true) : (x.1 = 0 ∧ x.2.1 = 0 ∧ x.2.2.toList.isEmpty = true) ∨ (x.1 = 1 ∧ x.2.2.toList.isEmpty = true) ∨ (x.1 = 2 ∧ x.2.1 = 0) := by
  have := of_decide_eq_true h
  unfold validP at this
  rcases this with ⟨a, b, c⟩ | ⟨a, b, _, _⟩ | ⟨a, b, _⟩
  · exact .inl ⟨a, b, c⟩
  · exact .inr (.inl ⟨a, b⟩)
  · exact .inr (.inr ⟨a, b⟩)
theorem emptyEq {s t : ByteArray} (hs : s.toList.isEmpty = true) (ht : t.toList.isEmpty = true) : s = t := by
  rw [List.isEmpty_iff] at hs ht
  have h := hs.trans ht.symm
  rw [ByteArray.toList_eq, ByteArray.toList_eq] at h
  cases s; cases t
  simpa using h
theorem data_eq {s t : ByteArray} (h : s.data.toList = t.data.toList) : s = t := by
  cases s; cases t; simpa using h
theorem num_ends {r : List UInt8} (h : Ends r) : ∀ c l, r = c :: l → isNum c = false := fun c l e => by
  have := h c l e
  unfold isNum; simp [this]
theorem head_num {n : Int} {r s : List UInt8} {c : UInt8} (h : itoa n ++ r = c :: s) : isNum c = true := by
  match hi : itoa n with
  | [] => exact absurd hi (itoa_ne n)
  | d :: l =>
    rw [hi] at h
    simp only [List.cons_append, List.cons.injEq] at h
    rw [← h.1]
    exact itoa_num n d (by rw [hi]; simp)
theorem textV_inj {x y : Val} {r s : List UInt8} (hx : validV x.1 x.2.1 x.2.2 = true) (hy : validV y.1 y.2.1 y.2.2 = true) (hr : Ends r) (hs : Ends s) (h : textV x ++ r = textV y ++ s) : x = y ∧ r = s := by
  obtain ⟨k, n, b⟩ := x
  obtain ⟨j, m, d⟩ := y
  unfold textV at h
  dsimp only at h hx hy ⊢
  rcases kinds (x := (k, n, b)) hx with ⟨rfl, rfl, hb⟩ | ⟨rfl, hb⟩ | ⟨rfl, rfl⟩ <;> rcases kinds (x := (j, m, d)) hy with ⟨rfl, rfl, hd⟩ | ⟨rfl, hd⟩ | ⟨rfl, rfl⟩
  · simp only [Int.reduceEq, if_false, List.cons_append, List.nil_append, List.cons.injEq, true_and] at h
    dsimp only at hb hd
    rw [emptyEq hb hd]; exact ⟨rfl, h⟩
  · simp only [Int.reduceEq, if_false, if_true, List.cons_append, List.nil_append] at h
    exact absurd (head_num h.symm) (by decide)
  · simp only [Int.reduceEq, if_false, if_true, List.cons_append, List.nil_append, quoted, List.cons.injEq] at h
    exact absurd h.1 (by decide)
  · simp only [Int.reduceEq, if_false, if_true, List.cons_append, List.nil_append] at h
    exact absurd (head_num h) (by decide)
  · simp only [if_true] at h
    obtain ⟨e1, e2⟩ := split_at (itoa_num n) (itoa_num m) (num_ends hr) (num_ends hs) h
    dsimp only at hb hd
    rw [itoa_inj e1, emptyEq hb hd]; exact ⟨rfl, e2⟩
  · simp only [Int.reduceEq, if_false, if_true, List.cons_append, quoted] at h
    exact absurd (head_num h) (by decide)
  · simp only [Int.reduceEq, if_false, if_true, List.cons_append, List.nil_append, quoted, List.cons.injEq] at h
    exact absurd h.1 (by decide)
  · simp only [Int.reduceEq, if_false, if_true, List.cons_append, quoted] at h
    exact absurd (head_num h.symm) (by decide)
  · simp only [Int.reduceEq, if_false, if_true, List.cons_append, quoted, List.cons.injEq, true_and, List.append_assoc, List.nil_append] at h
    obtain ⟨e1, e2⟩ := flat_inj h
    rw [data_eq e1]; exact ⟨rfl, e2⟩

/-- A row's text, by its values from the front. -/
def rowT : List Val → List UInt8
  | [] => []
  | [x] => textV x
  | x :: y :: l => textV x ++ 44 :: rowT (y :: l)
theorem textV_ne (x : Val) : textV x ≠ [] := by
  unfold textV
  split
  · exact itoa_ne _
  · split
    · unfold quoted; simp
    · simp
theorem ends_nil : Ends [] := fun c l e => by cases e
theorem ends_comma (l : List UInt8) : Ends (44 :: l) := fun c m e => by rw [← (List.cons.inj e).1]; rfl
theorem rowT_inj : ∀ {xs ys : List Val}, validVs xs = true → validVs ys = true → rowT xs = rowT ys → xs = ys
  | [], [], _, _, _ => rfl
  | [], [y], _, _, h => absurd h.symm (textV_ne y)
  | [], y :: z :: l, _, _, h => by
    unfold rowT at h
    exact absurd h.symm (by simp)
  | [x], [], _, _, h => absurd h (textV_ne x)
  | x :: z :: l, [], _, _, h => by
    unfold rowT at h
    exact absurd h (by simp)
  | [x], [y], hx, hy, h => by
    simp only [validVs, List.all_cons, List.all_nil, Bool.and_true] at hx hy
    have h' : textV x ++ [] = textV y ++ [] := by rw [List.append_nil, List.append_nil]; exact h
    rw [(textV_inj hx hy ends_nil ends_nil h').1]
  | [x], y :: z :: m, hx, hy, h => by
    simp only [validVs, List.all_cons, List.all_nil, Bool.and_true, Bool.and_eq_true] at hx hy
    have h' : textV x ++ [] = textV y ++ 44 :: rowT (z :: m) := by rw [List.append_nil]; exact h
    exact absurd (textV_inj hx hy.1 ends_nil (ends_comma _) h').2 (by simp)
  | x :: w :: l, [y], hx, hy, h => by
    simp only [validVs, List.all_cons, List.all_nil, Bool.and_true, Bool.and_eq_true] at hx hy
    have h' : textV x ++ 44 :: rowT (w :: l) = textV y ++ [] := by rw [List.append_nil]; exact h
    exact absurd (textV_inj hx.1 hy (ends_comma _) ends_nil h').2 (by simp)
  | x :: w :: l, y :: z :: m, hx, hy, h => by
    have hx2 : validV x.1 x.2.1 x.2.2 = true ∧ validVs (w :: l) = true := by
      have := hx; unfold validVs at this; rw [List.all_cons, Bool.and_eq_true] at this; exact this
    have hy2 : validV y.1 y.2.1 y.2.2 = true ∧ validVs (z :: m) = true := by
      have := hy; unfold validVs at this; rw [List.all_cons, Bool.and_eq_true] at this; exact this
    have h' : textV x ++ 44 :: rowT (w :: l) = textV y ++ 44 :: rowT (z :: m) := h
    obtain ⟨rfl, e⟩ := textV_inj hx2.1 hy2.1 (ends_comma _) (ends_comma _) h'
    rw [rowT_inj hx2.2 hy2.2 (List.cons.inj e).2]
theorem rowT_snoc : ∀ (xs : List Val) (x : Val), rowT (xs ++ [x]) = rowT xs ++ sepT xs.length ++ textV x
  | [], x => rfl
  | [y], x => by simp [rowT, sepT]
  | y :: z :: l, x => by
    have ih := rowT_snoc (z :: l) x
    show textV y ++ 44 :: rowT ((z :: l) ++ [x]) = _
    rw [ih]
    simp [rowT, sepT]
theorem textN_rowT (xs : List Val) : ∀ i, i ≤ xs.length → textN xs i = rowT (xs.take i)
  | 0, _ => rfl
  | i + 1, h => by
    rw [textN, textN_rowT xs i (by omega), List.take_succ_eq_append_getElem (by omega), rowT_snoc, List.length_take, Nat.min_eq_left (by omega), List.getElem?_eq_getElem (by omega)]
    rfl
theorem textR_rowT (xs : List Val) : textR xs = rowT xs := by unfold textR; rw [textN_rowT xs _ (Nat.le_refl _), List.take_length]
theorem text_inj {xs ys : List Val} (hx : validRow xs = true) (hy : validRow ys = true) (h : textOf xs = textOf ys) : xs = ys := by
  unfold textOf at h
  rw [if_pos hx, if_pos hy, textR_rowT, textR_rowT] at h
  unfold validRow at hx hy
  rw [Bool.and_eq_true] at hx hy
  exact rowT_inj hx.2 hy.2 h
#print axioms text_inj
end Go.Proofs.YthoimepdioeckaaGreatDoor
