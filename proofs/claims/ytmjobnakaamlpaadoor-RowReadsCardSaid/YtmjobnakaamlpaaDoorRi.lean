/-
  A row's text, plain: what the reader finds in it, value by value; a value that is read, as a contract.
-/
import Derived.Test.YtmjobnakaamlpaaDoorRh
import Derived.Test.YtmjobnakaamlpaaDoorFlat
namespace Go.Proofs.YtmjobnakaamlpaaDoor
open Go.RowKit Go.Lib
set_option linter.unusedSimpArgs false
set_option linter.unusedVariables false

/-- What stands behind a value: nothing, or a comma. -/
def Tail (r : List UInt8) : Prop := r = [] ∨ ∃ r', r = 44 :: r'
theorem cut_tail {a r : List UInt8} (h : ∀ c ∈ a, c ≠ 44) (hr : Tail r) : (Lib.cut (a ++ r) [44]).1 = a := by
  rcases hr with rfl | ⟨r', rfl⟩
  · rw [List.append_nil]
    have hi : Lib.index a [44] = -1 := by
      refine index_none fun j hj => ?_
      unfold occAt
      cases hd : a.drop j with
      | nil => rfl
      | cons c q =>
        have hc : c ∈ a := List.mem_of_mem_drop (by rw [hd]; simp : c ∈ a.drop j)
        simp only [List.isPrefixOf, Bool.and_true]
        rw [beq_eq_false_iff_ne]
        exact fun e => h c hc e.symm
    unfold Lib.cut
    rw [hi, if_neg (by decide)]
  · have hi : Lib.index (a ++ 44 :: r') [44] = a.length := by
      refine index_first (by simp) ?_ ?_
      · simp [occAt, List.isPrefixOf]
      · intro j hj
        have hd : (a ++ 44 :: r').drop j = a[j] :: (a ++ 44 :: r').drop (j + 1) := by
          rw [List.drop_eq_getElem_cons (by simp; omega), List.getElem_append_left hj]
        unfold occAt
        rw [hd]
        have := h a[j] (List.getElem_mem hj)
        simp only [List.isPrefixOf, Bool.and_true]
        rw [beq_eq_false_iff_ne]
        exact fun e => this e.symm
    unfold Lib.cut
    rw [hi, if_pos (by omega), Int.toNat_natCast, List.take_left]
theorem cut_quote (q : List UInt8) : ∃ q', (Lib.cut (34 :: q) [44]).1 = 34 :: q' := by
  unfold Lib.cut
  split
  · rename_i h
    rcases index_spec (34 :: q) [44] with ⟨e, _⟩ | ⟨i, e, _, ho, _⟩
    · omega
    · rw [e, Int.toNat_natCast]
      cases i with
      | zero => simp [occAt, List.isPrefixOf] at ho
      | succ i => exact ⟨q.take i, rfl⟩
  · exact ⟨q, rfl⟩
theorem itoa_ne {n : Int} (h0 : -1000000000000000000 < n) (h1 : n < 1000000000000000000) : itoa n ≠ [] := fun e => by
  have := atoi_itoa h0 h1
  rw [e] at this
  cases this
theorem itoa_comma (n : Int) : ∀ c ∈ itoa n, c ≠ 44 := fun c hc e => by
  have := itoa_byte n c hc
  subst e
  exact absurd this (by decide)
theorem itoa_tilde {n : Int} (h0 : -1000000000000000000 < n) (h1 : n < 1000000000000000000) (r : List UInt8) : Lib.hasPrefix (itoa n ++ r) [126] = false := by
  have hb := itoa_byte n
  cases h : itoa n with
  | nil => exact absurd h (itoa_ne h0 h1)
  | cons c q =>
    have := hb c (by rw [h]; simp)
    have e1 : (126 : UInt8) ≠ c := fun e => by subst e; exact absurd this (by decide)
    unfold Lib.hasPrefix
    simp [List.isPrefixOf, e1]
theorem quoted_tilde (l r : List UInt8) : Lib.hasPrefix (quoted l ++ r) [126] = false := by
  unfold Lib.hasPrefix quoted
  simp [List.isPrefixOf]
theorem empty_of {s : ByteArray} (h : s.toList.isEmpty = true) : s = ⟨#[]⟩ := by
  rw [ByteArray.toList_eq] at h
  have h2 : s.data.toList = [] := by simpa using h
  cases s with
  | mk d => rw [ByteArray.mk.injEq]; exact Array.toList_inj.1 h2
theorem bs_back (s : ByteArray) : bs s.data.toList = s := by cases s; simp [bs]

theorem value_good (R B : Nat) (x0 x1 : Int) (x2 : ByteArray) (hv : validV x0 x1 x2 = true) (r : List UInt8) (ht : Tail r) (hr : r.length ≤ 50000) (w : World) (h : Rdr w R (textV (x0, x1, x2) ++ r)) (hE : Env B w) (hB : B ≤ R) :
    Calls Tryd.prog 27 #[.pointer (some ⟨R, 0, none⟩)] w (RdPost w R (.tuple #[.agg #[.int .i64 x0, .int .i64 x1, .string x2], .bool true]) r) := by
  have hv' : validP x0 x1 x2 := of_decide_eq_true hv
  have hvl := textV_lenR hv
  have hlen : (textV (x0, x1, x2) ++ r).length ≤ 70000 := by rw [List.length_append]; omega
  rcases hv' with ⟨rfl, rfl, he⟩ | ⟨rfl, he, h1, h2⟩ | ⟨rfl, rfl, h2⟩
  · obtain rfl := empty_of he
    have e : textV ((0 : Int), (0 : Int), (⟨#[]⟩ : ByteArray)) ++ r = [126] ++ r := rfl
    rw [e] at h
    have hy := trim_yes [126] r
    refine value_0 R B _ r 0 0 ⟨#[]⟩ w h hB fun W hW hb => ?_
    have := null_any R _ W hW
    rwa [hy.1, hy.2] at this
  · obtain rfl := empty_of he
    have e : textV ((1 : Int), x1, (⟨#[]⟩ : ByteArray)) ++ r = itoa x1 ++ r := rfl
    rw [e] at h hlen
    have hp := itoa_tilde (n := x1) (by omega) (by omega) r
    refine value_1 R B _ r 1 x1 ⟨#[]⟩ w h hB (fun W hW hb => ?_) (fun W hW hb => ?_)
    · have := null_any R _ W hW
      rwa [hp, trim_no hp] at this
    · exact number_good R B _ hlen x1 r rfl (cut_tail (itoa_comma x1) ht) (wordNum_itoa (by omega) (by omega)) W hW (hE.on hb) hB
  · have e : textV ((2 : Int), (0 : Int), x2) ++ r = quoted x2.data.toList ++ r := rfl
    rw [e] at h hlen
    have hp := quoted_tilde x2.data.toList r
    refine value_2 R B _ r 2 0 x2 w h hB (fun W hW hb => ?_) (fun W hW hb => ?_) (fun W hW hb => ?_)
    · have := null_any R _ W hW
      rwa [hp, trim_no hp] at this
    · refine number_bad R B _ hlen ?_ W hW (hE.on hb) hB
      obtain ⟨q', hq⟩ := cut_quote (x2.data.toList.flatMap qB ++ [34] ++ r)
      have e2 : quoted x2.data.toList ++ r = 34 :: (x2.data.toList.flatMap qB ++ [34] ++ r) := by unfold quoted; simp
      rw [e2, hq]
      exact wordNum_quote q'
    · have hl0 : x2.data.toList.length = x2.size := by simp
      have hl : x2.data.toList.length ≤ 200 := by omega
      have := quoted_good R x2.data.toList r hl (by omega) W hW
      rwa [bs_back] at this
/-- The texts of values, behind one another. -/
def tailT : List Val → List UInt8
  | [] => []
  | x :: r => textV x ++ (if r = [] then [] else 44 :: tailT r)
def restT (xs : List Val) (i : Nat) : List UInt8 := if i = xs.length ∨ i = 0 then tailT (xs.drop i) else 44 :: tailT (xs.drop i)
theorem tailT_at {xs : List Val} {i : Nat} (h : i < xs.length) : tailT (xs.drop i) = textV (xs[i]?.getD v0) ++ (if i + 1 = xs.length then [] else 44 :: tailT (xs.drop (i + 1))) := by
  rw [List.drop_eq_getElem_cons h, List.getElem?_eq_getElem h]
  show textV xs[i] ++ (if xs.drop (i + 1) = [] then [] else 44 :: tailT (xs.drop (i + 1))) = _
  by_cases he : i + 1 = xs.length
  · rw [if_pos he, if_pos (by rw [he, List.drop_length])]; rfl
  · rw [if_neg he, if_neg (by
      intro e
      have := congrArg List.length e
      rw [List.length_drop] at this
      simp only [List.length_nil] at this
      omega)]
    rfl
theorem text_rest (xs : List Val) : ∀ i, i ≤ xs.length → textN xs i ++ restT xs i = tailT xs
  | 0, _ => by unfold restT; rw [if_pos (.inr rfl)]; rfl
  | i + 1, hi => by
    have ih := text_rest xs i (by omega)
    rw [← ih]
    show textN xs i ++ sepT i ++ textV (xs[i]?.getD v0) ++ restT xs (i + 1) = _
    have ht := tailT_at (xs := xs) (i := i) (by omega)
    have h1 : restT xs (i + 1) = if i + 1 = xs.length then [] else 44 :: tailT (xs.drop (i + 1)) := by
      unfold restT
      by_cases he : i + 1 = xs.length
      · rw [if_pos (.inl he), if_pos he, he, List.drop_length]; rfl
      · rw [if_neg (by omega), if_neg he]
    have h2 : restT xs i = sepT i ++ tailT (xs.drop i) := by
      unfold restT sepT
      by_cases h0 : i = 0
      · rw [if_pos (.inr h0), if_pos h0]; rfl
      · rw [if_neg (by omega), if_neg h0]; rfl
    rw [h1, h2, ht]
    simp [List.append_assoc]
theorem textR_tail (xs : List Val) : textR xs = tailT xs := by
  have := text_rest xs xs.length (Nat.le_refl _)
  unfold restT at this
  rw [if_pos (.inl rfl), List.drop_length] at this
  simpa [tailT, textR] using this
theorem tailT_len {xs : List Val} (hv : validVs xs = true) : (tailT xs).length ≤ 803 * xs.length := by
  induction xs with
  | nil => exact Nat.zero_le _
  | cons x r ih =>
    unfold validVs at hv ih
    rw [List.all_cons, Bool.and_eq_true] at hv
    have h1 := textV_lenR (x0 := x.1) (x1 := x.2.1) (x2 := x.2.2) hv.1
    have h2 := ih hv.2
    show (textV x ++ (if r = [] then [] else 44 :: tailT r)).length ≤ _
    rw [List.length_append]
    have h1' : (textV x).length ≤ 802 := h1
    split
    · simp only [List.length_nil, List.length_cons]; omega
    · simp only [List.length_cons]; omega
theorem textV_ne {x0 x1 : Int} {x2 : ByteArray} (hv : validV x0 x1 x2 = true) : textV (x0, x1, x2) ≠ [] := by
  have hv' : validP x0 x1 x2 := of_decide_eq_true hv
  rcases hv' with ⟨rfl, rfl, he⟩ | ⟨rfl, he, h1, h2⟩ | ⟨rfl, rfl, h2⟩
  · exact (by decide : ([126] : List UInt8) ≠ [])
  · exact itoa_ne (n := x1) (by omega) (by omega)
  · exact fun e => by
      have : quoted x2.data.toList = [] := e
      unfold quoted at this
      cases this
end Go.Proofs.YtmjobnakaamlpaaDoor
