/-
  A schema's text, plain: what is written, how it is cut again, in both packages' ways.
-/
import Derived.Test.YtlhhkiglpehnfaaDoorSchema
import Derived.Lib.Join
import Derived.Lib.IndexMore
namespace Go.Proofs.YtlhhkiglpehnfaaDoor
open Go.Lib
set_option linter.unusedSimpArgs false

def kindT (k : Int) : List UInt8 := if k = 1 then [105, 110, 116] else if k = 2 then [116, 101, 120, 116] else []
def colT (c : Col) : List UInt8 := c.1.data.toList ++ 32 :: kindT c.2
def schT (l : List Col) : List UInt8 := join (l.map colT) [44, 32]
def fmtS (l : List Col) : List UInt8 := if schemaOK l = true then schT l else []
def meantZ (x : List UInt8) : Int := if x = [105, 110, 116] then 1 else if x = [116, 101, 120, 116] then 2 else 0
def colOf (p : List UInt8) : Col := (⟨(cut p [32]).1.toArray⟩, meantZ (cut p [32]).2.1)
def pieces : Nat → List UInt8 → List (List UInt8)
  | 0, s => [s]
  | n + 1, s => if 0 ≤ index s [44, 32] then s.take (index s [44, 32]).toNat :: pieces n (s.drop ((index s [44, 32]).toNat + 2)) else [s]
/-- A column that may stand in a schema. -/
def fine (c : Col) : Prop := nameOK c.1 = true ∧ (c.2 = 1 ∨ c.2 = 2)

theorem fine_byte {c : Col} (h : fine c) : ∀ b ∈ c.1.data.toList, b ≠ 32 ∧ b ≠ 44 := fun b hb => by
  obtain ⟨i, hi, e⟩ := List.mem_iff_getElem.1 hb
  have h1 := (of_decide_eq_true h.1).2.2 i (by simpa using hi)
  have e2 : c.1[i]'(by simpa using hi) = b := by rw [← e]; rfl
  rw [e2] at h1
  unfold cOK smallP tailC at h1
  rw [decide_eq_true_eq] at h1
  constructor
  · intro e; subst e; simp at h1
  · intro e; subst e; simp at h1
theorem fine_len {c : Col} (h : fine c) : 1 ≤ c.1.data.toList.length ∧ c.1.data.toList.length ≤ 16 := by
  have h1 := of_decide_eq_true h.1
  have : c.1.data.toList.length = c.1.size := by simp
  omega
theorem kind_comma (k : Int) : ∀ b ∈ kindT k, b ≠ 44 := by
  unfold kindT
  split
  · decide
  split
  · decide
  · exact fun b h => by cases h
theorem col_comma {c : Col} (h : fine c) : ∀ b ∈ colT c, b ≠ 44 := fun b hb => by
  unfold colT at hb
  rcases List.mem_append.1 hb with h1 | h1
  · exact (fine_byte h b h1).2
  rcases List.mem_cons.1 h1 with rfl | h1
  · decide
  · exact kind_comma _ b h1
theorem cut_col {a r : List UInt8} (h : ∀ c ∈ a, c ≠ 32) : cut (a ++ 32 :: r) [32] = (a, r, true) := by
  have hi : index (a ++ 32 :: r) [32] = a.length := by
    refine index_first (by simp) ?_ ?_
    · simp [occAt, List.isPrefixOf]
    · intro j hj
      have hd : (a ++ 32 :: r).drop j = a[j] :: (a ++ 32 :: r).drop (j + 1) := by
        rw [List.drop_eq_getElem_cons (by simp; omega), List.getElem_append_left hj]
      unfold occAt
      rw [hd]
      have := h a[j] (List.getElem_mem hj)
      simp only [List.isPrefixOf, Bool.and_true]
      rw [beq_eq_false_iff_ne]
      exact fun e => this e.symm
  unfold cut
  rw [hi, if_pos (by omega), Int.toNat_natCast, List.take_left, show a.length + [(32 : UInt8)].length = a.length + 1 from rfl, List.drop_append]
  simp
theorem meant_kind {k : Int} (h : k = 1 ∨ k = 2) : meantZ (kindT k) = k := by
  rcases h with rfl | rfl <;> decide
theorem kind_meant {x : List UInt8} (h : meantZ x = 1 ∨ meantZ x = 2) : kindT (meantZ x) = x := by
  unfold meantZ at h ⊢
  split
  · rename_i e; rw [e]; decide
  · rename_i n1
    rw [if_neg n1] at h
    split
    · rename_i e; rw [e]; decide
    · rename_i n2; rw [if_neg n2] at h; omega
theorem bytes_back (b : ByteArray) : (⟨b.data.toList.toArray⟩ : ByteArray) = b := by cases b; simp
theorem col_back {c : Col} (h : fine c) : colOf (colT c) = c := by
  unfold colOf colT
  rw [cut_col fun b hb => (fine_byte h b hb).1, meant_kind h.2, bytes_back]
theorem piece_back {p : List UInt8} (h : fine (colOf p)) : colT (colOf p) = p := by
  have h2 := h.2
  unfold colOf at h2
  dsimp only at h2
  by_cases hi : 0 ≤ index p [32]
  · rcases index_spec p [32] with ⟨e, _⟩ | ⟨i, e, hle, ho, _⟩
    · omega
    · have hc : cut p [32] = (p.take i, p.drop (i + 1), true) := by
        unfold cut; rw [if_pos hi, e, Int.toNat_natCast]; rfl
      unfold colT colOf
      rw [hc] at h2 ⊢
      dsimp only at h2 ⊢
      rw [kind_meant h2]
      unfold occAt at ho
      cases hd : p.drop i with
      | nil => rw [hd] at ho; simp at ho
      | cons b r =>
        rw [hd] at ho
        simp only [List.isPrefixOf, Bool.and_true, beq_iff_eq] at ho
        subst ho
        have hr : p.drop (i + 1) = r := by rw [← List.tail_drop, hd]; rfl
        rw [hr, ← hd]
        exact List.take_append_drop i p
  · have hc : cut p [32] = (p, [], false) := by unfold cut; rw [if_neg hi]
    rw [hc] at h2
    exact absurd (show meantZ [] = 1 ∨ meantZ [] = 2 from h2) (by decide)
theorem pieces_ne (n : Nat) (s : List UInt8) : ∃ y r, pieces n s = y :: r := by
  cases n with
  | zero => exact ⟨_, _, rfl⟩
  | succ n => unfold pieces; split <;> exact ⟨_, _, rfl⟩
theorem joinTail_cons (sep y : List UInt8) (r : List (List UInt8)) : joinTail sep (y :: r) = sep ++ join (y :: r) sep := by
  rw [join_cons]; simp [joinTail, List.append_assoc]
theorem join_pieces : ∀ (n : Nat) (s : List UInt8), join (pieces n s) [44, 32] = s
  | 0, s => join_one _ _
  | n + 1, s => by
    unfold pieces
    split
    · rename_i hi
      have ih := join_pieces n (s.drop ((index s [44, 32]).toNat + 2))
      obtain ⟨y, r, hy⟩ := pieces_ne n (s.drop ((index s [44, 32]).toNat + 2))
      rw [hy] at ih ⊢
      rw [join_cons, joinTail_cons, ih]
      rcases index_spec s [44, 32] with ⟨e, _⟩ | ⟨i, e, hle, ho, _⟩
      · omega
      · rw [e, Int.toNat_natCast]
        unfold occAt at ho
        match hd : s.drop i, ho with
        | b :: c :: q, ho =>
          simp only [List.isPrefixOf, Bool.and_true, Bool.and_eq_true, beq_iff_eq] at ho
          obtain ⟨rfl, rfl⟩ := ho
          have hr : s.drop (i + 2) = q := by rw [show i + 2 = i + 1 + 1 from rfl, ← List.tail_drop, ← List.tail_drop, hd]; rfl
          rw [hr]
          calc s.take i ++ ([44, 32] ++ q) = s.take i ++ s.drop i := by rw [hd]; rfl
            _ = s := List.take_append_drop i s
        | [b], ho => simp [List.isPrefixOf] at ho
        | [], ho => simp at ho
    · exact join_one _ _
theorem index_comma {a r : List UInt8} (h : ∀ c ∈ a, c ≠ 44) : index (a ++ 44 :: 32 :: r) [44, 32] = a.length := by
  refine index_first (by simp) ?_ ?_
  · simp [occAt, List.isPrefixOf]
  · intro j hj
    have hd : (a ++ 44 :: 32 :: r).drop j = a[j] :: (a ++ 44 :: 32 :: r).drop (j + 1) := by
      rw [List.drop_eq_getElem_cons (by simp; omega), List.getElem_append_left hj]
    unfold occAt
    rw [hd]
    have := h a[j] (List.getElem_mem hj)
    simp only [List.isPrefixOf]
    rw [show ((44 : UInt8) == a[j]) = false from by rw [beq_eq_false_iff_ne]; exact fun e => this e.symm]
    rfl
theorem index_nocomma {a : List UInt8} (h : ∀ c ∈ a, c ≠ 44) : index a [44, 32] = -1 := by
  refine index_none fun j hj => ?_
  unfold occAt
  cases hd : a.drop j with
  | nil => rfl
  | cons c r =>
    have hc : c ∈ a := List.mem_of_mem_drop (by rw [hd]; simp : c ∈ a.drop j)
    simp only [List.isPrefixOf]
    rw [show ((44 : UInt8) == c) = false from by rw [beq_eq_false_iff_ne]; exact fun e => h c hc e.symm]
    rfl
theorem pieces_join : ∀ (xs : List (List UInt8)) (n : Nat), (∀ x ∈ xs, ∀ c ∈ x, c ≠ 44) → xs ≠ [] → xs.length ≤ n + 1 → pieces n (join xs [44, 32]) = xs
  | [], _, _, h, _ => absurd rfl h
  | [x], n, h, _, _ => by
    rw [join_one]
    cases n with
    | zero => rfl
    | succ n => unfold pieces; rw [index_nocomma (h x (by simp)), if_neg (by decide)]
  | x :: y :: r, n, h, _, hn => by
    rw [join_cons, joinTail_cons]
    match n, hn with
    | n + 1, hn =>
      have ih := pieces_join (y :: r) n (fun z hz => h z (by simp only [List.mem_cons] at hz ⊢; exact .inr hz)) (by simp) (by simp only [List.length_cons] at hn ⊢; omega)
      have hi : index (x ++ ([44, 32] ++ join (y :: r) [44, 32])) [44, 32] = x.length := index_comma (h x (by simp))
      unfold pieces
      rw [hi, if_pos (by omega), Int.toNat_natCast, List.take_left, List.drop_append, List.drop_eq_nil_of_le (by omega), show x.length + 2 - x.length = 2 by omega, List.nil_append]
      show _ :: pieces n (join (y :: r) [44, 32]) = _
      rw [ih]
theorem fine_of {l : List Col} (h : schemaOK l = true) : ∀ c ∈ l, fine c := fun c hc => by
  obtain ⟨i, hi, e⟩ := List.mem_iff_getElem.1 hc
  have := ((schemaOK_is h).2.2 i hi).1
  unfold fineAt colAt at this
  rw [List.getElem?_eq_getElem hi, Option.getD_some, e] at this
  exact this
/-- A text that is written of a schema. -/
def isS (s : List UInt8) (l : List Col) : Prop := schemaOK l = true ∧ schT l = s
theorem prog_good {s : List UInt8} {l : List Col} (h : isS s l) (n : Nat) (hn : l.length ≤ n + 1) : (pieces n s).map colOf = l := by
  have hf := fine_of h.1
  have hp := schemaOK_is h.1
  rw [← h.2]
  unfold schT
  rw [pieces_join _ n (fun x hx => by
    obtain ⟨c, hc, rfl⟩ := List.mem_map.1 hx
    exact col_comma (hf c hc)) (by
    intro e
    have := congrArg List.length e
    simp at this
    have := hp.1
    simp_all) (by rw [List.length_map]; exact hn), List.map_map]
  calc l.map (colOf ∘ colT) = l.map id := List.map_congr_left fun c hc => col_back (hf c hc)
    _ = l := List.map_id l
theorem prog_bad {s : List UInt8} (h : ∀ l, ¬ isS s l) (n : Nat) : schemaOK ((pieces n s).map colOf) = false := by
  cases hok : schemaOK ((pieces n s).map colOf) with
  | false => rfl
  | true =>
    refine absurd ⟨hok, ?_⟩ (h ((pieces n s).map colOf))
    have hf := fine_of hok
    unfold schT
    rw [List.map_map]
    have : (pieces n s).map (colT ∘ colOf) = pieces n s := by
      calc (pieces n s).map (colT ∘ colOf) = (pieces n s).map id := List.map_congr_left fun p hp => piece_back (hf _ (List.mem_map_of_mem hp))
        _ = _ := List.map_id _
    rw [this]
    exact join_pieces n s

def flushD (cols : List Col) (w : List UInt8) : List Col :=
  if 4 < w.length ∧ w.drop (w.length - 4) = [32, 105, 110, 116] then cols ++ [(⟨(w.take (w.length - 4)).toArray⟩, 1)]
  else if 5 < w.length ∧ w.drop (w.length - 5) = [32, 116, 101, 120, 116] then cols ++ [(⟨(w.take (w.length - 5)).toArray⟩, 2)] else cols
def stepD (st : List Col × List UInt8) (c : UInt8) : List Col × List UInt8 :=
  if c = 44 then (flushD st.1 st.2, []) else if c ≠ 32 ∨ st.2 ≠ [] then (st.1, st.2 ++ [c]) else st
def scanD (s : List UInt8) : List Col × List UInt8 := s.foldl stepD ([], [])
def docCols (s : List UInt8) : List Col := flushD (scanD s).1 (scanD s).2
theorem scanD_snoc (s : List UInt8) (c : UInt8) : scanD (s ++ [c]) = stepD (scanD s) c := by simp [scanD]
theorem scan_more (cols : List Col) : ∀ (x w : List UInt8), w ≠ [] → (∀ c ∈ x, c ≠ 44) → x.foldl stepD (cols, w) = (cols, w ++ x)
  | [], w, _, _ => by simp
  | c :: x, w, hw, h => by
    rw [List.foldl_cons, stepD, if_neg (h c (by simp)), if_pos (.inr hw), scan_more cols x (w ++ [c]) (by simp) (fun d hd => h d (by simp [hd]))]
    simp
theorem scan_col (cols : List Col) {c : Col} (h : fine c) : (colT c).foldl stepD (cols, []) = (cols, colT c) := by
  have hl := (fine_len h).1
  have hb := col_comma h
  have hn := fine_byte h
  unfold colT at hb ⊢
  match hc : c.1.data.toList with
  | [] => rw [hc] at hl; simp at hl
  | b :: r =>
    rw [hc] at hb hn
    rw [List.cons_append, List.foldl_cons, stepD, if_neg (hb b (by simp)), if_pos (.inl (hn b (by simp)).1), scan_more _ _ _ (by simp) (fun d hd => hb d (by rw [List.cons_append]; exact List.mem_cons_of_mem _ hd))]
    simp
theorem drop_len_sub (a b : List UInt8) : (a ++ b).drop ((a ++ b).length - b.length) = b := by
  rw [List.length_append, Nat.add_sub_cancel, List.drop_left]
theorem flush_col (cols : List Col) {c : Col} (h : fine c) : flushD cols (colT c) = cols ++ [c] := by
  have hl := (fine_len h).1
  obtain ⟨nm, k⟩ := c
  dsimp only at hl
  rcases h.2 with e | e <;> dsimp only at e <;> subst e
  · have e1 : colT (nm, 1) = nm.data.toList ++ [32, 105, 110, 116] := rfl
    have e2 : (nm.data.toList ++ [32, 105, 110, 116]).length - 4 = nm.data.toList.length := by simp
    unfold flushD
    rw [e1, e2, if_pos ⟨by simp only [List.length_append, List.length_cons, List.length_nil]; omega, List.drop_left⟩, List.take_left, bytes_back]
  · have e1 : colT (nm, 2) = nm.data.toList ++ [32, 116, 101, 120, 116] := rfl
    have e2 : (nm.data.toList ++ [32, 116, 101, 120, 116]).length - 5 = nm.data.toList.length := by simp
    have e3 : (nm.data.toList ++ [32, 116, 101, 120, 116]).drop ((nm.data.toList ++ [32, 116, 101, 120, 116]).length - 4) = [116, 101, 120, 116] := by
      rw [show nm.data.toList ++ [32, 116, 101, 120, 116] = (nm.data.toList ++ [32]) ++ [116, 101, 120, 116] by simp]
      exact drop_len_sub _ [116, 101, 120, 116]
    unfold flushD
    rw [e1, e3, if_neg (by intro h'; exact absurd h'.2 (by decide)), e2, if_pos ⟨by simp only [List.length_append, List.length_cons, List.length_nil]; omega, List.drop_left⟩, List.take_left, bytes_back]
theorem scan_tail : ∀ (r : List Col) (cols : List Col) (c : Col), fine c → (∀ x ∈ r, fine x) →
    flushD ((joinTail [44, 32] (r.map colT)).foldl stepD (cols, colT c)).1 ((joinTail [44, 32] (r.map colT)).foldl stepD (cols, colT c)).2 = cols ++ c :: r
  | [], cols, c, h, _ => by
    simp only [List.map_nil, joinTail, List.flatten_nil, List.foldl_nil]
    exact flush_col cols h
  | y :: r, cols, c, h, hr => by
    have hy := hr y (by simp)
    have hj : joinTail [44, 32] ((y :: r).map colT) = 44 :: 32 :: (colT y ++ joinTail [44, 32] (r.map colT)) := by simp [joinTail]
    have h1 : stepD (cols, colT c) 44 = (cols ++ [c], []) := by unfold stepD; rw [if_pos rfl, flush_col cols h]
    have h2 : stepD (cols ++ [c], []) 32 = (cols ++ [c], []) := by unfold stepD; rw [if_neg (by decide), if_neg (by simp)]
    rw [hj, List.foldl_cons, h1, List.foldl_cons, h2, List.foldl_append, scan_col _ hy, scan_tail r (cols ++ [c]) y hy (fun x hx => hr x (by simp [hx]))]
    simp
theorem doc_good {s : List UInt8} {l : List Col} (h : isS s l) : docCols s = l := by
  have hf := fine_of h.1
  match l, h, hf with
  | [], h, _ => exact absurd (schemaOK_is h.1).1 (by simp)
  | c :: r, h, hf =>
    rw [← h.2]
    unfold docCols scanD schT
    rw [List.map_cons, join_cons, List.foldl_append, scan_col _ (hf c (by simp)), scan_tail r [] c (hf c (by simp)) (fun x hx => hf x (by simp [hx]))]
    rfl
theorem doc_bad {s : List UInt8} (h : ∀ l, ¬ isS s l) (hs : s ≠ []) (l : List Col) : fmtS l ≠ s := by
  unfold fmtS
  split
  · rename_i hok; exact fun e => h l ⟨hok, e⟩
  · exact fun e => hs e.symm
theorem colT_len {c : Col} (h : fine c) : (colT c).length ≤ 21 ∧ 5 ≤ (colT c).length := by
  have h1 := fine_len h
  have h2 : 3 ≤ (kindT c.2).length ∧ (kindT c.2).length ≤ 4 := by rcases h.2 with e | e <;> rw [e] <;> decide
  unfold colT
  simp only [List.length_append, List.length_cons]
  omega
theorem schT_len {l : List Col} (h : schemaOK l = true) : (schT l).length ≤ 200 ∧ schT l ≠ [] := by
  have hf := fine_of h
  have hp := schemaOK_is h
  match l, hf, hp with
  | [], _, hp => exact absurd hp.1 (by simp)
  | c :: r, hf, hp =>
    have h1 := colT_len (hf c (by simp))
    have hr : ∀ (q : List Col), (∀ x ∈ q, fine x) → lens (q.map colT) ≤ 21 * q.length := by
      intro q
      induction q with
      | nil => intro _; simp [lens]
      | cons x q ih =>
        intro hq
        have a := colT_len (hq x (by simp))
        have b := ih (fun z hz => hq z (by simp [hz]))
        simp only [lens, List.map_cons, List.sum_cons, List.length_cons] at b ⊢
        omega
    have h2 := hr r (fun x hx => hf x (by simp [hx]))
    have h3 := joinTail_length [44, 32] (r.map colT)
    have h8 := hp.2.1
    simp only [List.length_cons, List.length_map, List.length_nil] at h8 h3
    unfold schT
    rw [List.map_cons, join_cons]
    refine ⟨by rw [List.length_append]; omega, fun e => ?_⟩
    have := congrArg List.length e
    rw [List.length_append] at this
    simp only [List.length_nil] at this
    omega
theorem schT_more {l : List Col} : l.length ≤ (schT l).length + 1 := by
  match l with
  | [] => exact Nat.zero_le _
  | c :: r =>
    unfold schT
    rw [List.map_cons, join_cons, List.length_append, joinTail_length]
    simp only [List.length_cons, List.length_map, List.length_nil]
    omega
end Go.Proofs.YtlhhkiglpehnfaaDoor
