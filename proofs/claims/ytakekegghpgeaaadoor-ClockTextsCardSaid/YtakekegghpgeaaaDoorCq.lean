/-
  Texts of specs: what is written, its words, and that it is read again; plain lists.
-/
import Derived.Test.YtakekegghpgeaaaDoorTr
import Derived.Lib.SplitLaws
namespace Go.Proofs.YtakekegghpgeaaaDoor
open Go.Lib

/-- Numbers behind a word, each behind a blank. -/
def joinT : List Int → List UInt8
  | [] => []
  | n :: r => 32 :: (itoa n ++ joinT r)
/-- A word without blanks. -/
def NoB (a : List UInt8) : Prop := ∀ c ∈ a, c ≠ 32
theorem words_joinT : ∀ (ns : List Int) (pre : List (List UInt8)) (x : List UInt8), (joinT ns).foldl stepW (pre ++ [x]) = pre ++ x :: ns.map itoa
  | [], pre, x => by simp [joinT]
  | n :: r, pre, x => by
    have e : stepW (pre ++ [x]) 32 = (pre ++ [x]) ++ [[]] := by simp [stepW]
    have h1 := words_run (a := itoa n) (pre ++ [x]) [] (itoa_blank n)
    rw [joinT, List.foldl_cons, e, List.foldl_append, h1, List.nil_append, words_joinT r (pre ++ [x]) (itoa n)]
    simp
theorem words_line {a : List UInt8} (ha : NoB a) (ns : List Int) : wordsL (a ++ joinT ns) = a :: ns.map itoa := by
  have h1 := words_run (a := a) [] [] ha
  have h2 := words_joinT ns [] a
  simp only [List.nil_append] at h1 h2
  unfold wordsL
  rw [List.foldl_append, h1, h2]
theorem index_blank {l r : List UInt8} (h : NoB l) : index (l ++ 32 :: r) [32] = l.length := by
  refine index_first (by simp) ?_ ?_
  · simp [occAt, List.isPrefixOf]
  · intro j hj
    have hd : (l ++ 32 :: r).drop j = l[j] :: (l ++ 32 :: r).drop (j + 1) := by
      rw [List.drop_eq_getElem_cons (by simp; omega), List.getElem_append_left hj]
    unfold occAt
    rw [hd]
    have := h l[j] (List.getElem_mem hj)
    simp only [List.isPrefixOf, Bool.and_true]
    rw [beq_eq_false_iff_ne]
    exact fun e => this e.symm
theorem index_no {l : List UInt8} (h : NoB l) : index l [32] = -1 := by
  refine index_none fun j hj => ?_
  unfold occAt
  cases hd : l.drop j with
  | nil => rfl
  | cons c r =>
    have hc : c ∈ l := List.mem_of_mem_drop (by rw [hd]; simp : c ∈ l.drop j)
    simp only [List.isPrefixOf, Bool.and_true]
    rw [beq_eq_false_iff_ne]
    exact fun e => h c hc e.symm
/-- What strings.Split makes of a line. -/
theorem split_line : ∀ (ns : List Int) (a : List UInt8), NoB a → splitK [32] 0 (count (a ++ joinT ns) [32]) (a ++ joinT ns) = a :: ns.map itoa
  | [], a, ha => by
    rw [joinT, List.append_nil, count_miss (index_no ha)]
    rfl
  | n :: r, a, ha => by
    have hi : index (a ++ joinT (n :: r)) [32] = a.length := index_blank ha
    have hd : (a ++ joinT (n :: r)).drop (a.length + [(32 : UInt8)].length) = itoa n ++ joinT r := by
      rw [joinT, List.drop_append, List.drop_eq_nil_of_le (by simp)]
      simp
    have hc := count_hit (by simp) hi
    rw [hd] at hc
    rw [hc, Nat.add_comm]
    unfold splitK
    rw [hi, if_neg (by intro e; have := beq_iff_eq.1 e; omega)]
    have e1 : ((a.length : Nat) : Int).toNat = a.length := Int.toNat_natCast _
    rw [e1, hd, split_line r (itoa n) (itoa_blank n), joinT]
    simp
/-- The words of the kinds. -/
def nameT (k : Int) : List UInt8 :=
  if k = 1 then [116, 117, 109, 98, 108, 105, 110, 103] else if k = 2 then [115, 108, 105, 100, 105, 110, 103] else if k = 3 then [115, 101, 115, 115, 105, 111, 110] else if k = 4 then [103, 108, 111, 98, 97, 108] else []
def numsT (k sz st g sh : Int) : List Int := if k = 1 then [sz, sh] else if k = 2 then [sz, st, sh] else if k = 3 then [g] else []
def specT (k sz st g sh : Int) : List UInt8 := nameT k ++ joinT (numsT k sz st g sh)
theorem name_blank (k : Int) : NoB (nameT k) := by
  unfold nameT NoB
  split
  · decide
  split
  · decide
  split
  · decide
  split
  · decide
  · decide
theorem specT_words (k sz st g sh : Int) : wordsL (specT k sz st g sh) = nameT k :: (numsT k sz st g sh).map itoa := words_line (name_blank k) _
theorem specT_split (k sz st g sh : Int) : splitK [32] 0 (count (specT k sz st g sh) [32]) (specT k sz st g sh) = nameT k :: (numsT k sz st g sh).map itoa := split_line _ _ (name_blank k)
end Go.Proofs.YtakekegghpgeaaaDoor
