/-
  Parse of the document's own rows.
-/
import Derived.Test.YtledgnolmiecfaaGreatDoorRx
namespace Go.Proofs.YtledgnolmiecfaaGreatDoor
open Go.RowKit Go.Lib
set_option linter.unusedSimpArgs false
set_option linter.unusedVariables false

/-- How far a text has been read: it is a row's text just if what is left is one's. -/
def ReadR (t : List UInt8) (xs : List Val) (u : List UInt8) : Prop :=
  (∀ zs, zs ≠ [] → u = tailT zs → t = tailT (xs ++ zs)) ∧
  ∀ ys, validRow ys = true → tailT ys = t → ∃ M, M ≠ [] ∧ ys = xs ++ M ∧ u = tailT M
theorem readR_start {t : List UInt8} (ht : t ≠ []) : ReadR t [] t :=
  ⟨fun zs _ h => h, fun ys _ h => ⟨ys, fun e => ht (by rw [← h, e]; rfl), rfl, h.symm⟩⟩
theorem tail_cons (x : Val) (r : List Val) : tailT (x :: r) = textV x ++ (if r = [] then [] else 44 :: tailT r) := rfl
theorem valid_in {xs ys : List Val} {y : Val} (h : validRow (xs ++ y :: ys) = true) : validV y.1 y.2.1 y.2.2 = true := by
  have h2 := (valid_split h).2
  unfold validVs at h2
  rw [List.all_append, Bool.and_eq_true, List.all_cons, Bool.and_eq_true] at h2
  exact h2.2.1
/-- No value is read: no row's text. -/
theorem readR_none {t u : List UInt8} {xs : List Val} (h : ReadR t xs u) (hn : ∀ y0 y1 y2 r, validV y0 y1 y2 = true → Tail r → u ≠ textV (y0, y1, y2) ++ r) : ¬ IsRow t := fun ⟨ys, hv, he⟩ => by
  obtain ⟨M, hM, rfl, hu⟩ := h.2 ys hv (by rw [← textR_tail]; exact he)
  cases M with
  | nil => exact hM rfl
  | cons y M =>
    rw [tail_cons] at hu
    exact hn y.1 y.2.1 y.2.2 _ (valid_in hv) (tail_of M) hu
/-- A value is read: then a row's text goes on with it. -/
theorem readR_one {t u u' : List UInt8} {xs : List Val} {x : Val} (h : ReadR t xs u) (hn : ∀ y0 y1 y2 r, validV y0 y1 y2 = true → Tail r → u = textV (y0, y1, y2) ++ r → (y0, y1, y2) = x ∧ r = u') (ys : List Val) (hv : validRow ys = true) (he : tailT ys = t) : ∃ M, ys = xs ++ x :: M ∧ u' = (if M = [] then [] else 44 :: tailT M) := by
  obtain ⟨M, hM, rfl, hu⟩ := h.2 ys hv he
  cases M with
  | nil => exact absurd rfl hM
  | cons y M =>
    rw [tail_cons] at hu
    obtain ⟨e1, e2⟩ := hn y.1 y.2.1 y.2.2 _ (valid_in hv) (tail_of M) hu
    subst e1
    exact ⟨M, rfl, e2.symm⟩
theorem readR_bad {t u u' : List UInt8} {xs : List Val} {x0 x1 : Int} {x2 : ByteArray} (h : ReadR t xs u) (hn : ∀ y0 y1 y2 r, validV y0 y1 y2 = true → Tail r → u = textV (y0, y1, y2) ++ r → (y0, y1, y2) = (x0, x1, x2) ∧ r = u') (hb : validV x0 x1 x2 = false ∨ xs.length = 8 ∨ (u' ≠ [] ∧ u'.head? ≠ some 44)) : ¬ IsRow t := fun ⟨ys, hv, he⟩ => by
  obtain ⟨M, rfl, hu⟩ := readR_one h hn ys hv (by rw [← textR_tail]; exact he)
  rcases hb with hb | hb | ⟨hb, hc⟩
  · have := valid_in hv
    rw [show ((x0, x1, x2) : Val).1 = x0 from rfl] at this
    exact absurd (this.symm.trans hb) (by simp)
  · have := (valid_split hv).1
    rw [List.length_append, List.length_cons] at this
    omega
  · split at hu
    · exact hb hu
    · rw [hu] at hc; exact hc rfl
theorem readR_end {t u : List UInt8} {xs : List Val} {x : Val} (h : ReadR t xs u) (hu : u = textV x ++ []) : t = tailT (xs ++ [x]) :=
  h.1 [x] (by simp) (by rw [hu]; rfl)
theorem readR_next {t u u' : List UInt8} {xs : List Val} {x : Val} (h : ReadR t xs u) (hu : u = textV x ++ 44 :: u') (hn : ∀ y0 y1 y2 r, validV y0 y1 y2 = true → Tail r → u = textV (y0, y1, y2) ++ r → (y0, y1, y2) = x ∧ r = 44 :: u') : ReadR t (xs ++ [x]) u' :=
  ⟨fun zs hz he => by
    have := h.1 (x :: zs) (by simp) (by rw [hu, tail_cons, if_neg hz, he])
    rw [this]; simp, fun ys hv he => by
    obtain ⟨M, rfl, hM⟩ := readR_one h hn ys hv he
    split at hM
    · cases hM
    · rename_i hne
      exact ⟨M, hne, by simp, by simpa using hM⟩⟩
end Go.Proofs.YtledgnolmiecfaaGreatDoor
