/-
  Plain facts: the least mark, while no input is idle, never goes back.
-/
import Derived.Test.YtmnbcofonhlplaaRh
namespace Go.Proofs.Ytmnbcofonhlplaa

def busyAll (xs : List Inp) : Prop := ∀ x ∈ xs, x.2.1 = false
theorem foldL_low (xs : List Inp) : ∀ a : Int × Bool, (a.2 = true → (xs.foldl stepL a).1 ≤ a.1) ∧ ∀ x ∈ xs, x.2.1 = false → (xs.foldl stepL a).1 ≤ x.1 := by
  induction xs with
  | nil => intro a; exact ⟨fun _ => Int.le_refl _, fun x hx => by cases hx⟩
  | cons y xs ih =>
    intro a
    obtain ⟨h1, h2⟩ := ih (stepL a y)
    have hs : (a.2 = true → (stepL a y).1 ≤ a.1 ∧ (stepL a y).2 = true) ∧ (y.2.1 = false → (stepL a y).1 ≤ y.1 ∧ (stepL a y).2 = true) := by
      unfold stepL
      split
      · rename_i hc
        refine ⟨fun ha => ?_, fun _ => ⟨Int.le_refl _, rfl⟩⟩
        rcases hc.2 with h | h
        · rw [ha] at h; cases h
        · exact ⟨by show y.1 ≤ a.1; omega, rfl⟩
      · rename_i hc
        refine ⟨fun ha => ⟨Int.le_refl _, ha⟩, fun hy => ?_⟩
        have : ¬ (a.2 = false ∨ y.1 < a.1) := fun h => hc ⟨hy, h⟩
        have h3 : a.2 = true := by cases q : a.2 with
          | true => rfl
          | false => exact absurd (.inl q) this
        exact ⟨by have : ¬ y.1 < a.1 := fun h => this (.inr h)
                  omega, h3⟩
    refine ⟨fun ha => Int.le_trans (h1 (hs.1 ha).2) (hs.1 ha).1, fun x hx hi => ?_⟩
    rcases List.mem_cons.1 hx with rfl | hx
    · exact Int.le_trans (h1 (hs.2 hi).2) (hs.2 hi).1
    · exact h2 x hx hi
theorem foldL_mem (xs : List Inp) : ∀ a : Int × Bool, (xs.foldl stepL a) = a ∨ ∃ x ∈ xs, x.1 = (xs.foldl stepL a).1 := by
  induction xs with
  | nil => intro a; exact .inl rfl
  | cons y xs ih =>
    intro a
    rcases ih (stepL a y) with h | ⟨x, hx, h⟩
    · show xs.foldl stepL (stepL a y) = a ∨ _
      have hs : stepL a y = a ∨ (stepL a y).1 = y.1 := by
        unfold stepL
        split
        · exact .inr rfl
        · exact .inl rfl
      rcases hs with e | e
      · left; rw [h, e]
      · right
        exact ⟨y, by simp, by show y.1 = (xs.foldl stepL (stepL a y)).1; rw [h, e]⟩
    · exact .inr ⟨x, by simp [hx], h⟩
theorem least_low {xs : List Inp} (hb : busyAll xs) {x : Inp} (hx : x ∈ xs) : (leastM xs).1 ≤ x.1 := (foldL_low xs _).2 x hx (hb x hx)
theorem least_mem {xs : List Inp} (hb : busyAll xs) (hl : 1 ≤ xs.length) : ∃ x ∈ xs, x.1 = (leastM xs).1 := by
  rcases foldL_mem xs (0, false) with h | h
  · exfalso
    match xs, hl with
    | x :: xs, _ =>
      have := foldL_busy (x :: xs) (0, false) ⟨x, by simp, hb x (by simp)⟩
      rw [h] at this
      cases this
  · exact h
theorem least_true {xs : List Inp} (hb : busyAll xs) (hl : 1 ≤ xs.length) : (leastM xs).2 = true := by
  match xs, hl with
  | x :: xs, _ => exact foldL_busy (x :: xs) (0, false) ⟨x, by simp, hb x (by simp)⟩
/-- One input goes forward, and is busy: the least mark does not go back. -/
theorem least_set {xs : List Inp} (hb : busyAll xs) {n : Nat} (hn : n < xs.length) {m : Int} {q : Bool} (hm : (xs[n]?.getD in0).1 ≤ m) : busyAll (xs.set n (m, false, q)) ∧ onM (xs.set n (m, false, q)) (leastM xs).1 = (leastM (xs.set n (m, false, q))).1 := by
  have hb2 : busyAll (xs.set n (m, false, q)) := fun y hy => by
    rcases List.mem_or_eq_of_mem_set hy with h | h
    · exact hb y h
    · rw [h]
  have hl : 1 ≤ (xs.set n (m, false, q)).length := by rw [List.length_set]; omega
  refine ⟨hb2, ?_⟩
  unfold onM
  rw [if_pos (least_true hb2 hl)]
  obtain ⟨y, hy, e⟩ := least_mem hb2 hl
  have : (leastM xs).1 ≤ y.1 := by
    rcases List.mem_or_eq_of_mem_set hy with h | h
    · exact least_low hb h
    · rw [h]
      have h1 := least_low hb (x := xs[n]?.getD in0) (by rw [List.getElem?_eq_getElem hn]; exact List.getElem_mem hn)
      show (leastM xs).1 ≤ m
      omega
  omega
/-- What holds of a meet while no input is idle. -/
def Even (xs : List Inp) (a : Int) : Prop := busyAll xs ∧ a = (leastM xs).1
theorem even_set {xs : List Inp} {a : Int} (h : Even xs a) (i m : Int) : Even (setXs xs i m) (setAt xs i m a) := by
  obtain ⟨hb, rfl⟩ := h
  unfold setAt
  by_cases hE : setErr xs i m = 0
  · rw [if_pos hE, setXs, if_pos hE]
    unfold setErr at hE
    by_cases h1 : inR i 0 ((xs.length : Int) - 1) = false ∨ inR m (-1000000000000) 1000000000001 = false
    · rw [if_pos h1] at hE; omega
    rw [if_neg h1] at hE
    by_cases h2 : m < (xs[i.toNat]?.getD in0).1
    · rw [if_pos h2] at hE; omega
    have hi : inR i 0 ((xs.length : Int) - 1) = true := by
      cases q : inR i 0 ((xs.length : Int) - 1) with
      | true => rfl
      | false => exact absurd (.inl q) h1
    have := inR_iff.1 hi
    have hs := least_set hb (n := i.toNat) (by omega) (m := m) (q := (xs[i.toNat]?.getD in0).2.2) (by omega)
    exact ⟨hs.1, hs.2⟩
  · rw [if_neg hE, setXs, if_neg hE]
    exact ⟨hb, rfl⟩
theorem even_close {xs : List Inp} {a : Int} (h : Even xs a) (hm : ∀ x ∈ xs, markR x.1) (i : Int) : Even (chgXs 3 xs i) (chgAt 3 xs i a) := by
  obtain ⟨hb, rfl⟩ := h
  unfold chgAt
  by_cases hE : chgErr xs i = 0
  · rw [if_pos hE, chgXs, if_pos hE]
    unfold chgErr at hE
    have hi : inR i 0 ((xs.length : Int) - 1) = true := by
      cases q : inR i 0 ((xs.length : Int) - 1) with
      | true => rfl
      | false => rw [if_pos q] at hE; omega
    have := inR_iff.1 hi
    have hr := mark_at hm (i := i.toNat) (by omega)
    have hs := least_set hb (n := i.toNat) (by omega) (m := 1000000000001) (q := true) hr.2
    exact ⟨hs.1, hs.2⟩
  · rw [if_neg hE, chgXs, if_neg hE]
    exact ⟨hb, rfl⟩
theorem setXs_len (xs : List Inp) (i m : Int) : (setXs xs i m).length = xs.length := by unfold setXs; split <;> simp
theorem chgXs_len (k : Int) (xs : List Inp) (i : Int) : (chgXs k xs i).length = xs.length := by unfold chgXs; split <;> simp
/-- The least of the marks is the least mark. -/
theorem least_is {xs : List Inp} (hb : busyAll xs) (hl : 1 ≤ xs.length) {a : Int} (ha : a ∈ marksM xs) (hle : ∀ i, i < (marksM xs).length → a ≤ (marksM xs)[i]?.getD 0) : a = (leastM xs).1 := by
  obtain ⟨x, hx, rfl⟩ := List.mem_map.1 ha
  have h1 := least_low hb hx
  obtain ⟨y, hy, e⟩ := least_mem hb hl
  have h2 : x.1 ≤ y.1 := by
    have hm : y.1 ∈ marksM xs := List.mem_map_of_mem hy
    obtain ⟨i, hi, e2⟩ := List.mem_iff_getElem.1 hm
    have := hle i hi
    rw [List.getElem?_eq_getElem hi] at this
    simp only [Option.getD_some] at this
    omega
  omega
end Go.Proofs.Ytmnbcofonhlplaa
