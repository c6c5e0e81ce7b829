/-
  Plain facts on sessions: a time lies in one merged window at most; two times lie in one window exactly if steps below the gap lead from the one to the other.
-/
import Derived.Test.YthbpdalkifocaaaMrgMath
namespace Go.Proofs.Ythbpdalkifocaaa
open Go.RowKit

theorem Sep.one {ys : List Win} (hs : Sep ys) {r s : Win} (hr : r ∈ ys) (hsm : s ∈ ys) {t : Int} (r1 : r.1 ≤ t) (r2 : t < r.2) (s1 : s.1 ≤ t) (s2 : t < s.2) : r = s := by
  obtain ⟨i, hi, hri⟩ := List.mem_iff_getElem.1 hr
  obtain ⟨j, hj, hsj⟩ := List.mem_iff_getElem.1 hsm
  have hpw := List.pairwise_iff_getElem.1 hs.2
  rcases Nat.lt_trichotomy i j with hij | hij | hij
  · have := hpw i j hi hj hij
    rw [hri, hsj] at this
    omega
  · subst hij
    rw [hri] at hsj
    exact hsj
  · have := hpw j i hj hi hij
    rw [hri, hsj] at this
    omega

/-- Steps below the gap lead from lo to a. -/
structure Chain (g : Int) (ts : List Int) (lo a : Int) : Prop where
  le : lo ≤ a
  mem : a ∈ ts
  cov : ∀ p, 2 * lo ≤ p → p ≤ 2 * a + 2 * g - 2 → cov (sessW g ts) p
theorem mem_sessW {g t : Int} {ts : List Int} (h : t ∈ ts) : (t, t + g) ∈ sessW g ts := by
  simp only [sessW, List.mem_map]; exact ⟨t, h, rfl⟩
theorem Chain.start {g lo : Int} {ts : List Int} (h : lo ∈ ts) : Chain g ts lo lo :=
  ⟨Int.le_refl _, h, fun p h1 h2 => ⟨(lo, lo + g), mem_sessW h, by unfold covW; simp only; omega⟩⟩
theorem Chain.step {g lo a t : Int} {ts : List Int} (h : Chain g ts lo a) (ht : t ∈ ts) (h1 : a < t) (h2 : t - a < g) : Chain g ts lo t := by
  have hle := h.le
  refine ⟨by omega, ht, fun p hp1 hp2 => ?_⟩
  by_cases hp : p ≤ 2 * a + 2 * g - 2
  · exact h.cov p hp1 hp
  · exact ⟨(t, t + g), mem_sessW ht, by unfold covW; simp only; omega⟩
def Closed (g : Int) (ts : List Int) (a : Int) : Prop := ∀ t ∈ ts, ¬ (a < t ∧ t - a < g)

theorem together {g lo hi a : Int} {ts : List Int} {ys : List Win} (hg : 1 ≤ g) (hg' : g ≤ 1000000000) (hok : ∀ t ∈ ts, inTime t) (hlo : inTime lo) (hs : Sep ys) (hc : ∀ p, cov ys p ↔ cov (sessW g ts) p)
    (hch : Chain g ts lo a) (hcl : Closed g ts a) (hlh : lo ≤ hi) (hhi : hi ∈ ts) {r s : Win} (hr : r ∈ ys) (hsm : s ∈ ys) (r1 : r.1 ≤ lo) (r2 : lo < r.2) (s1 : s.1 ≤ hi) (s2 : hi < s.2) : r = s ↔ hi ≤ a := by
  have hle := hch.le
  constructor
  · intro hrs
    subst hrs
    by_cases h : hi ≤ a
    · exact h
    · have hga : ¬ (hi - a < g) := fun hh => hcl hi hhi ⟨by omega, hh⟩
      obtain ⟨w, hw, hp⟩ := (hc (2 * (a + g) - 1)).1 ⟨r, hr, by unfold covW; omega⟩
      simp only [sessW, List.mem_map] at hw
      obtain ⟨t, ht, rfl⟩ := hw
      unfold covW at hp
      simp only at hp
      have := hcl t ht
      omega
  · intro h
    have ha := hok a hch.mem
    unfold inTime at ha hlo
    obtain ⟨q, hq, q1, q2⟩ := hs.within (w := (lo, a + g)) ⟨by simp only; omega, by simp only; omega, by simp only; omega⟩ (fun p hp => (hc p).2 (hch.cov p (by unfold covW at hp; simp only at hp; omega) (by unfold covW at hp; simp only at hp; omega)))
    simp only at q1 q2
    rw [hs.one hr hq r1 r2 q1 (by omega), hs.one hsm hq s1 s2 (by omega) (by omega)]

/-- How many of the times lie above one. -/
def above (ts : List Int) (a : Int) : Nat := (ts.filter fun t => decide (a < t)).length
theorem above_lt {ts : List Int} {a t : Int} (ht : t ∈ ts) (h : a < t) : above ts t < above ts a := by
  unfold above
  induction ts with
  | nil => simp at ht
  | cons x xs ih =>
    have hmono : ∀ l : List Int, (l.filter fun u => decide (t < u)).length ≤ (l.filter fun u => decide (a < u)).length := fun l => by
      induction l with
      | nil => simp
      | cons y ys ihy =>
        simp only [List.filter_cons]
        by_cases h1 : t < y
        · rw [if_pos (by simpa using h1), if_pos (by simp; omega)]; simp only [List.length_cons]; omega
        · rw [if_neg (by simpa using h1)]
          split
          · simp only [List.length_cons]; omega
          · exact ihy
    simp only [List.filter_cons]
    rcases List.mem_cons.1 ht with rfl | hx
    · rw [if_neg (by simp), if_pos (by simpa using h)]
      have := hmono xs
      simp only [List.length_cons]; omega
    · have := ih hx
      by_cases h1 : t < x
      · rw [if_pos (by simpa using h1), if_pos (by simp; omega)]; simp only [List.length_cons]; omega
      · rw [if_neg (by simpa using h1)]
        split
        · simp only [List.length_cons]; omega
        · exact this
end Go.Proofs.Ythbpdalkifocaaa
