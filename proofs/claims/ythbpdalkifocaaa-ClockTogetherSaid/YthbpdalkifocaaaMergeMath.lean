/-
  Plain facts on merging windows: a list whose windows ascend and do not touch is told by the times, and the steps between neighbouring times, that it covers.
-/
import Derived.Test.YthbpdalkifocaaaRefs
namespace Go.Proofs.Ythbpdalkifocaaa

abbrev Win := Int × Int
def okW (w : Win) : Prop := w.1 < w.2 ∧ -2000000000000 ≤ w.1 ∧ w.2 ≤ 2000000000000

/-- Twice a time, or the odd number between two neighbouring times: does a window cover it? -/
def covW (w : Win) (p : Int) : Prop := 2 * w.1 ≤ p ∧ p ≤ 2 * w.2 - 2
def cov (l : List Win) (p : Int) : Prop := ∃ w ∈ l, covW w p

theorem cov_nil (p : Int) : ¬ cov [] p := fun ⟨_, h, _⟩ => by simp at h
theorem cov_cons (w : Win) (l : List Win) (p : Int) : cov (w :: l) p ↔ covW w p ∨ cov l p := by
  constructor
  · rintro ⟨x, hx, hp⟩
    rcases List.mem_cons.1 hx with rfl | hx
    · exact .inl hp
    · exact .inr ⟨x, hx, hp⟩
  · rintro (h | ⟨x, hx, hp⟩)
    · exact ⟨w, by simp, h⟩
    · exact ⟨x, by simp [hx], hp⟩
theorem cov_append (a b : List Win) (p : Int) : cov (a ++ b) p ↔ cov a p ∨ cov b p := by
  constructor
  · rintro ⟨x, hx, hp⟩
    rcases List.mem_append.1 hx with hx | hx
    · exact .inl ⟨x, hx, hp⟩
    · exact .inr ⟨x, hx, hp⟩
  · rintro (⟨x, hx, hp⟩ | ⟨x, hx, hp⟩)
    · exact ⟨x, by simp [hx], hp⟩
    · exact ⟨x, by simp [hx], hp⟩
theorem cov_perm {a b : List Win} (h : a.Perm b) (p : Int) : cov a p ↔ cov b p := by
  constructor
  · rintro ⟨x, hx, hp⟩; exact ⟨x, h.mem_iff.1 hx, hp⟩
  · rintro ⟨x, hx, hp⟩; exact ⟨x, h.mem_iff.2 hx, hp⟩

/-- The windows are valid, ascend, and none touches another. -/
def Sep (l : List Win) : Prop := (∀ w ∈ l, okW w) ∧ l.Pairwise (fun a b => a.2 ≤ b.1)

theorem Sep.tail {w : Win} {l : List Win} (h : Sep (w :: l)) : Sep l := ⟨fun x hx => h.1 x (by simp [hx]), (List.pairwise_cons.1 h.2).2⟩
theorem Sep.head {w : Win} {l : List Win} (h : Sep (w :: l)) : okW w ∧ ∀ x ∈ l, w.2 ≤ x.1 := ⟨h.1 w (by simp), (List.pairwise_cons.1 h.2).1⟩

/-- Such a list is told by what it covers. -/
theorem Sep.unique : ∀ {a b : List Win}, Sep a → Sep b → (∀ p, cov a p ↔ cov b p) → a = b
  | [], [], _, _, _ => rfl
  | [], w :: l, _, hb, h => by
    obtain ⟨hw, _⟩ := hb.head
    exact absurd ((h (2 * w.1)).2 ⟨w, by simp, by unfold covW; unfold okW at hw; omega⟩) (cov_nil _)
  | w :: l, [], ha, _, h => by
    obtain ⟨hw, _⟩ := ha.head
    exact absurd ((h (2 * w.1)).1 ⟨w, by simp, by unfold covW; unfold okW at hw; omega⟩) (cov_nil _)
  | v :: a, w :: b, ha, hb, h => by
    obtain ⟨hv, hva⟩ := ha.head
    obtain ⟨hw, hwb⟩ := hb.head
    have lo : ∀ {x y : Win} {c d : List Win}, okW x → okW y → (∀ z ∈ d, y.2 ≤ z.1) → (cov (x :: c) (2 * x.1) → cov (y :: d) (2 * x.1)) → y.1 ≤ x.1 := by
      intro x y c d hx hy hd hh
      obtain ⟨z, hz, hp⟩ := hh ⟨x, by simp, by unfold covW; unfold okW at hx; omega⟩
      rcases List.mem_cons.1 hz with rfl | hz
      · unfold covW at hp; omega
      · have := hd z hz
        unfold covW at hp
        unfold okW at hy
        omega
    have h1 : v.1 = w.1 := by
      have e1 := lo hv hw hwb (h _).1
      have e2 := lo hw hv hva (h _).2
      omega
    have hi : ∀ {x y : Win} {c d : List Win}, okW x → okW y → x.1 = y.1 → (∀ z ∈ c, x.2 ≤ z.1) → (∀ p, cov (y :: d) p → cov (x :: c) p) → y.2 ≤ x.2 := by
      intro x y c d hx hy hxy hc hh
      by_cases hlt : x.2 < y.2
      · obtain ⟨z, hz, hp⟩ := hh (2 * x.2 - 1) ⟨y, by simp, by unfold covW; unfold okW at hx; omega⟩
        rcases List.mem_cons.1 hz with rfl | hz
        · unfold covW at hp; omega
        · have := hc z hz
          unfold covW at hp
          omega
      · omega
    have h2 : v.2 = w.2 := by
      have e1 := hi hv hw h1 hva (fun p => (h p).2)
      have e2 := hi hw hv h1.symm hwb (fun p => (h p).1)
      omega
    have hvw : v = w := Prod.ext h1 h2
    subst hvw
    rw [Sep.unique ha.tail hb.tail fun p => ?_]
    have hp := h p
    rw [cov_cons, cov_cons] at hp
    constructor
    · intro hc
      rcases hp.1 (.inr hc) with h3 | h3
      · obtain ⟨z, hz, hzp⟩ := hc
        have := hva z hz
        unfold covW at h3 hzp
        omega
      · exact h3
    · intro hc
      rcases hp.2 (.inr hc) with h3 | h3
      · obtain ⟨z, hz, hzp⟩ := hc
        have := hwb z hz
        unfold covW at h3 hzp
        omega
      · exact h3

/-- What lies in a covered stretch lies within one window of the list. -/
theorem Sep.within {l : List Win} (h : Sep l) {w : Win} (hw : okW w) (hc : ∀ p, covW w p → cov l p) : ∃ r ∈ l, r.1 ≤ w.1 ∧ w.2 ≤ r.2 := by
  obtain ⟨r, hr, hp⟩ := hc (2 * w.1) (by unfold covW; unfold okW at hw; omega)
  refine ⟨r, hr, by unfold covW at hp; omega, ?_⟩
  by_cases hlt : r.2 < w.2
  · obtain ⟨s, hs, hq⟩ := hc (2 * r.2 - 1) (by unfold covW at hp ⊢; omega)
    have hro := h.1 r hr
    have hso := h.1 s hs
    unfold covW at hp hq
    unfold okW at hro hso
    obtain ⟨i, hi, hri⟩ := List.mem_iff_getElem.1 hr
    obtain ⟨j, hj, hsj⟩ := List.mem_iff_getElem.1 hs
    have hpw := List.pairwise_iff_getElem.1 h.2
    rcases Nat.lt_trichotomy i j with hij | hij | hij
    · have := hpw i j hi hj hij
      rw [hri, hsj] at this
      omega
    · subst hij
      rw [hri] at hsj
      subst hsj
      omega
    · have := hpw j i hj hi hij
      rw [hri, hsj] at this
      omega
  · omega

theorem Sep.snoc {l : List Win} {w : Win} (h : Sep l) (hw : okW w) (hl : ∀ x ∈ l, x.2 ≤ w.1) : Sep (l ++ [w]) := by
  refine ⟨fun x hx => ?_, List.pairwise_append.2 ⟨h.2, by simp, fun x hx y hy => ?_⟩⟩
  · rcases List.mem_append.1 hx with hx | hx
    · exact h.1 x hx
    · simp at hx; subst hx; exact hw
  · simp at hy; subst hy; exact hl x hx

/-! ### The sweep over an ascending list -/
/-- One step: the next window meets the last one that is left, or is left itself. -/
def sweep1 (left : List Win) (w : Win) : List Win :=
  match left.getLast? with
  | none => [w]
  | some r => if touches r.1 r.2 w.1 w.2 = true then left.dropLast ++ [(r.1, max r.2 w.2)] else left ++ [w]
def sweep (l : List Win) : List Win := l.foldl sweep1 []

theorem touches_iff (a b c d : Int) : touches a b c d = true ↔ okW (a, b) ∧ okW (c, d) ∧ a < d ∧ c < b := by
  simp only [touches, decide_eq_true_eq, okW]

theorem sweep1_spec {left : List Win} {w : Win} (h : Sep left) (hw : okW w) (hlo : ∀ x ∈ left, x.1 ≤ w.1) :
    Sep (sweep1 left w) ∧ (∀ p, cov (sweep1 left w) p ↔ cov left p ∨ covW w p) ∧ (∀ x ∈ sweep1 left w, x.1 ≤ w.1) := by
  unfold sweep1
  cases hL : left.getLast? with
  | none =>
    have : left = [] := List.getLast?_eq_none_iff.1 hL
    subst this
    refine ⟨⟨fun x hx => by simp at hx; subst hx; exact hw, by simp⟩, fun p => ?_, fun x hx => by simp at hx; subst hx; exact Int.le_refl _⟩
    rw [cov_cons]
    constructor
    · rintro (h | h)
      · exact .inr h
      · exact absurd h (cov_nil _)
    · rintro (h | h)
      · exact absurd h (cov_nil _)
      · exact .inl h
  | some r =>
    obtain ⟨init, rfl⟩ : ∃ init, left = init ++ [r] := by
      obtain ⟨ys, hy⟩ := List.getLast?_eq_some_iff.1 hL
      exact ⟨ys, hy⟩
    have hr := h.1 r (by simp)
    have hrl := hlo r (by simp)
    have hir : ∀ x ∈ init, x.2 ≤ r.1 := fun x hx => (List.pairwise_append.1 h.2).2.2 x hx r (by simp)
    have hSi : Sep init := ⟨fun x hx => h.1 x (by simp [hx]), (List.pairwise_append.1 h.2).1⟩
    simp only [List.dropLast_concat]
    by_cases ht : touches r.1 r.2 w.1 w.2 = true
    · rw [if_pos ht]
      obtain ⟨_, _, ht1, ht2⟩ := (touches_iff _ _ _ _).1 ht
      have hm : okW (r.1, max r.2 w.2) := by unfold okW at hr hw ⊢; simp only; omega
      refine ⟨hSi.snoc hm hir, fun p => ?_, fun x hx => ?_⟩
      · rw [cov_append, cov_append, cov_cons, cov_cons]
        have hn := cov_nil p
        have : covW (r.1, max r.2 w.2) p ↔ covW r p ∨ covW w p := by
          unfold covW; simp only
          constructor
          · intro hp; omega
          · rintro (hp | hp) <;> omega
        rw [this]
        constructor
        · rintro (h | (h | h) | h)
          · exact .inl (.inl h)
          · exact .inl (.inr (.inl h))
          · exact .inr h
          · exact absurd h hn
        · rintro ((h | h | h) | h)
          · exact .inl h
          · exact .inr (.inl (.inl h))
          · exact absurd h hn
          · exact .inr (.inl (.inr h))
      · rcases List.mem_append.1 hx with hx | hx
        · exact hlo x (by simp [hx])
        · simp at hx; subst hx; exact hrl
    · rw [if_neg ht]
      have hrw : r.2 ≤ w.1 := by
        by_cases hlt : w.1 < r.2
        · exact absurd ((touches_iff _ _ _ _).2 ⟨hr, hw, by unfold okW at hw; omega, hlt⟩) ht
        · omega
      refine ⟨h.snoc hw fun x hx => ?_, fun p => ?_, fun x hx => ?_⟩
      · rcases List.mem_append.1 hx with hx | hx
        · have := hir x hx
          unfold okW at hr
          omega
        · simp at hx; subst hx; exact hrw
      · rw [cov_append, cov_cons]
        have hn := cov_nil p
        constructor
        · rintro (h | h | h)
          · exact .inl h
          · exact .inr h
          · exact absurd h hn
        · rintro (h | h)
          · exact .inl h
          · exact .inr (.inl h)
      · rcases List.mem_append.1 hx with hx | hx
        · exact hlo x hx
        · simp at hx; subst hx; exact Int.le_refl _

theorem sweep_spec : ∀ {l left : List Win}, Sep left → (∀ w ∈ l, okW w) → l.Pairwise (fun a b => a.1 ≤ b.1) → (∀ x ∈ left, ∀ w ∈ l, x.1 ≤ w.1) →
    Sep (l.foldl sweep1 left) ∧ ∀ p, cov (l.foldl sweep1 left) p ↔ cov left p ∨ cov l p
  | [], left, h, _, _, _ => ⟨h, fun p => ⟨fun h => .inl h, fun h => h.elim id (fun h => absurd h (cov_nil p))⟩⟩
  | w :: l, left, h, hl, hs, hlo => by
    obtain ⟨hs1, hs2⟩ := List.pairwise_cons.1 hs
    obtain ⟨g1, g2, g3⟩ := sweep1_spec h (hl w (by simp)) (fun x hx => hlo x hx w (by simp))
    obtain ⟨k1, k2⟩ := sweep_spec g1 (fun x hx => hl x (by simp [hx])) hs2 (fun x hx y hy => Int.le_trans (g3 x hx) (hs1 y hy))
    refine ⟨k1, fun p => ?_⟩
    show cov (l.foldl sweep1 (sweep1 left w)) p ↔ _
    rw [k2 p, g2 p, cov_cons]
    constructor
    · rintro ((h | h) | h)
      · exact .inl h
      · exact .inr (.inl h)
      · exact .inr (.inr h)
    · rintro (h | h | h)
      · exact .inl (.inl h)
      · exact .inl (.inr h)
      · exact .inr h
end Go.Proofs.Ythbpdalkifocaaa
