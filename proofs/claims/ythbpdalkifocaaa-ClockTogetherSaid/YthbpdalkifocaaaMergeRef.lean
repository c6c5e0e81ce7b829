/-
  Plain facts on the document's own way of merging: two at a time, till none touch; then put into the ascending list.
-/
import Derived.Test.YthbpdalkifocaaaMergeMath
namespace Go.Proofs.Ythbpdalkifocaaa

/-- What the document's Put does with an ascending list. -/
def putF (w : Win) : List Win → List Win
  | [] => [w]
  | x :: l => if cmpW w.1 w.2 x.1 x.2 ≤ 0 then (if x = w then x :: l else w :: x :: l) else x :: putF w l

theorem cmpW_le (a b c d : Int) : cmpW a b c d ≤ 0 ↔ a < c ∨ (a = c ∧ b ≤ d) := by
  unfold cmpW
  by_cases h1 : a = c ∧ b = d
  · rw [if_pos h1]; omega
  · rw [if_neg h1]
    by_cases h2 : a < c ∨ (a = c ∧ b < d)
    · rw [if_pos h2]; omega
    · rw [if_neg h2]; omega

theorem putF_cov (w : Win) : ∀ (l : List Win) (p : Int), cov (putF w l) p ↔ covW w p ∨ cov l p
  | [], p => by unfold putF; rw [cov_cons]
  | x :: l, p => by
    unfold putF
    by_cases h : cmpW w.1 w.2 x.1 x.2 ≤ 0
    · rw [if_pos h]
      by_cases hx : x = w
      · subst hx
        rw [if_pos rfl, cov_cons]
        constructor
        · intro h; exact .inr h
        · rintro (h | h)
          · exact .inl h
          · exact h
      · rw [if_neg hx, cov_cons]
    · rw [if_neg h, cov_cons, putF_cov w l p, cov_cons]
      constructor
      · rintro (h | h | h)
        · exact .inr (.inl h)
        · exact .inl h
        · exact .inr (.inr h)
      · rintro (h | h | h)
        · exact .inr (.inl h)
        · exact .inl h
        · exact .inr (.inr h)

theorem putF_sep (w : Win) (hw : okW w) : ∀ {l : List Win}, Sep l → (∀ x ∈ l, x.2 ≤ w.1 ∨ w.2 ≤ x.1) → Sep (putF w l)
  | [], _, _ => ⟨fun x hx => by simp [putF] at hx; subst hx; exact hw, by simp [putF]⟩
  | x :: l, h, hs => by
    obtain ⟨hx, hxl⟩ := h.head
    unfold putF
    by_cases hc : cmpW w.1 w.2 x.1 x.2 ≤ 0
    · rw [if_pos hc]
      rw [cmpW_le] at hc
      by_cases he : x = w
      · rw [if_pos he]; exact h
      · rw [if_neg he]
        have hwx : w.2 ≤ x.1 := by
          rcases hs x (by simp) with h1 | h1
          · unfold okW at hx hw; omega
          · exact h1
        refine ⟨fun y hy => ?_, List.pairwise_cons.2 ⟨fun y hy => ?_, h.2⟩⟩
        · rcases List.mem_cons.1 hy with rfl | hy
          · exact hw
          · exact h.1 y hy
        · rcases List.mem_cons.1 hy with rfl | hy
          · exact hwx
          · have := hxl y hy
            unfold okW at hx; omega
    · rw [if_neg hc]
      rw [cmpW_le] at hc
      have hwx : x.2 ≤ w.1 := by
        rcases hs x (by simp) with h1 | h1
        · exact h1
        · unfold okW at hx hw; omega
      have ih := putF_sep w hw h.tail (fun y hy => hs y (by simp [hy]))
      refine ⟨fun y hy => ?_, List.pairwise_cons.2 ⟨fun y hy => ?_, ih.2⟩⟩
      · rcases List.mem_cons.1 hy with rfl | hy
        · exact hx
        · exact ih.1 y hy
      · have : y ∈ putF w l → y = w ∨ y ∈ l := by
          clear hy ih hs h hxl hc
          induction l with
          | nil => intro h; simp [putF] at h; exact .inl h
          | cons z l ih =>
            intro h
            unfold putF at h
            by_cases h1 : cmpW w.1 w.2 z.1 z.2 ≤ 0
            · rw [if_pos h1] at h
              by_cases h2 : z = w
              · rw [if_pos h2] at h; exact .inr h
              · rw [if_neg h2] at h
                rcases List.mem_cons.1 h with h | h
                · exact .inl h
                · exact .inr h
            · rw [if_neg h1] at h
              rcases List.mem_cons.1 h with h | h
              · exact .inr (by simp [h])
              · rcases ih h with h | h
                · exact .inl h
                · exact .inr (by simp [h])
        rcases this hy with rfl | hy
        · exact hwx
        · exact hxl y hy

/-- One pass: the window takes in what it touches; the rest, the window, whether it took in any. -/
def pass1 (s : List Win × Win × Bool) (x : Win) : List Win × Win × Bool :=
  if touches x.1 x.2 s.2.1.1 s.2.1.2 = true then (s.1, (min s.2.1.1 x.1, max s.2.1.2 x.2), true) else (s.1 ++ [x], s.2.1, s.2.2)
def pass (l : List Win) (s : List Win × Win × Bool) : List Win × Win × Bool := l.foldl pass1 s

structure PassFacts (l : List Win) (s r : List Win × Win × Bool) : Prop where
  ok : okW r.2.1
  sub : ∃ k, r.1 = s.1 ++ k ∧ k.Sublist l ∧ (r.2.2 = false → k = l) ∧ (s.2.2 = false → r.2.2 = true → k.length < l.length)
  cov : ∀ p, (cov r.1 p ∨ covW r.2.1 p) ↔ (cov s.1 p ∨ covW s.2.1 p ∨ Go.Proofs.Ythbpdalkifocaaa.cov l p)
  still : r.2.2 = false → s.2.2 = false ∧ r.2.1 = s.2.1 ∧ ∀ x ∈ l, touches x.1 x.2 s.2.1.1 s.2.1.2 = false

theorem pass_facts : ∀ (l : List Win) (s : List Win × Win × Bool), okW s.2.1 → (∀ x ∈ l, okW x) → PassFacts l s (pass l s)
  | [], s, hs, _ => ⟨hs, ⟨[], by simp [pass], by simp, fun _ => rfl, fun h1 h2 => by simp [pass] at h2; rw [h1] at h2; cases h2⟩, fun p => by
      show (_ ∨ _) ↔ _
      simp only [pass, List.foldl_nil]
      have := cov_nil p
      constructor
      · rintro (h | h)
        · exact .inl h
        · exact .inr (.inl h)
      · rintro (h | h | h)
        · exact .inl h
        · exact .inr h
        · exact absurd h this, fun h => ⟨h, rfl, fun x hx => by simp at hx⟩⟩
  | x :: l, s, hs, hl => by
    have hx := hl x (by simp)
    show PassFacts (x :: l) s (pass l (pass1 s x))
    by_cases ht : touches x.1 x.2 s.2.1.1 s.2.1.2 = true
    · obtain ⟨_, _, t1, t2⟩ := (touches_iff _ _ _ _).1 ht
      have e1 : pass1 s x = (s.1, (min s.2.1.1 x.1, max s.2.1.2 x.2), true) := by unfold pass1; rw [if_pos ht]
      have hm : okW (min s.2.1.1 x.1, max s.2.1.2 x.2) := by unfold okW at hx hs ⊢; simp only; omega
      have ih := pass_facts l (pass1 s x) (by rw [e1]; exact hm) (fun y hy => hl y (by simp [hy]))
      have hb : (pass l (pass1 s x)).2.2 = true := by
        cases hb : (pass l (pass1 s x)).2.2 with
        | true => rfl
        | false =>
          have := (ih.still hb).1
          rw [e1] at this
          cases this
      obtain ⟨k, k1, k2, _, _⟩ := ih.sub
      have f1 : (pass1 s x).1 = s.1 := by rw [e1]
      rw [f1] at k1
      refine ⟨ih.ok, ⟨k, k1, k2.cons x, (fun h => by rw [hb] at h; cases h), fun _ _ => by have := k2.length_le; simp; omega⟩, fun p => ?_, fun h => by rw [hb] at h; cases h⟩
      rw [ih.cov p, e1, cov_cons]
      have : covW (min s.2.1.1 x.1, max s.2.1.2 x.2) p ↔ covW s.2.1 p ∨ covW x p := by
        unfold covW okW at *; simp only
        constructor
        · intro h; omega
        · rintro (h | h) <;> omega
      rw [this]
      constructor
      · rintro (h | (h | h) | h)
        · exact .inl h
        · exact .inr (.inl h)
        · exact .inr (.inr (.inl h))
        · exact .inr (.inr (.inr h))
      · rintro (h | h | h | h)
        · exact .inl h
        · exact .inr (.inl (.inl h))
        · exact .inr (.inl (.inr h))
        · exact .inr (.inr h)
    · have e1 : pass1 s x = (s.1 ++ [x], s.2.1, s.2.2) := by unfold pass1; rw [if_neg ht]
      have ih := pass_facts l (pass1 s x) (by rw [e1]; exact hs) (fun y hy => hl y (by simp [hy]))
      obtain ⟨k, k1, k2, k3, k4⟩ := ih.sub
      have f1 : (pass1 s x).1 = s.1 ++ [x] := by rw [e1]
      have f2 : (pass1 s x).2.1 = s.2.1 := by rw [e1]
      have f3 : (pass1 s x).2.2 = s.2.2 := by rw [e1]
      rw [f1] at k1
      rw [f3] at k4
      refine ⟨ih.ok, ⟨x :: k, by rw [k1]; simp, k2.cons_cons x, fun h => by rw [k3 h], fun h1 h2 => by have := k4 h1 h2; simp; omega⟩, fun p => ?_, fun h => ?_⟩
      · rw [ih.cov p, e1, cov_append, cov_cons, cov_cons]
        have := cov_nil p
        constructor
        · rintro ((h | h | h) | h | h)
          · exact .inl h
          · exact .inr (.inr (.inl h))
          · exact absurd h this
          · exact .inr (.inl h)
          · exact .inr (.inr (.inr h))
        · rintro (h | h | h | h)
          · exact .inl (.inl h)
          · exact .inr (.inl h)
          · exact .inl (.inr (.inl h))
          · exact .inr (.inr h)
      · obtain ⟨h1, h2, h3⟩ := ih.still h
        rw [f3] at h1
        rw [f2] at h2 h3
        refine ⟨h1, h2, fun y hy => ?_⟩
        rcases List.mem_cons.1 hy with rfl | hy
        · simpa using ht
        · exact h3 y hy

/-- What touches nothing of the list lies beside each of its windows. -/
theorem beside {x w : Win} (hx : okW x) (hw : okW w) (h : touches x.1 x.2 w.1 w.2 = false) : x.2 ≤ w.1 ∨ w.2 ≤ x.1 := by
  by_cases h1 : x.1 < w.2
  · by_cases h2 : w.1 < x.2
    · have := (touches_iff x.1 x.2 w.1 w.2).2 ⟨hx, hw, h1, h2⟩
      rw [this] at h; cases h
    · exact .inl (by omega)
  · exact .inr (by omega)
theorem Sep.sublist {k l : List Win} (h : Sep l) (hk : k.Sublist l) : Sep k := ⟨fun x hx => h.1 x (hk.subset hx), h.2.sublist hk⟩
end Go.Proofs.Ythbpdalkifocaaa
