/-
  What every statement asks beside its own: the chapter's first example ('awake'). And what links the makers of lists to 'Same'.
-/
import Derived.Test.YtakekegghpgeaaaDoorWindows
import Derived.Test.YtakekegghpgeaaaDoorSame
namespace Go.Proofs.YtakekegghpgeaaaDoor
open Go.RowKit Go.Shelf

theorem flatW_get (xs : List (Int × Int)) : ∀ i, i < xs.length → (flatW xs)[i * 2]? = some (.int .i64 (xs[i]?.getD (0, 0)).1) ∧ (flatW xs)[i * 2 + 1]? = some (.int .i64 (xs[i]?.getD (0, 0)).2) := by
  induction xs with
  | nil => intro i h; simp at h
  | cons x xs ih =>
    intro i h
    cases i with
    | zero => simp [flatW, cellsW]
    | succ i =>
      have := ih i (by simpa using h)
      rw [show (i + 1) * 2 = i * 2 + 2 by omega]
      simpa [flatW, cellsW] using this

theorem flatW_len (xs : List (Int × Int)) : (flatW xs).length = xs.length * 2 := by
  induction xs with
  | nil => rfl
  | cons x xs ih => simp [flatW, cellsW] at ih ⊢; omega

theorem rowIs_of_owns {W : World} {base : Nat} {v : Value} {xs : List (Int × Int)} (h : W.ownsRow base 36 2 v xs.length (flatW xs)) : RowIs W v xs := by
  rcases h.2 with ⟨rfl, h0⟩ | ⟨g, cap, cur, rfl, _, hg, hc1, hc2, hs, ht⟩
  · have : xs = [] := List.eq_nil_of_length_eq_zero h0
    subst this
    exact ⟨by simp, .inl ⟨rfl, rfl⟩⟩
  · refine ⟨by unfold maxLen at hc2; omega, .inr ⟨g, 0, cap, rfl, fun i hi => ?_⟩⟩
    obtain ⟨g1, g2⟩ := flatW_get xs i hi
    rw [← ht] at g1 g2
    rw [List.getElem?_take_of_lt (by omega)] at g1 g2
    constructor
    · simpa [World.cell?, hg] using g1
    · simpa [World.cell?, hg] using g2

theorem owns_below {W W' : World} {base : Nat} {v : Value} {k : Nat} {e : TypeId} {size : Nat} {xs : List Value} (h : W.ownsRow base e size v k xs) (hb : Below W.heap.size W W') : W'.ownsRow base e size v k xs :=
  h.kept (grown_of_below hb) (by cases hv : v.ownBlock <;> simp)

theorem below_drewN {B : Nat} {a w : World} (h : Below B a w) (n : Nat) : Below B a (w.drewN n) := ⟨h.os, h.tape, h.output, h.size, h.block⟩
theorem Drew.below {w w' : World} (h : Drew w w') (B : Nat) : Below B w w' := by obtain ⟨n, rfl⟩ := h; exact below_drewN (Below.refl _ _) n

set_option maxHeartbeats 1000000 in
theorem awake_any (w : World) :
    Calls Tryd.prog 4 #[] w fun e w' => e = .returned (.bool true) ∧ Below w.heap.size w w' := by
  have hw := fun W => Windows_any 2 10 5 0 0 12 W
  have hE : windowsErr 2 10 5 0 0 12 = 0 := by decide
  have hL : windowsOf 2 10 5 0 0 12 = [(5, 15), (10, 20)] := by decide
  rw [hE, hL] at hw
  have Hw := Lib.hid hw
  clear hw hE hL
  have hs := Lib.hid fun v u W h h' => Same_any v u [(5, 15), (10, 20)] [(5, 15), (10, 20)] W h h'
  go_enter Tryd.func4, Tryd.ntmps4
  go_wp2_with (go_at_call 10; refine (Hw.out _).mono ?_; rintro e w1 ⟨v, rfl, hrow, hb⟩)
  have h1 : RowIs (w1.alloc (.cells #[.int .i64 5, .int .i64 15, .int .i64 10, .int .i64 20] 36)) v [(5, 15), (10, 20)] := rowIs_of_owns (owns_below hrow ((Below.refl _ _).alloc (Nat.le_refl _) _))
  have h2 : RowIs (w1.alloc (.cells #[.int .i64 5, .int .i64 15, .int .i64 10, .int .i64 20] 36)) (.slice (some ⟨w1.heap.size, 0, none⟩) 2 2) [(5, 15), (10, 20)] := by
    refine ⟨by decide, .inr ⟨_, 0, 2, rfl, fun i hi => ?_⟩⟩
    match i, hi with
    | 0, _ => exact ⟨by simp [World.cell?_alloc_new], by simp [World.cell?_alloc_new]⟩
    | 1, _ => exact ⟨by simp [World.cell?_alloc_new], by simp [World.cell?_alloc_new]⟩
    | i + 2, h => exact absurd h (by simp)
  refine (hs.out v _ _ h1 h2).mono ?_
  rintro e w2 ⟨rfl, hd⟩
  have hb2 : Below w.heap.size w w2 := (hb.alloc hb.size _).trans (hd.below _)
  clear hd h1 h2
  go_wp2_with fail
  go_ret
  exact ⟨rfl, hb2⟩
end Go.Proofs.YtakekegghpgeaaaDoor
