/-
  Both Merges at no window, a nil slice too; and both at a slice that a call owns.
-/
import Derived.Test.YthbpdalkifocaaaRefMerge
namespace Go.Proofs.Ythbpdalkifocaaa
open Go.RowKit

theorem refMerge_zero (p : Option Addr) (cap : Nat) (w : World) :
    Calls Try.prog 9 #[.slice p 0 cap] w (MergePost w []) := by
  have hmg := fun W => Merged_zero p cap W
  have HM := Lib.hid hmg
  clear hmg
  go_enter Try.func9, Try.ntmps9
  go_wp2_with fail
  refine wp_loop_rounds 1 ?_
  rw [rounds_succ]
  go_wp2_with (go_at_call 23; refine (HM.out _).mono ?_; rintro e w3 ⟨ys, h1, h2, h3, v, rfl, hrow, hB3⟩)
  go_ret2
  exact .inr ⟨rfl, ys, h1, h2, h3, _, rfl, hrow, hB3⟩

theorem clkMerge_zero (p : Option Addr) (cap : Nat) (w : World) :
    Calls Try.prog 8 #[.slice p 0 cap] w (MergePost w []) := by
  have eg : ∀ args w, (callFunc 38 args).run Try.prog w = .ok (.enter 38 args) w := enters_of Try.func38 (by kernel_rfl) rfl
  have hmg : ∀ w1 : World, Calls Try.prog 20 #[.func (.func 38) #[] #[.pointer (some ⟨w1.heap.size, 0, none⟩)], .func (.func 11) #[] #[]] (w1.alloc (.cells #[.slice p 0 cap] 22)) fun e w' =>
      ∃ v, e = .returned v ∧ w'.ownsRow w1.heap.size 31 2 v 0 (flatW []) ∧ Below w1.heap.size w1 w' := fun w1 => by
    have hB2 := (Below.refl w1.heap.size w1).alloc (Nat.le_refl _) (.cells #[.slice p 0 cap] 22)
    have hc2 : (w1.alloc (.cells #[.slice p 0 cap] 22)).cell? ⟨w1.heap.size, 0, none⟩ = some (.slice p 0 cap) := by simp [World.cell?_alloc_new]
    have hz : (w1.alloc (.cells #[.slice p 0 cap] 22)).heap.size = w1.heap.size + 1 := by simp
    generalize w1.alloc (.cells #[.slice p 0 cap] 22) = w2 at hB2 hc2 hz ⊢
    have hst := values_stops_nil 1 (by omega) w1.heap.size cap w2.heap.size p w2 (by omega) (Nat.le_refl _) hc2
    refine (merged_in 3 (by omega) _ _ eg w2.heap.size (fun ys => ys = []) (fun pre => pre <+: []) 0 (by unfold maxLen; omega) (by omega) (fun ys h => by rw [h]; simp) w2 (Nat.le_refl _) hst).mono ?_
    rintro e w3 ⟨v, xs', zs, rfl, rfl, hp, ha, hl, hrow, hB3⟩
    obtain rfl : zs = [] := hp.eq_nil
    exact ⟨v, rfl, ownsRow_base hrow (by omega), hB2.trans (hB3.mono hB2.size)⟩
  have HM := Lib.hid hmg
  clear hmg eg
  go_enter Try.func8, Try.ntmps8
  go_wp2_with (first
    | (go_at_call 19; refine (containsFunc_zero _ _ _).mono ?_; rintro e w1 ⟨rfl, rfl⟩)
    | (go_at_call 21; refine (values_any _ _ _ _).mono ?_; rintro e w2 ⟨rfl, rfl⟩)
    | (go_at_call 20; refine (HM.out _).mono ?_; rintro e w3 ⟨v, rfl, hrow, hB3⟩))
  go_ret2
  exact .inr ⟨rfl, [], ⟨by simp, by simp⟩, fun p => Iff.rfl, Nat.le_refl _, _, rfl, hrow, hB3⟩

/-- .. at whatever slice reads as these windows. -/
theorem bothMerge (f : Nat) (hf : f = 8 ∨ f = 9) (v : Value) (xs : List (Int × Int)) (hm : xs.length ≤ 400) (w : World) (h : RowIs w v xs) :
    Calls Try.prog f #[v] w (MergePost w xs) := by
  rcases h.2 with ⟨rfl, rfl⟩ | ⟨b, off, cap, rfl, hra⟩
  · rcases hf with rfl | rfl
    · exact clkMerge_zero _ _ _
    · exact refMerge_zero _ _ _
  · cases xs with
    | nil =>
      rcases hf with rfl | rfl
      · exact clkMerge_zero _ _ _
      · exact refMerge_zero _ _ _
    | cons x xs =>
      have hbk : b < w.heap.size := World.block_lt_of_cell? w _ (hra 0 (by simp)).1
      rcases hf with rfl | rfl
      · exact clkMerge_some _ _ _ _ hm _ hbk hra
      · exact refMerge_some _ _ _ _ hm _ hbk hra

/-- What the two leave of one list is one list. -/
theorem both_same {xs ys zs : List Win} (h1 : Sep ys) (h2 : ∀ p, cov ys p ↔ cov xs p) (h3 : Sep zs) (h4 : ∀ p, cov zs p ↔ cov xs p) : ys = zs :=
  Sep.unique h1 h3 fun p => (h2 p).trans (h4 p).symm
#print axioms bothMerge
end Go.Proofs.Ythbpdalkifocaaa
