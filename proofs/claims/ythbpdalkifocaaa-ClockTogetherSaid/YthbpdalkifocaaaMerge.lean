/-
  clock.Merge, as a contract.
-/
import Derived.Test.YthbpdalkifocaaaSweep
import Derived.Test.YthbpdalkifocaaaInvalid
import Derived.Test.YthbpdalkifocaaaWindows
namespace Go.Proofs.Ythbpdalkifocaaa
open Go.RowKit

theorem sweep_sorted {zs xs : List Win} (hp : zs.Perm xs) (ha : Asc zs) (hok : ∀ x ∈ xs, okW x) : Sep (sweep zs) ∧ ∀ p, cov (sweep zs) p ↔ cov xs p := by
  have h1 : zs.Pairwise (fun a b => a.1 ≤ b.1) := by
    refine List.Pairwise.imp ?_ ha
    intro a b h
    rw [ltP] at h
    simp at h
    omega
  obtain ⟨h2, h3⟩ := sweep_spec (l := zs) (left := []) ⟨by simp, by simp⟩ (fun x hx => hok x (hp.mem_iff.1 hx)) h1 (by simp)
  refine ⟨h2, fun p => ?_⟩
  show cov (zs.foldl sweep1 []) p ↔ _
  rw [h3 p, cov_perm hp p]
  exact ⟨fun h => h.elim (fun h => absurd h (cov_nil p)) id, .inr⟩

theorem okW_of_anyBad {xs : List Win} (h : anyBad xs = false) : ∀ x ∈ xs, okW x := fun x hx => by
  unfold anyBad at h
  rw [List.any_eq_false] at h
  have := h x hx
  simp only [Bool.not_eq_true, Bool.not_eq_false'] at this
  exact (winOK_iff _ _).1 this

/-- What Merge leaves, where it takes the list. -/
def MergeOK (w : World) (xs : List (Int × Int)) (e : Ending) (w' : World) : Prop :=
  ∃ ys, Sep ys ∧ (∀ p, cov ys p ↔ cov xs p) ∧ ys.length ≤ xs.length ∧ RowPost2 w.heap.size w ys 0 e w'

theorem Merge_long (p : Option Addr) (n cap : Nat) (h : 400 < n) (w : World) :
    Calls Try.prog 8 #[.slice p n cap] w (RowPost2 w.heap.size w [] 1) := by
  have h' : (400 : Int) < (n : Int) := by omega
  go_enter Try.func8, Try.ntmps8
  go_wp2_with fail
  go_ret2
  exact ⟨_, rfl, World.ownsRow_nil _ _ _ _, Below.refl _ _⟩

theorem Merge_bad (bk off cap : Nat) (xs : List (Int × Int)) (hm : xs.length ≤ 400) (hb : anyBad xs = true) (w : World) (hbk : bk < w.heap.size) (hX : RowAt w bk off xs) :
    Calls Try.prog 8 #[.slice (some ⟨bk, off, none⟩) xs.length cap] w (RowPost2 w.heap.size w [] 1) := by
  have hc := containsFunc_any bk off cap xs (by omega) w hbk hX
  rw [hb] at hc
  have HC := Lib.hid hc
  have h' : (xs.length : Int) ≤ 400 := by omega
  clear hc hX hb
  go_enter Try.func8, Try.ntmps8
  go_wp2_with (go_at_call 19; refine HC.out.mono ?_; rintro e w1 ⟨rfl, hb1⟩)
  go_ret2
  exact ⟨_, rfl, World.ownsRow_nil _ _ _ _, hb1⟩

theorem Merge_ok (bk off cap : Nat) (xs : List (Int × Int)) (hm : xs.length ≤ 400) (hb : anyBad xs = false) (w : World) (hbk : bk < w.heap.size) (hX : RowAt w bk off xs) :
    Calls Try.prog 8 #[.slice (some ⟨bk, off, none⟩) xs.length cap] w (MergeOK w xs) := by
  have hc := containsFunc_any bk off cap xs (by omega) w hbk hX
  rw [hb] at hc
  have HC := Lib.hid hc
  have HX := Lib.hid hX
  have HB := Lib.hid hb
  have h' : (xs.length : Int) ≤ 400 := by omega
  have eg : ∀ args w, (callFunc 38 args).run Try.prog w = .ok (.enter 38 args) w := enters_of Try.func38 (by kernel_rfl) rfl
  have hmg : ∀ w1 : World, Below w.heap.size w w1 → Calls Try.prog 20 #[.func (.func 38) #[] #[.pointer (some ⟨w1.heap.size, 0, none⟩)], .func (.func 11) #[] #[]] (w1.alloc (.cells #[.slice (some ⟨bk, off, none⟩) xs.length cap] 22)) fun e w' =>
      ∃ v ys, e = .returned v ∧ Sep ys ∧ (∀ p, cov ys p ↔ cov xs p) ∧ ys.length ≤ xs.length ∧ w'.ownsRow w.heap.size 31 2 v ys.length (flatW ys) ∧ Below w.heap.size w w' := fun w1 hb1 => by
    have hs := hb1.size
    have hB2 := hb1.alloc hs (.cells #[.slice (some ⟨bk, off, none⟩) xs.length cap] 22)
    have hc2 : (w1.alloc (.cells #[.slice (some ⟨bk, off, none⟩) xs.length cap] 22)).cell? ⟨w1.heap.size, 0, none⟩ = some (.slice (some ⟨bk, off, none⟩) xs.length cap) := by simp [World.cell?_alloc_new]
    have hz : (w1.alloc (.cells #[.slice (some ⟨bk, off, none⟩) xs.length cap] 22)).heap.size = w1.heap.size + 1 := by simp
    have hX2 := HX.out.belowV hB2 hbk
    generalize w1.alloc (.cells #[.slice (some ⟨bk, off, none⟩) xs.length cap] 22) = w2 at hB2 hc2 hz hX2 ⊢
    have hst := values_stops 1 (by omega) w1.heap.size bk off cap w2.heap.size xs (by omega) w2 (Nat.le_refl _) (by omega) (by omega) hc2 hX2
    refine (merged_in 3 (by omega) _ _ eg w2.heap.size (fun ys => ys = xs) (fun pre => pre <+: xs) xs.length (by unfold maxLen; omega) (by omega) (fun ys h => by rw [h]; omega) w2 (Nat.le_refl _) hst).mono ?_
    rintro e w3 ⟨v, xs', zs, rfl, rfl, hp, ha, hl, hrow, hB3⟩
    obtain ⟨s1, s2⟩ := sweep_sorted hp ha (okW_of_anyBad HB.out)
    exact ⟨v, sweep zs, rfl, s1, s2, hl, ownsRow_base hrow (by omega), hB2.trans (hB3.mono hB2.size)⟩
  have HM := Lib.hid hmg
  clear hc hX hb hmg eg
  go_enter Try.func8, Try.ntmps8
  go_wp2_with (first
    | (go_at_call 19; refine HC.out.mono ?_; rintro e w1 ⟨rfl, hb1⟩)
    | (go_at_call 21; refine (values_any _ _ _ _).mono ?_; rintro e w2 ⟨rfl, rfl⟩)
    | (go_at_call 20; refine (HM.out _ hb1).mono ?_; rintro e w3 ⟨v, ys, rfl, h1, h2, h3, hrow, hB3⟩))
  go_ret2
  exact ⟨ys, h1, h2, h3, _, rfl, hrow, hB3⟩
#print axioms Merge_ok
end Go.Proofs.Ythbpdalkifocaaa
