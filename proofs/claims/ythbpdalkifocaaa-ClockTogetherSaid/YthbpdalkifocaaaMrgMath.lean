/-
  Plain facts for the law on merging: a window lies within one of the merged; none of these touch; two places of a list exchanged.
-/
import Derived.Test.YthbpdalkifocaaaOpen
namespace Go.Proofs.Ythbpdalkifocaaa
open Go.RowKit

def inW (y x : Win) : Bool := decide (y.1 ≤ x.1) && decide (x.2 ≤ y.2)
def anyIn (ys : List Win) (x : Win) : Bool := ys.any fun y => inW y x
theorem anyIn_next {ys : List Win} {k : Nat} (h : k < ys.length) (x : Win) : anyIn (ys.take (k + 1)) x = (anyIn (ys.take k) x || inW (ys[k]?.getD (0, 0)) x) := by
  rw [List.take_succ_eq_append_getElem h]; unfold anyIn; rw [List.any_append]; simp [h]
theorem anyIn_all {ys xs : List Win} (hs : Sep ys) (hc : ∀ p, cov ys p ↔ cov xs p) {x : Win} (hx : x ∈ xs) (hok : okW x) : anyIn ys x = true := by
  obtain ⟨r, hr, h1, h2⟩ := hs.within hok (fun p hp => (hc p).2 ⟨x, hx, hp⟩)
  unfold anyIn; rw [List.any_eq_true]; exact ⟨r, hr, by simp [inW, h1, h2]⟩
theorem Sep.apart {ys : List Win} (hs : Sep ys) {i k : Nat} (hi : i < ys.length) (hk : k < i) : touches (ys[i]?.getD (0, 0)).1 (ys[i]?.getD (0, 0)).2 (ys[k]?.getD (0, 0)).1 (ys[k]?.getD (0, 0)).2 = false := by
  have hk' : k < ys.length := by omega
  have h := List.pairwise_iff_getElem.1 hs.2 k i hk' hi hk
  rw [Bool.eq_false_iff]
  intro ht
  obtain ⟨_, _, h1, h2⟩ := (touches_iff _ _ _ _).1 ht
  simp only [List.getElem?_eq_getElem hi, List.getElem?_eq_getElem hk', Option.getD_some] at h1 h2
  omega
theorem anyBad_of_ok {ys : List Win} (h : ∀ x ∈ ys, okW x) : anyBad ys = false := by
  unfold anyBad
  rw [List.any_eq_false]
  intro x hx
  rw [winOK_yes (h x hx)]
  simp

def swapW (zs : List Win) (i k : Nat) : List Win := (zs.set i (zs[k]?.getD (0, 0))).set k (zs[i]?.getD (0, 0))
theorem swapW_len (zs : List Win) (i k : Nat) : (swapW zs i k).length = zs.length := by simp [swapW]
theorem swapW_perm {zs : List Win} {i k : Nat} (hi : i < zs.length) (hk : k < zs.length) : (swapW zs i k).Perm zs := by
  have h := Array.swap_perm (xs := zs.toArray) (i := i) (j := k) (by simpa using hi) (by simpa using hk)
  have e := Array.perm_iff_toList_perm.1 h
  simp only [Array.toList_swap] at e
  simpa [swapW, List.getElem?_eq_getElem hi, List.getElem?_eq_getElem hk] using e
theorem pick_lt (p : Int) (d : Nat) (hd : 0 < d) : ∃ k : Nat, p % (d : Int) = (k : Int) ∧ k < d := by
  refine ⟨(p % (d : Int)).toNat, ?_, ?_⟩
  · rw [Int.toNat_of_nonneg (Int.emod_nonneg _ (by omega))]
  · have := Int.emod_lt_of_pos p (show (0 : Int) < d by omega)
    omega
theorem flatW_set : ∀ (ws : List Win) (i : Nat) (x : Win), flatW (ws.set i x) = ((flatW ws).set (i * 2) (.int .i64 x.1)).set (i * 2 + 1) (.int .i64 x.2)
  | [], i, x => by simp [flatW]
  | w :: ws, 0, x => by simp [flatW, cellsW]
  | w :: ws, i + 1, x => by
    have h := flatW_set ws i x
    rw [show (i + 1) * 2 = i * 2 + 2 by omega]
    simp only [flatW, List.set_cons_succ, List.flatMap_cons, cellsW, List.cons_append, List.nil_append] at h ⊢
    rw [h]
theorem flatW_swap (ws : List Win) (i k : Nat) (a b : Win) (ha : ws[i]?.getD (0, 0) = a) (hb : ws[k]?.getD (0, 0) = b) :
    flatW (swapW ws i k) = ((((flatW ws).set (i * 2) (.int .i64 b.1)).set (i * 2 + 1) (.int .i64 b.2)).set (k * 2) (.int .i64 a.1)).set (k * 2 + 1) (.int .i64 a.2) := by
  unfold swapW
  rw [ha, hb, flatW_set, flatW_set]
theorem pick_val (pk : Int) (n i : Nat) (h : i < n) (hn : n ≤ 1000000) : ∃ k : Nat, wrap64 ((i : Int) + wrap64 ((IntKind.u64.wrap pk).tmod ((n : Int) - (i : Int)))) = (k : Int) ∧ i ≤ k ∧ k < n := by
  have h0 : 0 ≤ IntKind.u64.wrap pk := by simp [IntKind.wrap, IntKind.signed, IntKind.bits]; omega
  generalize IntKind.u64.wrap pk = m at h0
  have e : m.tmod ((n : Int) - (i : Int)) = m % ((n : Int) - (i : Int)) := Int.tmod_eq_emod_of_nonneg h0
  have h1 := Int.emod_nonneg m (show (n : Int) - (i : Int) ≠ 0 by omega)
  have h2 := Int.emod_lt_of_pos m (show (0 : Int) < (n : Int) - (i : Int) by omega)
  rw [e]
  generalize m % ((n : Int) - (i : Int)) = d at h1 h2
  refine ⟨i + d.toNat, ?_, by omega, by omega⟩
  have e1 : wrap64 d = d := IntWalk.wrap64_in d ⟨by omega, by omega⟩
  rw [e1, IntWalk.wrap64_in _ ⟨by omega, by omega⟩]
  omega
end Go.Proofs.Ythbpdalkifocaaa
