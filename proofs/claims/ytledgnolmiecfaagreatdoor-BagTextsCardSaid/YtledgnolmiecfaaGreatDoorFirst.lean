/-
  bag's compareFirst, as a contract; two bags walked together, with their rows' slices.
-/
import Derived.Test.YtledgnolmiecfaaGreatDoorFollows
namespace Go.Proofs.YtledgnolmiecfaaGreatDoor
open Go.RowKit
set_option linter.unusedSimpArgs false

def firstC : List It → List It → Int
  | _, [] => -1
  | [], _ :: _ => 1
  | x :: _, y :: _ => cmpRow x.1 y.1

set_option maxRecDepth 100000 in
set_option maxHeartbeats 1000000 in
theorem compareFirst_any (p q : Option Addr) (rs ss : List ItR) (n m c d : Nat) (hn : n = rs.length) (hm : m = ss.length) (hb : 0 < n ∨ 0 < m) (w : World) (hX : ItemsIn w p rs) (hY : ItemsIn w q ss) :
    Calls Tryz.prog 93 #[.slice p n c, .slice q m d] w (BelowInt w (firstC (vals rs) (vals ss))) := by
  subst hn hm
  cases ss with
  | nil =>
    have e : firstC (vals rs) (vals []) = -1 := by cases rs <;> rfl
    rw [e]
    clear e hX hY
    go_enter Tryz.func93, Tryz.ntmps93
    go_wp2_with fail
    go_ret
    exact ⟨rfl, Below.refl _ _⟩
  | cons y ss =>
    have hz : (((y :: ss).length : Int) == 0) = false := by rw [beq_eq_false_iff_ne]; simp only [List.length_cons]; omega
    have hyp : 0 < (y :: ss).length := by simp
    obtain ⟨b2, off2, rfl, hbl2, hra2⟩ := hY (by simp)
    obtain ⟨d0, _, d2, _⟩ := hra2 0 (by simp)
    simp only [List.getElem?_cons_zero, Option.getD_some, Nat.zero_mul, Nat.add_zero] at d0 d2
    cases rs with
    | nil =>
      have e : firstC (vals []) (vals (y :: ss)) = 1 := rfl
      rw [e]
      clear e hX hY hra2 d0 d2 hb
      generalize (y :: ss).length = k at *
      have hk : ¬ (k = 0) := by omega
      go_enter Tryz.func93, Tryz.ntmps93
      go_wp2_with fail
      go_ret
      exact ⟨rfl, Below.refl _ _⟩
    | cons x rs =>
      have hz2 : (((x :: rs).length : Int) == 0) = false := by rw [beq_eq_false_iff_ne]; simp only [List.length_cons]; omega
      have hxp : 0 < (x :: rs).length := by simp
      obtain ⟨b, off, rfl, hbl, hra⟩ := hX (by simp)
      obtain ⟨c0, _, c2, _⟩ := hra 0 (by simp)
      simp only [List.getElem?_cons_zero, Option.getD_some, Nat.zero_mul, Nat.add_zero] at c0 c2
      have e : firstC (vals (x :: rs)) (vals (y :: ss)) = cmpRow x.1.2.1 y.1.2.1 := rfl
      rw [e]
      clear e hX hY hra2 hra hb
      obtain ⟨⟨xq, xs, xc⟩, xn⟩ := x
      obtain ⟨⟨yq, ys, yc⟩, yn⟩ := y
      dsimp only [rowv] at *
      have HC := Lib.hid fun W (h : Below w.heap.size w W) => rowCompare_any xq yq xs ys xc yc c2.1 d2.1 W (c2.belowV h).2 (d2.belowV h).2
      generalize (((xq, xs, xc), xn) :: rs).length = k at *
      generalize (((yq, ys, yc), yn) :: ss).length = l at *
      have hk : (0 : Int) < (k : Int) := by omega
      have hl : (0 : Int) < (l : Int) := by omega
      clear c2 d2
      go_enter Tryz.func93, Tryz.ntmps93
      go_wp2_with fail
      go_still_tail 8, (by kernel_rfl)
      have hB2 : Below w.heap.size w w.drew := (Below.refl _ _).drew
      clear c0 d0
      change wpList _ _ _ _ _ w.drew
      generalize w.drew = W7 at hB2 ⊢
      go_wp2_with fail
      refine (HC.out _ hB2).mono ?_
      rintro e w3 ⟨rfl, hb3⟩
      go_wp2_with fail
      go_ret
      exact ⟨rfl, hB2.trans (hb3.mono hB2.size)⟩

abbrev PrR := RowV × Int × Int
def prv (p : PrR) : Pr := (p.1.2.1, p.2.1, p.2.2)
def pairsR : List ItR → List ItR → List PrR
  | [], [] => []
  | x :: a, [] => (x.1, x.2, 0) :: pairsR a []
  | [], y :: b => (y.1, 0, y.2) :: pairsR [] b
  | x :: a, y :: b =>
    if cmpRow x.1.2.1 y.1.2.1 < 0 then (x.1, x.2, 0) :: pairsR a (y :: b)
    else if 0 < cmpRow x.1.2.1 y.1.2.1 then (y.1, 0, y.2) :: pairsR (x :: a) b
    else (y.1, x.2, y.2) :: pairsR a b
termination_by a b => a.length + b.length
theorem pairsR_vals (a b : List ItR) : (pairsR a b).map prv = pairsL (vals a) (vals b) := by
  fun_induction pairsR a b with
  | case1 => simp [vals, pairsL]
  | case2 x a ih => simp only [vals, List.map_cons, List.map_nil, pairsL] at ih ⊢; rw [ih]; rfl
  | case3 y b ih => simp only [vals, List.map_cons, List.map_nil, pairsL] at ih ⊢; rw [ih]; rfl
  | case4 x a y b h ih => simp only [vals, List.map_cons, pairsL, itv] at ih ⊢; rw [if_pos h, ih]; rfl
  | case5 x a y b h h' ih => simp only [vals, List.map_cons, pairsL, itv] at ih ⊢; rw [if_neg h, if_pos h', ih]; rfl
  | case6 x a y b h h' ih => simp only [vals, List.map_cons, pairsL, itv] at ih ⊢; rw [if_neg h, if_neg h', ih]; rfl
theorem pairsR_len (a b : List ItR) : (pairsR a b).length ≤ a.length + b.length := by
  have := congrArg List.length (pairsR_vals a b)
  have h := pairs_len (vals a) (vals b)
  rw [List.length_map] at this
  rw [vals_len, vals_len] at h
  omega
theorem pairsR_from (a b : List ItR) : ∀ p ∈ pairsR a b, (∃ x ∈ a, x.1 = p.1) ∨ ∃ y ∈ b, y.1 = p.1 := by
  fun_induction pairsR a b with
  | case1 => simp
  | case2 x a ih =>
    intro p hp
    rcases List.mem_cons.1 hp with rfl | hp
    · exact .inl ⟨x, by simp, rfl⟩
    · rcases ih p hp with ⟨z, hz, e⟩ | ⟨z, hz, e⟩
      · exact .inl ⟨z, by simp [hz], e⟩
      · exact .inr ⟨z, hz, e⟩
  | case3 y b ih =>
    intro p hp
    rcases List.mem_cons.1 hp with rfl | hp
    · exact .inr ⟨y, by simp, rfl⟩
    · rcases ih p hp with ⟨z, hz, e⟩ | ⟨z, hz, e⟩
      · exact .inl ⟨z, hz, e⟩
      · exact .inr ⟨z, by simp [hz], e⟩
  | case4 x a y b h ih =>
    intro p hp
    rcases List.mem_cons.1 hp with rfl | hp
    · exact .inl ⟨x, by simp, rfl⟩
    · rcases ih p hp with ⟨z, hz, e⟩ | ⟨z, hz, e⟩
      · exact .inl ⟨z, by simp [hz], e⟩
      · exact .inr ⟨z, hz, e⟩
  | case5 x a y b h h' ih =>
    intro p hp
    rcases List.mem_cons.1 hp with rfl | hp
    · exact .inr ⟨y, by simp, rfl⟩
    · rcases ih p hp with ⟨z, hz, e⟩ | ⟨z, hz, e⟩
      · exact .inl ⟨z, hz, e⟩
      · exact .inr ⟨z, by simp [hz], e⟩
  | case6 x a y b h h' ih =>
    intro p hp
    rcases List.mem_cons.1 hp with rfl | hp
    · exact .inr ⟨y, by simp, rfl⟩
    · rcases ih p hp with ⟨z, hz, e⟩ | ⟨z, hz, e⟩
      · exact .inl ⟨z, by simp [hz], e⟩
      · exact .inr ⟨z, by simp [hz], e⟩
/-- The next pair: out of a alone, out of b alone, out of both. -/
theorem pairsR_left {rs ss : List ItR} {i j : Nat} (hi : i < rs.length) (h : firstC (vals (rs.drop i)) (vals (ss.drop j)) < 0) :
    pairsR (rs.drop i) (ss.drop j) = ((rs[i]?.getD ir0).1, (rs[i]?.getD ir0).2, 0) :: pairsR (rs.drop (i + 1)) (ss.drop j) := by
  rw [List.drop_eq_getElem_cons hi] at h ⊢
  rw [List.getElem?_eq_getElem hi]
  cases e : ss.drop j with
  | nil => rw [pairsR]; rfl
  | cons y b =>
    rw [e] at h
    simp only [vals, List.map_cons, firstC, itv] at h
    rw [pairsR, if_pos h]; rfl
theorem pairsR_right {rs ss : List ItR} {i j : Nat} (hj : j < ss.length) (h : 0 < firstC (vals (rs.drop i)) (vals (ss.drop j))) :
    pairsR (rs.drop i) (ss.drop j) = ((ss[j]?.getD ir0).1, 0, (ss[j]?.getD ir0).2) :: pairsR (rs.drop i) (ss.drop (j + 1)) := by
  rw [List.drop_eq_getElem_cons hj] at h ⊢
  rw [List.getElem?_eq_getElem hj]
  cases e : rs.drop i with
  | nil => rw [pairsR]; rfl
  | cons y b =>
    rw [e] at h
    simp only [vals, List.map_cons, firstC, itv] at h
    rw [pairsR, if_neg (by omega), if_pos h]; rfl
theorem pairsR_both {rs ss : List ItR} {i j : Nat} (hi : i < rs.length) (hj : j < ss.length) (h : firstC (vals (rs.drop i)) (vals (ss.drop j)) = 0) :
    pairsR (rs.drop i) (ss.drop j) = ((ss[j]?.getD ir0).1, (rs[i]?.getD ir0).2, (ss[j]?.getD ir0).2) :: pairsR (rs.drop (i + 1)) (ss.drop (j + 1)) := by
  rw [List.drop_eq_getElem_cons hi, List.drop_eq_getElem_cons hj] at h ⊢
  rw [List.getElem?_eq_getElem hi, List.getElem?_eq_getElem hj]
  simp only [vals, List.map_cons, firstC, itv] at h
  rw [pairsR, if_neg (by omega), if_neg (by omega)]; rfl
theorem firstC_both {rs ss : List ItR} {i j : Nat} (h : 0 ≤ firstC (vals (rs.drop i)) (vals (ss.drop j))) : j < ss.length := by
  by_cases hj : j < ss.length
  · exact hj
  · rw [List.drop_of_length_le (l := ss) (by omega)] at h
    have : firstC (vals (rs.drop i)) (vals []) = -1 := by cases rs.drop i <;> rfl
    omega
theorem firstC_le {rs ss : List ItR} {i j : Nat} (hij : i < rs.length ∨ j < ss.length) (h : firstC (vals (rs.drop i)) (vals (ss.drop j)) ≤ 0) : i < rs.length := by
  by_cases hi : i < rs.length
  · exact hi
  · have hj : j < ss.length := by omega
    rw [List.drop_of_length_le (l := rs) (by omega), List.drop_eq_getElem_cons hj] at h
    exact absurd h (by simp only [vals, List.map_nil, List.map_cons, firstC]; omega)
end Go.Proofs.YtledgnolmiecfaaGreatDoor
