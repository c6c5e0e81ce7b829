/-
  Sum, Minus, Times, Distinct, Meet and Join of package bag, as contracts.
-/
import Derived.Test.YtledgnolmiecfaaGreatDoorComb
namespace Go.Proofs.YtledgnolmiecfaaGreatDoor
open Go.RowKit
set_option linter.unusedSimpArgs false

theorem pairs_num (a b : List It) : ∀ p ∈ pairsL a b, (p.2.1 = 0 ∨ ∃ x ∈ a, x.2 = p.2.1) ∧ (p.2.2 = 0 ∨ ∃ x ∈ b, x.2 = p.2.2) := by
  fun_induction pairsL a b with
  | case1 => simp
  | case2 x a ih =>
    intro p hp
    rcases List.mem_cons.1 hp with rfl | hp
    · exact ⟨.inr ⟨x, by simp, rfl⟩, .inl rfl⟩
    · obtain ⟨h1, h2⟩ := ih p hp
      exact ⟨h1.imp id fun ⟨z, hz, e⟩ => ⟨z, by simp [hz], e⟩, h2⟩
  | case3 y b ih =>
    intro p hp
    rcases List.mem_cons.1 hp with rfl | hp
    · exact ⟨.inl rfl, .inr ⟨y, by simp, rfl⟩⟩
    · obtain ⟨h1, h2⟩ := ih p hp
      exact ⟨h1, h2.imp id fun ⟨z, hz, e⟩ => ⟨z, by simp [hz], e⟩⟩
  | case4 x a y b h ih =>
    intro p hp
    rcases List.mem_cons.1 hp with rfl | hp
    · exact ⟨.inr ⟨x, by simp, rfl⟩, .inl rfl⟩
    · obtain ⟨h1, h2⟩ := ih p hp
      exact ⟨h1.imp id fun ⟨z, hz, e⟩ => ⟨z, by simp [hz], e⟩, h2⟩
  | case5 x a y b h h' ih =>
    intro p hp
    rcases List.mem_cons.1 hp with rfl | hp
    · exact ⟨.inl rfl, .inr ⟨y, by simp, rfl⟩⟩
    · obtain ⟨h1, h2⟩ := ih p hp
      exact ⟨h1, h2.imp id fun ⟨z, hz, e⟩ => ⟨z, by simp [hz], e⟩⟩
  | case6 x a y b h h' ih =>
    intro p hp
    rcases List.mem_cons.1 hp with rfl | hp
    · exact ⟨.inr ⟨x, by simp, rfl⟩, .inr ⟨y, by simp, rfl⟩⟩
    · obtain ⟨h1, h2⟩ := ih p hp
      exact ⟨h1.imp id fun ⟨z, hz, e⟩ => ⟨z, by simp [hz], e⟩, h2.imp id fun ⟨z, hz, e⟩ => ⟨z, by simp [hz], e⟩⟩
theorem comb_congr {f g : Int → Int → Int} {a b : List It} (h : ∀ p ∈ pairsL a b, f p.2.1 p.2.2 = g p.2.1 p.2.2) : comb f a b = comb g a b := by
  unfold comb mapped
  congr 1
  exact List.map_congr_left fun p hp => by unfold become; rw [h p hp]
def small (n : Int) : Prop := -1000000 ≤ n ∧ n ≤ 1000000
theorem comb_small {f g : Int → Int → Int} {a b : List It} (ha : validBag a = true) (hb : validBag b = true) (h : ∀ x y, small x → small y → f x y = g x y) : comb f a b = comb g a b :=
  comb_congr fun p hp => by
    obtain ⟨h1, h2⟩ := pairs_num a b p hp
    refine h _ _ ?_ ?_
    · rcases h1 with h1 | ⟨z, hz, e⟩
      · rw [h1]; exact ⟨by omega, by omega⟩
      · have := (itOK_iff.1 ((validBag_iff.1 ha).2.1 z hz)).2
        rw [e] at this
        exact ⟨this.2.1, this.2.2⟩
    · rcases h2 with h2 | ⟨z, hz, e⟩
      · rw [h2]; exact ⟨by omega, by omega⟩
      · have := (itOK_iff.1 ((validBag_iff.1 hb).2.1 z hz)).2
        rw [e] at this
        exact ⟨this.2.1, this.2.2⟩
theorem combVal_small {f g : Int → Int → Int} {a b : List It} (h : ∀ x y, small x → small y → f x y = g x y) : combVal f a b = combVal g a b := by
  unfold combVal
  by_cases hv : validBag a = true ∧ validBag b = true
  · rw [if_pos hv, if_pos hv, comb_small hv.1 hv.2 h]
  · rw [if_neg hv, if_neg hv]
theorem combErr_small {f g : Int → Int → Int} {a b : List It} (h : ∀ x y, small x → small y → f x y = g x y) : combErr f a b = combErr g a b := by
  unfold combErr
  by_cases hv : validBag a = true ∧ validBag b = true
  · rw [if_pos hv, if_pos hv, comb_small hv.1 hv.2 h]
  · rw [if_neg hv, if_neg hv]

theorem toldVal_len (l : List It) : (toldVal l).length ≤ 400 := by
  unfold toldVal
  by_cases h : validBag l = true
  · rw [if_pos h]; exact (validBag_iff.1 h).1
  · rw [if_neg h]; simp
theorem combVal_len (f : Int → Int → Int) (a b : List It) : (combVal f a b).length ≤ 400 := by
  unfold combVal
  split
  · exact toldVal_len _
  · simp
theorem becomes_minus (w : World) : Becomes w 49 #[] (fun x y => wrap64 (x - y)) :=
  ⟨enters_of Tryz.func49 (by kernel_rfl) rfl, fun x y W _ => by
    show Calls _ _ #[.int .i64 x, .int .i64 y] _ _
    go_enter Tryz.func49, Tryz.ntmps49
    go_wp2
    go_ret
    exact ⟨rfl, rfl⟩⟩

set_option maxRecDepth 100000 in
theorem Minus_any (p q : Option Addr) (rs ss : List ItR) (c d : Nat) (hm1 : rs.length ≤ 100000) (hm2 : ss.length ≤ 100000) (hc : rs.length ≤ c) (hd : ss.length ≤ d) (w : World) (hX : ItemsIn w p rs) (hZ : ItemsIn w q ss) :
    Calls Tryz.prog 31 #[.slice p rs.length c, .slice q ss.length d] w (BagPost w.heap.size w (combVal (fun x y => x - y) (vals rs) (vals ss)) (combErr (fun x y => x - y) (vals rs) (vals ss))) := by
  have h := combined_any p q rs ss c d hm1 hm2 hc hd 49 #[] _ w hX hZ (becomes_minus w)
  have hs : ∀ x y : Int, small x → small y → wrap64 (x - y) = x - y := fun x y hx hy => IntWalk.wrap64_in _ (by unfold small at hx hy; omega)
  rw [combVal_small hs, combErr_small hs] at h
  have H := Lib.hid h
  clear h hs hX hZ
  go_enter Tryz.func31, Tryz.ntmps31
  go_wp2_with fail
  refine H.out.mono ?_
  rintro e w1 ⟨p1, s1, c1, rfl, hh⟩
  go_wp2_with fail
  go_ret2
  exact ⟨p1, s1, c1, rfl, hh⟩
#print axioms Minus_any
end Go.Proofs.YtledgnolmiecfaaGreatDoor
