/-
  Which aggregates and lists of them are valid, in both packages.
-/
import Derived.Test.YtfoknllnknjccaaGreatToldV
namespace Go.Proofs.YtfoknllnknjccaaGreat
open Go.RowKit

def aggP (n : Int) (a : Ag) : Prop := (a.1 = 1 ∧ a.2 = 0) ∨ (2 ≤ a.1 ∧ a.1 ≤ 7 ∧ 0 ≤ a.2 ∧ a.2 < n)
instance (n : Int) (a : Ag) : Decidable (aggP n a) := by unfold aggP; infer_instance
def aggOK (n : Int) (a : Ag) : Bool := decide (aggP n a)
abbrev nAg (a : Ag) : Value := .agg #[.int .i64 a.1, .int .i64 a.2]
abbrev oAg (a : Ag) : Obj := .cells #[.int .i64 a.1, .int .i64 a.2] 59
def AgPost (w : World) (b : Bool) (e : Ending) (w' : World) : Prop := e = .returned (.bool b) ∧ Below w.heap.size w w'

theorem within5_any (n lo hi : Int) (w : World) :
    Calls Tryz.prog 31 #[.int .i64 n, .int .i64 lo, .int .i64 hi] w fun e w' => e = .returned (.bool (decide (lo ≤ n ∧ n ≤ hi))) ∧ w = w' := by
  by_cases h : lo ≤ n
  · have e : decide (lo ≤ n ∧ n ≤ hi) = decide (n ≤ hi) := by simp [h]
    rw [e]
    clear e
    go_enter Tryz.func31, Tryz.ntmps31
    go_wp2
    go_ret
    exact ⟨rfl, rfl⟩
  · have e : decide (lo ≤ n ∧ n ≤ hi) = false := by rw [decide_eq_false]; omega
    have h' : n < lo := by omega
    rw [e]
    clear e
    go_enter Tryz.func31, Tryz.ntmps31
    go_wp2
    go_ret
    exact ⟨rfl, rfl⟩

set_option maxRecDepth 100000 in
set_option maxHeartbeats 1000000 in
theorem validAgg_any (a : Ag) (n : Int) (w : World) : Calls Tryz.prog 59 #[nAg a, .int .i64 n] w (AgPost w (aggOK n a)) := by
  obtain ⟨k, c⟩ := a
  have hbA : Below w.heap.size w (w.alloc (oAg (k, c))) := below_new _ _
  have hK := Blk.new w 59 #[.int .i64 k, .int .i64 c]
  have c0 := hK.cell 0
  have c1 := hK.cell 1
  simp only [List.getElem?_toArray, List.getElem?_cons_zero, List.getElem?_cons_succ] at c0 c1
  have HB := Lib.hid hbA
  clear hK hbA
  dsimp only [oAg] at HB
  by_cases h1 : k = 1
  · subst h1
    by_cases h0 : c = 0
    · have e : aggOK n (1, c) = true := decide_eq_true (.inl ⟨rfl, h0⟩)
      have hd : (c == 0) = true := by rw [beq_iff_eq]; exact h0
      rw [e]
      clear h0 e
      go_enter Tryz.func59, Tryz.ntmps59
      go_wp2_with fail
      all_goals go_ret
      all_goals exact ⟨rfl, HB.out⟩
    · have e : aggOK n (1, c) = false := decide_eq_false (by rintro (h | h); exact h0 h.2; exact absurd h.1 (by show ¬ (2 : Int) ≤ 1; decide))
      have hd : (c == 0) = false := by rw [beq_eq_false_iff_ne]; exact h0
      rw [e]
      clear h0 e
      go_enter Tryz.func59, Tryz.ntmps59
      go_wp2_with fail
      all_goals go_ret
      all_goals exact ⟨rfl, HB.out⟩
  · have g1 : (k == 1) = false := by rw [beq_eq_false_iff_ne]; exact h1
    by_cases hk : 2 ≤ k ∧ k ≤ 7
    · have hk' : k = 2 ∨ k = 3 ∨ k = 4 ∨ k = 5 ∨ k = 6 ∨ k = 7 := by omega
      by_cases h0 : 0 ≤ c
      · by_cases hn : c < n
        · have e : aggOK n (k, c) = true := decide_eq_true (.inr ⟨hk.1, hk.2, h0, hn⟩)
          rw [e]
          clear e h1 hk g1
          rcases hk' with rfl | rfl | rfl | rfl | rfl | rfl
          · go_enter Tryz.func59, Tryz.ntmps59
            go_wp2_with fail
            all_goals go_ret
            all_goals exact ⟨rfl, HB.out⟩
          · go_enter Tryz.func59, Tryz.ntmps59
            go_wp2_with fail
            all_goals go_ret
            all_goals exact ⟨rfl, HB.out⟩
          · go_enter Tryz.func59, Tryz.ntmps59
            go_wp2_with fail
            all_goals go_ret
            all_goals exact ⟨rfl, HB.out⟩
          · go_enter Tryz.func59, Tryz.ntmps59
            go_wp2_with fail
            all_goals go_ret
            all_goals exact ⟨rfl, HB.out⟩
          · go_enter Tryz.func59, Tryz.ntmps59
            go_wp2_with fail
            all_goals go_ret
            all_goals exact ⟨rfl, HB.out⟩
          · go_enter Tryz.func59, Tryz.ntmps59
            go_wp2_with fail
            all_goals go_ret
            all_goals exact ⟨rfl, HB.out⟩
        · have e : aggOK n (k, c) = false := decide_eq_false (by rintro (h | h); exact h1 h.1; exact hn h.2.2.2)
          have hn' : decide (c < n) = false := decide_eq_false hn
          rw [e]
          clear e h1 hk g1
          rcases hk' with rfl | rfl | rfl | rfl | rfl | rfl
          · go_enter Tryz.func59, Tryz.ntmps59
            go_wp2_with fail
            all_goals go_ret
            all_goals exact ⟨rfl, HB.out⟩
          · go_enter Tryz.func59, Tryz.ntmps59
            go_wp2_with fail
            all_goals go_ret
            all_goals exact ⟨rfl, HB.out⟩
          · go_enter Tryz.func59, Tryz.ntmps59
            go_wp2_with fail
            all_goals go_ret
            all_goals exact ⟨rfl, HB.out⟩
          · go_enter Tryz.func59, Tryz.ntmps59
            go_wp2_with fail
            all_goals go_ret
            all_goals exact ⟨rfl, HB.out⟩
          · go_enter Tryz.func59, Tryz.ntmps59
            go_wp2_with fail
            all_goals go_ret
            all_goals exact ⟨rfl, HB.out⟩
          · go_enter Tryz.func59, Tryz.ntmps59
            go_wp2_with fail
            all_goals go_ret
            all_goals exact ⟨rfl, HB.out⟩
      · have e : aggOK n (k, c) = false := decide_eq_false (by rintro (h | h); exact h1 h.1; exact h0 h.2.2.1)
        have h0' : c < 0 := by omega
        have h0'' : decide (0 ≤ c) = false := decide_eq_false h0
        rw [e]
        clear e h1 hk g1 h0
        rcases hk' with rfl | rfl | rfl | rfl | rfl | rfl
        · go_enter Tryz.func59, Tryz.ntmps59
          go_wp2_with fail
          all_goals go_ret
          all_goals exact ⟨rfl, HB.out⟩
        · go_enter Tryz.func59, Tryz.ntmps59
          go_wp2_with fail
          all_goals go_ret
          all_goals exact ⟨rfl, HB.out⟩
        · go_enter Tryz.func59, Tryz.ntmps59
          go_wp2_with fail
          all_goals go_ret
          all_goals exact ⟨rfl, HB.out⟩
        · go_enter Tryz.func59, Tryz.ntmps59
          go_wp2_with fail
          all_goals go_ret
          all_goals exact ⟨rfl, HB.out⟩
        · go_enter Tryz.func59, Tryz.ntmps59
          go_wp2_with fail
          all_goals go_ret
          all_goals exact ⟨rfl, HB.out⟩
        · go_enter Tryz.func59, Tryz.ntmps59
          go_wp2_with fail
          all_goals go_ret
          all_goals exact ⟨rfl, HB.out⟩
    · have e : aggOK n (k, c) = false := decide_eq_false (by rintro (h | h); exact h1 h.1; exact hk ⟨h.1, h.2.1⟩)
      rw [e]
      have g2 : (k == 2) = false := by rw [beq_eq_false_iff_ne]; omega
      have g3 : (k == 3) = false := by rw [beq_eq_false_iff_ne]; omega
      have g4 : (k == 4) = false := by rw [beq_eq_false_iff_ne]; omega
      have g5 : (k == 5) = false := by rw [beq_eq_false_iff_ne]; omega
      have g6 : (k == 6) = false := by rw [beq_eq_false_iff_ne]; omega
      have g7 : (k == 7) = false := by rw [beq_eq_false_iff_ne]; omega
      clear e h1 hk
      go_enter Tryz.func59, Tryz.ntmps59
      go_wp2_with fail
      all_goals go_ret
      all_goals exact ⟨rfl, HB.out⟩

set_option maxRecDepth 100000 in
set_option maxHeartbeats 1000000 in
theorem refValidAgg_any (a : Ag) (n : Int) (w : World) : Calls Tryz.prog 60 #[nAg a, .int .i64 n] w (AgPost w (aggOK n a)) := by
  obtain ⟨k, c⟩ := a
  have hbA : Below w.heap.size w (w.alloc (oAg (k, c))) := below_new _ _
  have hK := Blk.new w 59 #[.int .i64 k, .int .i64 c]
  have c0 := hK.cell 0
  have c1 := hK.cell 1
  simp only [List.getElem?_toArray, List.getElem?_cons_zero, List.getElem?_cons_succ] at c0 c1
  have HB := Lib.hid hbA
  clear hK hbA
  dsimp only [oAg] at HB
  by_cases h1 : k = 1
  · subst h1
    by_cases h0 : c = 0
    · have e : aggOK n (1, c) = true := decide_eq_true (.inl ⟨rfl, h0⟩)
      have hd : (c == 0) = true := by rw [beq_iff_eq]; exact h0
      rw [e]
      clear h0 e
      go_enter Tryz.func60, Tryz.ntmps60
      go_wp2_with fail
      all_goals go_ret
      all_goals exact ⟨rfl, HB.out⟩
    · have e : aggOK n (1, c) = false := decide_eq_false (by rintro (h | h); exact h0 h.2; exact absurd h.1 (by show ¬ (2 : Int) ≤ 1; decide))
      have hd : (c == 0) = false := by rw [beq_eq_false_iff_ne]; exact h0
      rw [e]
      clear h0 e
      go_enter Tryz.func60, Tryz.ntmps60
      go_wp2_with fail
      all_goals go_ret
      all_goals exact ⟨rfl, HB.out⟩
  · have g1 : (k == 1) = false := by rw [beq_eq_false_iff_ne]; exact h1
    by_cases hk : 2 ≤ k ∧ k ≤ 7
    · have HW := Lib.hid fun W => within5_any k 2 7 W
      rw [decide_eq_true hk] at HW
      by_cases h0 : 0 ≤ c
      · have h0' : decide (c ≥ 0) = true := decide_eq_true h0
        by_cases hn : c < n
        · have e : aggOK n (k, c) = true := decide_eq_true (.inr ⟨hk.1, hk.2, h0, hn⟩)
          rw [e]
          clear e h1 hk
          go_enter Tryz.func60, Tryz.ntmps60
          go_wp2_with fail
          refine (HW.out _).mono ?_
          rintro e w1 ⟨rfl, rfl⟩
          go_wp2_with fail
          all_goals go_ret
          all_goals exact ⟨rfl, HB.out⟩
        · have e : aggOK n (k, c) = false := decide_eq_false (by rintro (h | h); exact h1 h.1; exact hn h.2.2.2)
          have hn' : decide (c < n) = false := decide_eq_false hn
          rw [e]
          clear e h1 hk
          go_enter Tryz.func60, Tryz.ntmps60
          go_wp2_with fail
          refine (HW.out _).mono ?_
          rintro e w1 ⟨rfl, rfl⟩
          go_wp2_with fail
          all_goals go_ret
          all_goals exact ⟨rfl, HB.out⟩
      · have e : aggOK n (k, c) = false := decide_eq_false (by rintro (h | h); exact h1 h.1; exact h0 h.2.2.1)
        have h0' : c < 0 := by omega
        rw [e]
        clear e h1 hk
        go_enter Tryz.func60, Tryz.ntmps60
        go_wp2_with fail
        refine (HW.out _).mono ?_
        rintro e w1 ⟨rfl, rfl⟩
        go_wp2_with fail
        all_goals go_ret
        all_goals exact ⟨rfl, HB.out⟩
    · have HW := Lib.hid fun W => within5_any k 2 7 W
      rw [decide_eq_false hk] at HW
      have e : aggOK n (k, c) = false := decide_eq_false (by rintro (h | h); exact h1 h.1; exact hk ⟨h.1, h.2.1⟩)
      rw [e]
      clear e h1 hk
      go_enter Tryz.func60, Tryz.ntmps60
      go_wp2_with fail
      refine (HW.out _).mono ?_
      rintro e w1 ⟨rfl, rfl⟩
      go_wp2_with fail
      all_goals go_ret
      all_goals exact ⟨rfl, HB.out⟩
end Go.Proofs.YtfoknllnknjccaaGreat
