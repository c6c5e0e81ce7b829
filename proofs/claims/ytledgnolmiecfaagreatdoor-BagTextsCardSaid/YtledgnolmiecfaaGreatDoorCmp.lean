/-
  Both orders of values, as contracts.
-/
import Derived.Test.YtledgnolmiecfaaGreatDoorCmpMath
import Derived.Test.YtledgnolmiecfaaGreatDoorBlk
import Derived.Test.YtledgnolmiecfaaGreatDoorLaid
import Derived.WalkLawsBesides
import Derived.Laws.EntriesVeiled
namespace Go.Proofs.YtledgnolmiecfaaGreatDoor
open Go.RowKit
set_option linter.unusedSimpArgs false

def BelowInt (w : World) (n : Int) (e : Ending) (w' : World) : Prop := e = .returned (.int .i64 n) ∧ Below w.heap.size w w'

theorem kindOf_any (k n : Int) (s : ByteArray) (w : World) : Calls Tryz.prog 89 #[.agg #[.int .i64 k, .int .i64 n, .string s]] w (BelowInt w (cls k)) := by
  by_cases h : k = 1 ∨ k = 2
  · have e : cls k = k := by unfold cls; rw [if_pos h]
    rw [e]
    clear e
    rcases h with rfl | rfl
    · go_enter Tryz.func89, Tryz.ntmps89
      go_wp2
      go_ret
      exact ⟨rfl, (Below.refl _ _).alloc (Nat.le_refl _) _⟩
    · go_enter Tryz.func89, Tryz.ntmps89
      go_wp2
      go_ret
      exact ⟨rfl, (Below.refl _ _).alloc (Nat.le_refl _) _⟩
  · have e : cls k = 0 := by unfold cls; rw [if_neg h]
    have h1 : (k == 1) = false := by rw [beq_eq_false_iff_ne]; omega
    have h2 : (k == 2) = false := by rw [beq_eq_false_iff_ne]; omega
    rw [e]
    clear e h
    go_enter Tryz.func89, Tryz.ntmps89
    go_wp2
    go_ret
    exact ⟨rfl, (Below.refl _ _).alloc (Nat.le_refl _) _⟩
theorem class_any (k n : Int) (s : ByteArray) (w : World) : Calls Tryz.prog 64 #[.agg #[.int .i64 k, .int .i64 n, .string s]] w (BelowInt w (cls k)) := by
  by_cases h : k = 1 ∨ k = 2
  · have e : cls k = k := by unfold cls; rw [if_pos h]
    rw [e]
    clear e
    rcases h with rfl | rfl
    · go_enter Tryz.func64, Tryz.ntmps64
      go_wp2
      go_ret
      exact ⟨rfl, (Below.refl _ _).alloc (Nat.le_refl _) _⟩
    · go_enter Tryz.func64, Tryz.ntmps64
      go_wp2
      go_ret
      exact ⟨rfl, (Below.refl _ _).alloc (Nat.le_refl _) _⟩
  · have e : cls k = 0 := by unfold cls; rw [if_neg h]
    have h1 : (k == 1) = false := by rw [beq_eq_false_iff_ne]; omega
    have h2 : (k == 2) = false := by rw [beq_eq_false_iff_ne]; omega
    rw [e]
    clear e h
    go_enter Tryz.func64, Tryz.ntmps64
    go_wp2
    go_ret
    exact ⟨rfl, (Below.refl _ _).alloc (Nat.le_refl _) _⟩

theorem two_below (w : World) (c d : Array Value) (t u : TypeId) : Below w.heap.size w ((w.alloc (.cells c t)).alloc (.cells d u)) := ((Below.refl _ _).alloc (Nat.le_refl _) _).alloc (by simp) _

theorem alike_any (k n l m : Int) (s r : ByteArray) (w : World) : Calls Tryz.prog 86 #[.agg #[.int .i64 k, .int .i64 n, .string s], .agg #[.int .i64 l, .int .i64 m, .string r]] w (BelowInt w 0) := by
  go_enter Tryz.func86, Tryz.ntmps86
  go_wp2
  go_ret
  exact ⟨rfl, two_below _ _ _ _ _⟩
theorem byNumber_any (k n l m : Int) (s r : ByteArray) (w : World) : Calls Tryz.prog 87 #[.agg #[.int .i64 k, .int .i64 n, .string s], .agg #[.int .i64 l, .int .i64 m, .string r]] w (BelowInt w (Lib.compareInt n m)) := by
  go_enter Tryz.func87, Tryz.ntmps87
  go_wp2_with (go_at_call 90; refine (Tryz.cmp_Compare_int _ _ _).mono ?_; rintro e w' ⟨rfl, rfl⟩)
  go_ret
  exact ⟨rfl, two_below _ _ _ _ _⟩
theorem byText_any (k n l m : Int) (s r : ByteArray) (w : World) : Calls Tryz.prog 88 #[.agg #[.int .i64 k, .int .i64 n, .string s], .agg #[.int .i64 l, .int .i64 m, .string r]] w (BelowInt w (Lib.compareBytes s.data.toList r.data.toList)) := by
  go_enter Tryz.func88, Tryz.ntmps88
  go_wp2_with (go_at_call 113; refine (Tryz.strings_Compare _ _ _).mono ?_; rintro e w' ⟨rfl, rfl⟩)
  go_ret
  exact ⟨rfl, two_below _ _ _ _ _⟩

/-- Three new blocks in a row. -/
theorem three_new (w : World) (c d f : Array Value) (t u v : TypeId) : Below w.heap.size w (((w.alloc (.cells c t)).alloc (.cells d u)).alloc (.cells f v)) ∧ Blk (((w.alloc (.cells c t)).alloc (.cells d u)).alloc (.cells f v)) w.heap.size t c ∧
    Blk (((w.alloc (.cells c t)).alloc (.cells d u)).alloc (.cells f v)) (w.heap.size + 1) u d ∧ Blk (((w.alloc (.cells c t)).alloc (.cells d u)).alloc (.cells f v)) (w.heap.size + 1 + 1) v f ∧ (((w.alloc (.cells c t)).alloc (.cells d u)).alloc (.cells f v)).heap.size = w.heap.size + 1 + 1 + 1 := by
  have e1 : (w.alloc (.cells c t)).heap.size = w.heap.size + 1 := by simp
  have e2 : ((w.alloc (.cells c t)).alloc (.cells d u)).heap.size = w.heap.size + 1 + 1 := by simp
  have e3 : (((w.alloc (.cells c t)).alloc (.cells d u)).alloc (.cells f v)).heap.size = w.heap.size + 1 + 1 + 1 := by simp
  have b1 : Below w.heap.size w (w.alloc (.cells c t)) := (Below.refl _ _).alloc (Nat.le_refl _) _
  have b2 : Below (w.heap.size + 1) (w.alloc (.cells c t)) ((w.alloc (.cells c t)).alloc (.cells d u)) := (Below.refl _ _).alloc (by omega) _
  have b3 : Below (w.heap.size + 1 + 1) ((w.alloc (.cells c t)).alloc (.cells d u)) (((w.alloc (.cells c t)).alloc (.cells d u)).alloc (.cells f v)) := (Below.refl _ _).alloc (by omega) _
  have k1 := Blk.new w t c
  have k2 := Blk.new (w.alloc (.cells c t)) u d
  have k3 := Blk.new ((w.alloc (.cells c t)).alloc (.cells d u)) v f
  rw [e1] at k2
  rw [e2] at k3
  exact ⟨b1.trans ((b2.mono (by omega)).trans (b3.mono (by omega))), (k1.belowV b2 (by omega)).belowV b3 (by omega), k2.belowV b3 (by omega), k3, e3⟩

set_option maxRecDepth 100000 in
set_option maxHeartbeats 1000000 in
theorem rowCmpVal_any (k n l m : Int) (s r : ByteArray) (w : World) : Calls Tryz.prog 62 #[.agg #[.int .i64 k, .int .i64 n, .string s], .agg #[.int .i64 l, .int .i64 m, .string r]] w (BelowInt w (cmpVal (k, n, s) (l, m, r))) := by
  have hk1 := Lib.hid fun W => kindOf_any k n s W
  have hk2 := Lib.hid fun W => kindOf_any l m r W
  have h0 := Lib.hid fun W => alike_any k n l m s r W
  have h1 := Lib.hid fun W => byNumber_any k n l m s r W
  have h2 := Lib.hid fun W => byText_any k n l m s r W
  have hcc := cls_cases k
  have hcv : cmpVal (k, n, s) (l, m, r) = if cls k = cls l then (if cls k = 1 then Lib.compareInt n m else if cls k = 2 then Lib.compareBytes s.data.toList r.data.toList else 0) else Lib.compareInt (cls k) (cls l) := rfl
  have HCV := Lib.hid hcv
  clear hcv
  obtain ⟨bA, kA1, kA2, kA3, kAs⟩ := three_new w #[.int .i64 k, .int .i64 n, .string s] #[.int .i64 l, .int .i64 m, .string r] #[.func (.func 86) #[] #[], .func (.func 87) #[] #[], .func (.func 88) #[] #[]] 40 40 130
  have KA := Lib.hid (And.intro kA1 (And.intro kA2 (And.intro kA3 kAs)))
  clear kA1 kA2 kA3 kAs
  generalize cls k = a at hk1 HCV hcc
  generalize cls l = b at hk2 HCV
  by_cases hab : a = b
  · subst hab
    have hz : Lib.compareInt a a = 0 := cmpInt_ok.refl a
    have hcm := fun W => Tryz.cmp_Compare_int a a W
    rw [hz] at hcm
    have HC := Lib.hid hcm
    clear hz hcm
    rw [if_pos rfl] at HCV
    rcases hcc with rfl | rfl | rfl
    · rw [if_neg (by decide), if_neg (by decide)] at HCV
      go_enter Tryz.func62, Tryz.ntmps62
      go_wp2_with fail
      refine (hk1.out _).mono ?_
      rintro e w1 ⟨rfl, hb1⟩
      have K1 := Lib.hid (show Blk w1 w.heap.size 40 #[.int .i64 k, .int .i64 n, .string s] ∧ Blk w1 (w.heap.size + 1) 40 #[.int .i64 l, .int .i64 m, .string r] ∧ Blk w1 (w.heap.size + 1 + 1) 130 #[.func (.func 86) #[] #[], .func (.func 87) #[] #[], .func (.func 88) #[] #[]] ∧ Below w.heap.size w w1 ∧ w.heap.size + 1 + 1 < w1.heap.size from by
        obtain ⟨q1, q2, q3, q4⟩ := KA.out
        exact ⟨q1.belowV hb1 (by omega), q2.belowV hb1 (by omega), q3.belowV hb1 (by omega), bA.trans (hb1.mono bA.size), by have := hb1.size; omega⟩)
      have e0 := K1.out.2.1.cell 0
      have e1 := K1.out.2.1.cell 1
      have e2 := K1.out.2.1.cell 2
      simp only [List.getElem?_toArray, List.getElem?_cons_zero, List.getElem?_cons_succ] at e0 e1 e2
      clear hb1
      go_wp2_with fail
      clear e0 e1 e2
      refine (hk2.out _).mono ?_
      rintro e w2 ⟨rfl, hb2⟩
      have K2 := Lib.hid (show Blk w2 w.heap.size 40 #[.int .i64 k, .int .i64 n, .string s] ∧ Blk w2 (w.heap.size + 1) 40 #[.int .i64 l, .int .i64 m, .string r] ∧ Blk w2 (w.heap.size + 1 + 1) 130 #[.func (.func 86) #[] #[], .func (.func 87) #[] #[], .func (.func 88) #[] #[]] ∧ Below w.heap.size w w2 ∧ w.heap.size + 1 + 1 < w2.heap.size from by
        obtain ⟨q1, q2, q3, q4, q5⟩ := K1.out
        exact ⟨q1.belowV hb2 (by omega), q2.belowV hb2 (by omega), q3.belowV hb2 (by omega), q4.trans (hb2.mono q4.size), by have := hb2.size; omega⟩)
      clear hb2 K1
      go_wp2_with fail
      refine (HC.out _).mono ?_
      rintro e w3 ⟨rfl, hw⟩
      subst hw
      obtain ⟨q1, q2, q3, q4, q5⟩ := K2.out
      have c0 := q1.cell 0
      have c1 := q1.cell 1
      have c2 := q1.cell 2
      have d0 := q2.cell 0
      have d1 := q2.cell 1
      have d2 := q2.cell 2
      have f0 := q3.cell 0
      simp only [List.getElem?_toArray, List.getElem?_cons_zero, List.getElem?_cons_succ] at c0 c1 c2 d0 d1 d2 f0
      have HB := Lib.hid q4
      clear q1 q2 q3 q4
      go_wp2_with fail
      go_still_tail 5, (by kernel_rfl)
      have HB2 := Lib.hid HB.out.drew
      clear c0 c1 c2 d0 d1 d2 f0 HB q5
      change wpList _ _ _ _ _ w3.drew
      generalize w3.drew = W7 at HB2 ⊢
      go_wp2_with fail
      refine (h0.out _).mono ?_
      rintro e w8 ⟨rfl, hb8⟩
      go_wp2_with fail
      go_ret
      exact ⟨by rw [HCV.out]; rfl, HB2.out.trans (hb8.mono HB2.out.size)⟩
    · rw [if_pos rfl] at HCV
      go_enter Tryz.func62, Tryz.ntmps62
      go_wp2_with fail
      refine (hk1.out _).mono ?_
      rintro e w1 ⟨rfl, hb1⟩
      have K1 := Lib.hid (show Blk w1 w.heap.size 40 #[.int .i64 k, .int .i64 n, .string s] ∧ Blk w1 (w.heap.size + 1) 40 #[.int .i64 l, .int .i64 m, .string r] ∧ Blk w1 (w.heap.size + 1 + 1) 130 #[.func (.func 86) #[] #[], .func (.func 87) #[] #[], .func (.func 88) #[] #[]] ∧ Below w.heap.size w w1 ∧ w.heap.size + 1 + 1 < w1.heap.size from by
        obtain ⟨q1, q2, q3, q4⟩ := KA.out
        exact ⟨q1.belowV hb1 (by omega), q2.belowV hb1 (by omega), q3.belowV hb1 (by omega), bA.trans (hb1.mono bA.size), by have := hb1.size; omega⟩)
      have e0 := K1.out.2.1.cell 0
      have e1 := K1.out.2.1.cell 1
      have e2 := K1.out.2.1.cell 2
      simp only [List.getElem?_toArray, List.getElem?_cons_zero, List.getElem?_cons_succ] at e0 e1 e2
      clear hb1
      go_wp2_with fail
      clear e0 e1 e2
      refine (hk2.out _).mono ?_
      rintro e w2 ⟨rfl, hb2⟩
      have K2 := Lib.hid (show Blk w2 w.heap.size 40 #[.int .i64 k, .int .i64 n, .string s] ∧ Blk w2 (w.heap.size + 1) 40 #[.int .i64 l, .int .i64 m, .string r] ∧ Blk w2 (w.heap.size + 1 + 1) 130 #[.func (.func 86) #[] #[], .func (.func 87) #[] #[], .func (.func 88) #[] #[]] ∧ Below w.heap.size w w2 ∧ w.heap.size + 1 + 1 < w2.heap.size from by
        obtain ⟨q1, q2, q3, q4, q5⟩ := K1.out
        exact ⟨q1.belowV hb2 (by omega), q2.belowV hb2 (by omega), q3.belowV hb2 (by omega), q4.trans (hb2.mono q4.size), by have := hb2.size; omega⟩)
      clear hb2 K1
      go_wp2_with fail
      refine (HC.out _).mono ?_
      rintro e w3 ⟨rfl, hw⟩
      subst hw
      obtain ⟨q1, q2, q3, q4, q5⟩ := K2.out
      have c0 := q1.cell 0
      have c1 := q1.cell 1
      have c2 := q1.cell 2
      have d0 := q2.cell 0
      have d1 := q2.cell 1
      have d2 := q2.cell 2
      have f0 := q3.cell 1
      simp only [List.getElem?_toArray, List.getElem?_cons_zero, List.getElem?_cons_succ] at c0 c1 c2 d0 d1 d2 f0
      have HB := Lib.hid q4
      clear q1 q2 q3 q4
      go_wp2_with fail
      go_still_tail 5, (by kernel_rfl)
      have HB2 := Lib.hid HB.out.drew
      clear c0 c1 c2 d0 d1 d2 f0 HB q5
      change wpList _ _ _ _ _ w3.drew
      generalize w3.drew = W7 at HB2 ⊢
      go_wp2_with fail
      refine (h1.out _).mono ?_
      rintro e w8 ⟨rfl, hb8⟩
      go_wp2_with fail
      go_ret
      exact ⟨by rw [HCV.out]; rfl, HB2.out.trans (hb8.mono HB2.out.size)⟩
    · rw [if_neg (by decide), if_pos rfl] at HCV
      go_enter Tryz.func62, Tryz.ntmps62
      go_wp2_with fail
      refine (hk1.out _).mono ?_
      rintro e w1 ⟨rfl, hb1⟩
      have K1 := Lib.hid (show Blk w1 w.heap.size 40 #[.int .i64 k, .int .i64 n, .string s] ∧ Blk w1 (w.heap.size + 1) 40 #[.int .i64 l, .int .i64 m, .string r] ∧ Blk w1 (w.heap.size + 1 + 1) 130 #[.func (.func 86) #[] #[], .func (.func 87) #[] #[], .func (.func 88) #[] #[]] ∧ Below w.heap.size w w1 ∧ w.heap.size + 1 + 1 < w1.heap.size from by
        obtain ⟨q1, q2, q3, q4⟩ := KA.out
        exact ⟨q1.belowV hb1 (by omega), q2.belowV hb1 (by omega), q3.belowV hb1 (by omega), bA.trans (hb1.mono bA.size), by have := hb1.size; omega⟩)
      have e0 := K1.out.2.1.cell 0
      have e1 := K1.out.2.1.cell 1
      have e2 := K1.out.2.1.cell 2
      simp only [List.getElem?_toArray, List.getElem?_cons_zero, List.getElem?_cons_succ] at e0 e1 e2
      clear hb1
      go_wp2_with fail
      clear e0 e1 e2
      refine (hk2.out _).mono ?_
      rintro e w2 ⟨rfl, hb2⟩
      have K2 := Lib.hid (show Blk w2 w.heap.size 40 #[.int .i64 k, .int .i64 n, .string s] ∧ Blk w2 (w.heap.size + 1) 40 #[.int .i64 l, .int .i64 m, .string r] ∧ Blk w2 (w.heap.size + 1 + 1) 130 #[.func (.func 86) #[] #[], .func (.func 87) #[] #[], .func (.func 88) #[] #[]] ∧ Below w.heap.size w w2 ∧ w.heap.size + 1 + 1 < w2.heap.size from by
        obtain ⟨q1, q2, q3, q4, q5⟩ := K1.out
        exact ⟨q1.belowV hb2 (by omega), q2.belowV hb2 (by omega), q3.belowV hb2 (by omega), q4.trans (hb2.mono q4.size), by have := hb2.size; omega⟩)
      clear hb2 K1
      go_wp2_with fail
      refine (HC.out _).mono ?_
      rintro e w3 ⟨rfl, hw⟩
      subst hw
      obtain ⟨q1, q2, q3, q4, q5⟩ := K2.out
      have c0 := q1.cell 0
      have c1 := q1.cell 1
      have c2 := q1.cell 2
      have d0 := q2.cell 0
      have d1 := q2.cell 1
      have d2 := q2.cell 2
      have f0 := q3.cell 2
      simp only [List.getElem?_toArray, List.getElem?_cons_zero, List.getElem?_cons_succ] at c0 c1 c2 d0 d1 d2 f0
      have HB := Lib.hid q4
      clear q1 q2 q3 q4
      go_wp2_with fail
      go_still_tail 5, (by kernel_rfl)
      have HB2 := Lib.hid HB.out.drew
      clear c0 c1 c2 d0 d1 d2 f0 HB q5
      change wpList _ _ _ _ _ w3.drew
      generalize w3.drew = W7 at HB2 ⊢
      go_wp2_with fail
      refine (h2.out _).mono ?_
      rintro e w8 ⟨rfl, hb8⟩
      go_wp2_with fail
      go_ret
      exact ⟨by rw [HCV.out]; rfl, HB2.out.trans (hb8.mono HB2.out.size)⟩
  · have hz : Lib.compareInt a b ≠ 0 := fun h => hab (by unfold Lib.compareInt at h; split at h <;> (try split at h) <;> omega)
    have hne : (Lib.compareInt a b != 0) = true := by rw [bne_iff_ne]; exact hz
    have HC := Lib.hid fun W => Tryz.cmp_Compare_int a b W
    rw [if_neg hab] at HCV
    clear hz hab hcc
    go_enter Tryz.func62, Tryz.ntmps62
    go_wp2_with fail
    refine (hk1.out _).mono ?_
    rintro e w1 ⟨rfl, hb1⟩
    have K1 := Lib.hid (show Blk w1 w.heap.size 40 #[.int .i64 k, .int .i64 n, .string s] ∧ Blk w1 (w.heap.size + 1) 40 #[.int .i64 l, .int .i64 m, .string r] ∧ Blk w1 (w.heap.size + 1 + 1) 130 #[.func (.func 86) #[] #[], .func (.func 87) #[] #[], .func (.func 88) #[] #[]] ∧ Below w.heap.size w w1 ∧ w.heap.size + 1 + 1 < w1.heap.size from by
      obtain ⟨q1, q2, q3, q4⟩ := KA.out
      exact ⟨q1.belowV hb1 (by omega), q2.belowV hb1 (by omega), q3.belowV hb1 (by omega), bA.trans (hb1.mono bA.size), by have := hb1.size; omega⟩)
    have e0 := K1.out.2.1.cell 0
    have e1 := K1.out.2.1.cell 1
    have e2 := K1.out.2.1.cell 2
    simp only [List.getElem?_toArray, List.getElem?_cons_zero, List.getElem?_cons_succ] at e0 e1 e2
    clear hb1
    go_wp2_with fail
    clear e0 e1 e2
    refine (hk2.out _).mono ?_
    rintro e w2 ⟨rfl, hb2⟩
    have K2 := Lib.hid (show Blk w2 w.heap.size 40 #[.int .i64 k, .int .i64 n, .string s] ∧ Blk w2 (w.heap.size + 1) 40 #[.int .i64 l, .int .i64 m, .string r] ∧ Blk w2 (w.heap.size + 1 + 1) 130 #[.func (.func 86) #[] #[], .func (.func 87) #[] #[], .func (.func 88) #[] #[]] ∧ Below w.heap.size w w2 ∧ w.heap.size + 1 + 1 < w2.heap.size from by
      obtain ⟨q1, q2, q3, q4, q5⟩ := K1.out
      exact ⟨q1.belowV hb2 (by omega), q2.belowV hb2 (by omega), q3.belowV hb2 (by omega), q4.trans (hb2.mono q4.size), by have := hb2.size; omega⟩)
    clear hb2 K1
    go_wp2_with fail
    refine (HC.out _).mono ?_
    rintro e w3 ⟨rfl, hw⟩
    subst hw
    have HB := Lib.hid K2.out.2.2.2.1
    go_wp2_with fail
    go_ret
    exact ⟨by rw [HCV.out]; rfl, HB.out⟩
#print axioms rowCmpVal_any
end Go.Proofs.YtledgnolmiecfaaGreatDoor
