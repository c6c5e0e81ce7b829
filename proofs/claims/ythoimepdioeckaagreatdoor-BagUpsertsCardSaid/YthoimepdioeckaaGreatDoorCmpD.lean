/-
  The orders of values and rows of package row once more, with one more word on the world behind: no answer of the tape has been given back (what the library's sort asks of a comparison).
-/
import Derived.Test.YthoimepdioeckaaGreatDoorCmpRow
namespace Go.Proofs.YthoimepdioeckaaGreatDoor
open Go.RowKit

structure BelowD (B : Nat) (w w' : World) : Prop extends Below B w w' where
  drawn : w.drawn ≤ w'.drawn
theorem BelowD.refl (B : Nat) (w : World) : BelowD B w w := ⟨Below.refl B w, Nat.le_refl _⟩
theorem BelowD.trans {B : Nat} {a b c : World} (h : BelowD B a b) (k : BelowD B b c) : BelowD B a c := ⟨h.toBelow.trans k.toBelow, Nat.le_trans h.drawn k.drawn⟩
theorem BelowD.mono {B B' : Nat} {a b : World} (h : BelowD B a b) (hB : B' ≤ B) : BelowD B' a b := ⟨h.toBelow.mono hB, h.drawn⟩
theorem BelowD.alloc {B : Nat} {a w : World} (h : BelowD B a w) (hB : B ≤ w.heap.size) (o : Obj) : BelowD B a (w.alloc o) := ⟨h.toBelow.alloc hB o, h.drawn⟩
theorem BelowD.drew {B : Nat} {a w : World} (h : BelowD B a w) : BelowD B a w.drew := ⟨h.toBelow.drew, Nat.le_trans h.drawn (Nat.le_succ _)⟩
def BelowIntD (w : World) (n : Int) (e : Ending) (w' : World) : Prop := e = .returned (.int .i64 n) ∧ BelowD w.heap.size w w'

theorem kindOfD_any (k n : Int) (s : ByteArray) (w : World) : Calls Tryz.prog 168 #[.agg #[.int .i64 k, .int .i64 n, .string s]] w (BelowIntD w (cls k)) := by
  by_cases h : k = 1 ∨ k = 2
  · have e : cls k = k := by unfold cls; rw [if_pos h]
    rw [e]
    clear e
    rcases h with rfl | rfl
    · go_enter Tryz.func168, Tryz.ntmps168
      go_wp2
      go_ret
      exact ⟨rfl, (BelowD.refl _ _).alloc (Nat.le_refl _) _⟩
    · go_enter Tryz.func168, Tryz.ntmps168
      go_wp2
      go_ret
      exact ⟨rfl, (BelowD.refl _ _).alloc (Nat.le_refl _) _⟩
  · have e : cls k = 0 := by unfold cls; rw [if_neg h]
    have h1 : (k == 1) = false := by rw [beq_eq_false_iff_ne]; omega
    have h2 : (k == 2) = false := by rw [beq_eq_false_iff_ne]; omega
    rw [e]
    clear e h
    go_enter Tryz.func168, Tryz.ntmps168
    go_wp2
    go_ret
    exact ⟨rfl, (BelowD.refl _ _).alloc (Nat.le_refl _) _⟩

theorem twoBelowD (w : World) (c d : Array Value) (t u : TypeId) : BelowD w.heap.size w ((w.alloc (.cells c t)).alloc (.cells d u)) := ((BelowD.refl _ _).alloc (Nat.le_refl _) _).alloc (by simp) _

theorem alikeD_any (k n l m : Int) (s r : ByteArray) (w : World) : Calls Tryz.prog 165 #[.agg #[.int .i64 k, .int .i64 n, .string s], .agg #[.int .i64 l, .int .i64 m, .string r]] w (BelowIntD w 0) := by
  go_enter Tryz.func165, Tryz.ntmps165
  go_wp2
  go_ret
  exact ⟨rfl, twoBelowD _ _ _ _ _⟩

theorem byNumberD_any (k n l m : Int) (s r : ByteArray) (w : World) : Calls Tryz.prog 166 #[.agg #[.int .i64 k, .int .i64 n, .string s], .agg #[.int .i64 l, .int .i64 m, .string r]] w (BelowIntD w (Lib.compareInt n m)) := by
  go_enter Tryz.func166, Tryz.ntmps166
  go_wp2_with (go_at_call 169; refine (Tryz.cmp_Compare_int _ _ _).mono ?_; rintro e w' ⟨rfl, rfl⟩)
  go_ret
  exact ⟨rfl, twoBelowD _ _ _ _ _⟩

theorem byTextD_any (k n l m : Int) (s r : ByteArray) (w : World) : Calls Tryz.prog 167 #[.agg #[.int .i64 k, .int .i64 n, .string s], .agg #[.int .i64 l, .int .i64 m, .string r]] w (BelowIntD w (Lib.compareBytes s.data.toList r.data.toList)) := by
  go_enter Tryz.func167, Tryz.ntmps167
  go_wp2_with (go_at_call 203; refine (Tryz.strings_Compare _ _ _).mono ?_; rintro e w' ⟨rfl, rfl⟩)
  go_ret
  exact ⟨rfl, twoBelowD _ _ _ _ _⟩

/-- Three new blocks in a row. -/
theorem threeNewD (w : World) (c d f : Array Value) (t u v : TypeId) : BelowD w.heap.size w (((w.alloc (.cells c t)).alloc (.cells d u)).alloc (.cells f v)) ∧ Blk (((w.alloc (.cells c t)).alloc (.cells d u)).alloc (.cells f v)) w.heap.size t c ∧
    Blk (((w.alloc (.cells c t)).alloc (.cells d u)).alloc (.cells f v)) (w.heap.size + 1) u d ∧ Blk (((w.alloc (.cells c t)).alloc (.cells d u)).alloc (.cells f v)) (w.heap.size + 1 + 1) v f ∧ (((w.alloc (.cells c t)).alloc (.cells d u)).alloc (.cells f v)).heap.size = w.heap.size + 1 + 1 + 1 := by
  have e1 : (w.alloc (.cells c t)).heap.size = w.heap.size + 1 := by simp
  have e2 : ((w.alloc (.cells c t)).alloc (.cells d u)).heap.size = w.heap.size + 1 + 1 := by simp
  have e3 : (((w.alloc (.cells c t)).alloc (.cells d u)).alloc (.cells f v)).heap.size = w.heap.size + 1 + 1 + 1 := by simp
  have b1 : BelowD w.heap.size w (w.alloc (.cells c t)) := (BelowD.refl _ _).alloc (Nat.le_refl _) _
  have b2 : BelowD (w.heap.size + 1) (w.alloc (.cells c t)) ((w.alloc (.cells c t)).alloc (.cells d u)) := (BelowD.refl _ _).alloc (by omega) _
  have b3 : BelowD (w.heap.size + 1 + 1) ((w.alloc (.cells c t)).alloc (.cells d u)) (((w.alloc (.cells c t)).alloc (.cells d u)).alloc (.cells f v)) := (BelowD.refl _ _).alloc (by omega) _
  have k1 := Blk.new w t c
  have k2 := Blk.new (w.alloc (.cells c t)) u d
  have k3 := Blk.new ((w.alloc (.cells c t)).alloc (.cells d u)) v f
  rw [e1] at k2
  rw [e2] at k3
  exact ⟨b1.trans ((b2.mono (by omega)).trans (b3.mono (by omega))), (k1.belowV b2.toBelow (by omega)).belowV b3.toBelow (by omega), k2.belowV b3.toBelow (by omega), k3, e3⟩

set_option maxRecDepth 100000 in
set_option maxHeartbeats 1000000 in
theorem rowCmpValD_any (k n l m : Int) (s r : ByteArray) (w : World) : Calls Tryz.prog 125 #[.agg #[.int .i64 k, .int .i64 n, .string s], .agg #[.int .i64 l, .int .i64 m, .string r]] w (BelowIntD w (cmpVal (k, n, s) (l, m, r))) := by
  have hk1 := Lib.hid fun W => kindOfD_any k n s W
  have hk2 := Lib.hid fun W => kindOfD_any l m r W
  have h0 := Lib.hid fun W => alikeD_any k n l m s r W
  have h1 := Lib.hid fun W => byNumberD_any k n l m s r W
  have h2 := Lib.hid fun W => byTextD_any k n l m s r W
  have hcc := cls_cases k
  have hcv : cmpVal (k, n, s) (l, m, r) = if cls k = cls l then (if cls k = 1 then Lib.compareInt n m else if cls k = 2 then Lib.compareBytes s.data.toList r.data.toList else 0) else Lib.compareInt (cls k) (cls l) := rfl
  have HCV := Lib.hid hcv
  clear hcv
  obtain ⟨bA, kA1, kA2, kA3, kAs⟩ := threeNewD w #[.int .i64 k, .int .i64 n, .string s] #[.int .i64 l, .int .i64 m, .string r] #[.func (.func 165) #[] #[], .func (.func 166) #[] #[], .func (.func 167) #[] #[]] 62 62 194
  have KA := Lib.hid (And.intro kA1 (And.intro kA2 (And.intro kA3 kAs)))
  clear kA1 kA2 kA3 kAs
  generalize cls k = a at hk1 HCV hcc
  generalize cls l = b at hk2 HCV
  by_cases hab : a = b
  · subst hab
    have hz : Lib.compareInt a a = 0 := cmpInt_ok.refl a
    have hcm := fun W => Tryz.cmp_Compare_int a a W
    rw [hz] at hcm
    have HC := Lib.hid hcm
    clear hz hcm
    rw [if_pos rfl] at HCV
    rcases hcc with rfl | rfl | rfl
    · rw [if_neg (by decide), if_neg (by decide)] at HCV
      go_enter Tryz.func125, Tryz.ntmps125
      go_wp2_with fail
      refine (hk1.out _).mono ?_
      rintro e w1 ⟨rfl, hb1⟩
      have K1 := Lib.hid (show Blk w1 w.heap.size 62 #[.int .i64 k, .int .i64 n, .string s] ∧ Blk w1 (w.heap.size + 1) 62 #[.int .i64 l, .int .i64 m, .string r] ∧ Blk w1 (w.heap.size + 1 + 1) 194 #[.func (.func 165) #[] #[], .func (.func 166) #[] #[], .func (.func 167) #[] #[]] ∧ BelowD w.heap.size w w1 ∧ w.heap.size + 1 + 1 < w1.heap.size from by
        obtain ⟨q1, q2, q3, q4⟩ := KA.out
        exact ⟨q1.belowV hb1.toBelow (by omega), q2.belowV hb1.toBelow (by omega), q3.belowV hb1.toBelow (by omega), bA.trans (hb1.mono bA.size), by have := hb1.size; omega⟩)
      have e0 := K1.out.2.1.cell 0
      have e1 := K1.out.2.1.cell 1
      have e2 := K1.out.2.1.cell 2
      simp only [List.getElem?_toArray, List.getElem?_cons_zero, List.getElem?_cons_succ] at e0 e1 e2
      clear hb1
      go_wp2_with fail
      clear e0 e1 e2
      refine (hk2.out _).mono ?_
      rintro e w2 ⟨rfl, hb2⟩
      have K2 := Lib.hid (show Blk w2 w.heap.size 62 #[.int .i64 k, .int .i64 n, .string s] ∧ Blk w2 (w.heap.size + 1) 62 #[.int .i64 l, .int .i64 m, .string r] ∧ Blk w2 (w.heap.size + 1 + 1) 194 #[.func (.func 165) #[] #[], .func (.func 166) #[] #[], .func (.func 167) #[] #[]] ∧ BelowD w.heap.size w w2 ∧ w.heap.size + 1 + 1 < w2.heap.size from by
        obtain ⟨q1, q2, q3, q4, q5⟩ := K1.out
        exact ⟨q1.belowV hb2.toBelow (by omega), q2.belowV hb2.toBelow (by omega), q3.belowV hb2.toBelow (by omega), q4.trans (hb2.mono q4.size), by have := hb2.size; omega⟩)
      clear hb2 K1
      go_wp2_with fail
      refine (HC.out _).mono ?_
      rintro e w3 ⟨rfl, hw⟩
      subst hw
      obtain ⟨q1, q2, q3, q4, q5⟩ := K2.out
      have c0 := q1.cell 0
      have c1 := q1.cell 1
      have c2 := q1.cell 2
      have d0 := q2.cell 0
      have d1 := q2.cell 1
      have d2 := q2.cell 2
      have f0 := q3.cell 0
      simp only [List.getElem?_toArray, List.getElem?_cons_zero, List.getElem?_cons_succ] at c0 c1 c2 d0 d1 d2 f0
      have HB := Lib.hid q4
      clear q1 q2 q3 q4
      go_wp2_with fail
      go_still_tail 5, (by kernel_rfl)
      have HB2 := Lib.hid HB.out.drew
      clear c0 c1 c2 d0 d1 d2 f0 HB q5
      change wpList _ _ _ _ _ w3.drew
      generalize w3.drew = W7 at HB2 ⊢
      go_wp2_with fail
      refine (h0.out _).mono ?_
      rintro e w8 ⟨rfl, hb8⟩
      go_wp2_with fail
      go_ret
      exact ⟨by rw [HCV.out]; rfl, HB2.out.trans (hb8.mono HB2.out.size)⟩
    · rw [if_pos rfl] at HCV
      go_enter Tryz.func125, Tryz.ntmps125
      go_wp2_with fail
      refine (hk1.out _).mono ?_
      rintro e w1 ⟨rfl, hb1⟩
      have K1 := Lib.hid (show Blk w1 w.heap.size 62 #[.int .i64 k, .int .i64 n, .string s] ∧ Blk w1 (w.heap.size + 1) 62 #[.int .i64 l, .int .i64 m, .string r] ∧ Blk w1 (w.heap.size + 1 + 1) 194 #[.func (.func 165) #[] #[], .func (.func 166) #[] #[], .func (.func 167) #[] #[]] ∧ BelowD w.heap.size w w1 ∧ w.heap.size + 1 + 1 < w1.heap.size from by
        obtain ⟨q1, q2, q3, q4⟩ := KA.out
        exact ⟨q1.belowV hb1.toBelow (by omega), q2.belowV hb1.toBelow (by omega), q3.belowV hb1.toBelow (by omega), bA.trans (hb1.mono bA.size), by have := hb1.size; omega⟩)
      have e0 := K1.out.2.1.cell 0
      have e1 := K1.out.2.1.cell 1
      have e2 := K1.out.2.1.cell 2
      simp only [List.getElem?_toArray, List.getElem?_cons_zero, List.getElem?_cons_succ] at e0 e1 e2
      clear hb1
      go_wp2_with fail
      clear e0 e1 e2
      refine (hk2.out _).mono ?_
      rintro e w2 ⟨rfl, hb2⟩
      have K2 := Lib.hid (show Blk w2 w.heap.size 62 #[.int .i64 k, .int .i64 n, .string s] ∧ Blk w2 (w.heap.size + 1) 62 #[.int .i64 l, .int .i64 m, .string r] ∧ Blk w2 (w.heap.size + 1 + 1) 194 #[.func (.func 165) #[] #[], .func (.func 166) #[] #[], .func (.func 167) #[] #[]] ∧ BelowD w.heap.size w w2 ∧ w.heap.size + 1 + 1 < w2.heap.size from by
        obtain ⟨q1, q2, q3, q4, q5⟩ := K1.out
        exact ⟨q1.belowV hb2.toBelow (by omega), q2.belowV hb2.toBelow (by omega), q3.belowV hb2.toBelow (by omega), q4.trans (hb2.mono q4.size), by have := hb2.size; omega⟩)
      clear hb2 K1
      go_wp2_with fail
      refine (HC.out _).mono ?_
      rintro e w3 ⟨rfl, hw⟩
      subst hw
      obtain ⟨q1, q2, q3, q4, q5⟩ := K2.out
      have c0 := q1.cell 0
      have c1 := q1.cell 1
      have c2 := q1.cell 2
      have d0 := q2.cell 0
      have d1 := q2.cell 1
      have d2 := q2.cell 2
      have f0 := q3.cell 1
      simp only [List.getElem?_toArray, List.getElem?_cons_zero, List.getElem?_cons_succ] at c0 c1 c2 d0 d1 d2 f0
      have HB := Lib.hid q4
      clear q1 q2 q3 q4
      go_wp2_with fail
      go_still_tail 5, (by kernel_rfl)
      have HB2 := Lib.hid HB.out.drew
      clear c0 c1 c2 d0 d1 d2 f0 HB q5
      change wpList _ _ _ _ _ w3.drew
      generalize w3.drew = W7 at HB2 ⊢
      go_wp2_with fail
      refine (h1.out _).mono ?_
      rintro e w8 ⟨rfl, hb8⟩
      go_wp2_with fail
      go_ret
      exact ⟨by rw [HCV.out]; rfl, HB2.out.trans (hb8.mono HB2.out.size)⟩
    · rw [if_neg (by decide), if_pos rfl] at HCV
      go_enter Tryz.func125, Tryz.ntmps125
      go_wp2_with fail
      refine (hk1.out _).mono ?_
      rintro e w1 ⟨rfl, hb1⟩
      have K1 := Lib.hid (show Blk w1 w.heap.size 62 #[.int .i64 k, .int .i64 n, .string s] ∧ Blk w1 (w.heap.size + 1) 62 #[.int .i64 l, .int .i64 m, .string r] ∧ Blk w1 (w.heap.size + 1 + 1) 194 #[.func (.func 165) #[] #[], .func (.func 166) #[] #[], .func (.func 167) #[] #[]] ∧ BelowD w.heap.size w w1 ∧ w.heap.size + 1 + 1 < w1.heap.size from by
        obtain ⟨q1, q2, q3, q4⟩ := KA.out
        exact ⟨q1.belowV hb1.toBelow (by omega), q2.belowV hb1.toBelow (by omega), q3.belowV hb1.toBelow (by omega), bA.trans (hb1.mono bA.size), by have := hb1.size; omega⟩)
      have e0 := K1.out.2.1.cell 0
      have e1 := K1.out.2.1.cell 1
      have e2 := K1.out.2.1.cell 2
      simp only [List.getElem?_toArray, List.getElem?_cons_zero, List.getElem?_cons_succ] at e0 e1 e2
      clear hb1
      go_wp2_with fail
      clear e0 e1 e2
      refine (hk2.out _).mono ?_
      rintro e w2 ⟨rfl, hb2⟩
      have K2 := Lib.hid (show Blk w2 w.heap.size 62 #[.int .i64 k, .int .i64 n, .string s] ∧ Blk w2 (w.heap.size + 1) 62 #[.int .i64 l, .int .i64 m, .string r] ∧ Blk w2 (w.heap.size + 1 + 1) 194 #[.func (.func 165) #[] #[], .func (.func 166) #[] #[], .func (.func 167) #[] #[]] ∧ BelowD w.heap.size w w2 ∧ w.heap.size + 1 + 1 < w2.heap.size from by
        obtain ⟨q1, q2, q3, q4, q5⟩ := K1.out
        exact ⟨q1.belowV hb2.toBelow (by omega), q2.belowV hb2.toBelow (by omega), q3.belowV hb2.toBelow (by omega), q4.trans (hb2.mono q4.size), by have := hb2.size; omega⟩)
      clear hb2 K1
      go_wp2_with fail
      refine (HC.out _).mono ?_
      rintro e w3 ⟨rfl, hw⟩
      subst hw
      obtain ⟨q1, q2, q3, q4, q5⟩ := K2.out
      have c0 := q1.cell 0
      have c1 := q1.cell 1
      have c2 := q1.cell 2
      have d0 := q2.cell 0
      have d1 := q2.cell 1
      have d2 := q2.cell 2
      have f0 := q3.cell 2
      simp only [List.getElem?_toArray, List.getElem?_cons_zero, List.getElem?_cons_succ] at c0 c1 c2 d0 d1 d2 f0
      have HB := Lib.hid q4
      clear q1 q2 q3 q4
      go_wp2_with fail
      go_still_tail 5, (by kernel_rfl)
      have HB2 := Lib.hid HB.out.drew
      clear c0 c1 c2 d0 d1 d2 f0 HB q5
      change wpList _ _ _ _ _ w3.drew
      generalize w3.drew = W7 at HB2 ⊢
      go_wp2_with fail
      refine (h2.out _).mono ?_
      rintro e w8 ⟨rfl, hb8⟩
      go_wp2_with fail
      go_ret
      exact ⟨by rw [HCV.out]; rfl, HB2.out.trans (hb8.mono HB2.out.size)⟩
  · have hz : Lib.compareInt a b ≠ 0 := fun h => hab (by unfold Lib.compareInt at h; split at h <;> (try split at h) <;> omega)
    have hne : (Lib.compareInt a b != 0) = true := by rw [bne_iff_ne]; exact hz
    have HC := Lib.hid fun W => Tryz.cmp_Compare_int a b W
    rw [if_neg hab] at HCV
    clear hz hab hcc
    go_enter Tryz.func125, Tryz.ntmps125
    go_wp2_with fail
    refine (hk1.out _).mono ?_
    rintro e w1 ⟨rfl, hb1⟩
    have K1 := Lib.hid (show Blk w1 w.heap.size 62 #[.int .i64 k, .int .i64 n, .string s] ∧ Blk w1 (w.heap.size + 1) 62 #[.int .i64 l, .int .i64 m, .string r] ∧ Blk w1 (w.heap.size + 1 + 1) 194 #[.func (.func 165) #[] #[], .func (.func 166) #[] #[], .func (.func 167) #[] #[]] ∧ BelowD w.heap.size w w1 ∧ w.heap.size + 1 + 1 < w1.heap.size from by
      obtain ⟨q1, q2, q3, q4⟩ := KA.out
      exact ⟨q1.belowV hb1.toBelow (by omega), q2.belowV hb1.toBelow (by omega), q3.belowV hb1.toBelow (by omega), bA.trans (hb1.mono bA.size), by have := hb1.size; omega⟩)
    have e0 := K1.out.2.1.cell 0
    have e1 := K1.out.2.1.cell 1
    have e2 := K1.out.2.1.cell 2
    simp only [List.getElem?_toArray, List.getElem?_cons_zero, List.getElem?_cons_succ] at e0 e1 e2
    clear hb1
    go_wp2_with fail
    clear e0 e1 e2
    refine (hk2.out _).mono ?_
    rintro e w2 ⟨rfl, hb2⟩
    have K2 := Lib.hid (show Blk w2 w.heap.size 62 #[.int .i64 k, .int .i64 n, .string s] ∧ Blk w2 (w.heap.size + 1) 62 #[.int .i64 l, .int .i64 m, .string r] ∧ Blk w2 (w.heap.size + 1 + 1) 194 #[.func (.func 165) #[] #[], .func (.func 166) #[] #[], .func (.func 167) #[] #[]] ∧ BelowD w.heap.size w w2 ∧ w.heap.size + 1 + 1 < w2.heap.size from by
      obtain ⟨q1, q2, q3, q4, q5⟩ := K1.out
      exact ⟨q1.belowV hb2.toBelow (by omega), q2.belowV hb2.toBelow (by omega), q3.belowV hb2.toBelow (by omega), q4.trans (hb2.mono q4.size), by have := hb2.size; omega⟩)
    clear hb2 K1
    go_wp2_with fail
    refine (HC.out _).mono ?_
    rintro e w3 ⟨rfl, hw⟩
    subst hw
    have HB := Lib.hid K2.out.2.2.2.1
    go_wp2_with fail
    go_ret
    exact ⟨by rw [HCV.out]; rfl, HB.out⟩

set_option maxRecDepth 100000 in
set_option maxHeartbeats 1000000 in
theorem compareFuncD_any (p q : Option Addr) (xs ys : List Val) (c d : Nat) (hmx : xs.length ≤ 9223372036854775807) (hmy : ys.length ≤ 9223372036854775807) (w : World) (hX : ValsIn w p xs) (hY : ValsIn w q ys) :
    Calls Tryz.prog 164 #[.slice p xs.length c, .slice q ys.length d, .func (.func 125) #[] #[]] w (BelowIntD w (cmpRow xs ys)) := by
  have HX := Lib.hid hX
  have HY := Lib.hid hY
  clear hX hY
  go_enter Tryz.func164, Tryz.ntmps164
  go_wp2_with fail
  go_loopw [13] (fun s wr => ∃ i : Nat, s = .int .i64 i ∧ i ≤ xs.length ∧ i ≤ ys.length ∧ Hid (cmpRow xs ys = cmpRow (xs.drop i) (ys.drop i)) ∧ BelowD w.heap.size w wr) (fun s _ => xs.length - (intOf s).toNat)
  case atStart => exact ⟨0, rfl, Nat.zero_le _, Nat.zero_le _, by simp [Hid], BelowD.refl _ _⟩
  case round =>
    obtain ⟨i, rfl, hi, hj, hc, hB⟩ := hrel
    by_cases hlt : i < xs.length
    · obtain ⟨b, off, rfl, hbl, hra⟩ := HX.out (by omega)
      obtain ⟨c0, c1, c2⟩ := (hra.belowV hB.toBelow hbl) i hlt
      have hi0 : (0 : Int) ≤ (i : Int) := by omega
      have hi1 : (i : Int) < (xs.length : Int) := by omega
      have hBs := hB.size
      clear hra
      by_cases hly : i < ys.length
      · obtain ⟨b2, off2, rfl, hbl2, hra2⟩ := HY.out (by omega)
        obtain ⟨d0, d1, d2⟩ := (hra2.belowV hB.toBelow hbl2) i hly
        have hca := cmpRow_at hlt hly
        have hi2 : (i : Int) < (ys.length : Int) := by omega
        clear hra2
        generalize (xs[i]?.getD v0) = x at hca c0 c1 c2
        generalize (ys[i]?.getD v0) = y at hca d0 d1 d2
        obtain ⟨x0, x1, x2⟩ := x
        obtain ⟨y0, y1, y2⟩ := y
        dsimp only at c0 c1 c2 d0 d1 d2
        have e0 : (wr.alloc (.cells #[.int .i64 x0, .int .i64 x1, .string x2] 62)).cell? ⟨b2, off2 + i * 3, none⟩ = some (.int .i64 y0) := Lib.cell?_alloc_some _ d0
        have e1 : (wr.alloc (.cells #[.int .i64 x0, .int .i64 x1, .string x2] 62)).cell? ⟨b2, off2 + i * 3 + 1, none⟩ = some (.int .i64 y1) := Lib.cell?_alloc_some _ d1
        have e2 : (wr.alloc (.cells #[.int .i64 x0, .int .i64 x1, .string x2] 62)).cell? ⟨b2, off2 + i * 3 + 2, none⟩ = some (.string y2) := Lib.cell?_alloc_some _ d2
        have hB2 : BelowD w.heap.size w ((wr.alloc (.cells #[.int .i64 x0, .int .i64 x1, .string x2] 62)).alloc (.cells #[.int .i64 y0, .int .i64 y1, .string y2] 62)) := (hB.alloc hBs _).alloc (by simp; omega) _
        have HCV := Lib.hid fun W => rowCmpValD_any x0 x1 y0 y1 x2 y2 W
        have HC2 := Lib.hid (hc.out.trans hca)
        clear hca
        generalize cmpVal (x0, x1, x2) (y0, y1, y2) = v at HCV HC2
        by_cases hv : v = 0
        · have HN := Lib.hid (show cmpRow xs ys = cmpRow (xs.drop (i + 1)) (ys.drop (i + 1)) by rw [HC2.out, if_pos hv])
          have hne : (v != 0) = false := by rw [bne_eq_false_iff_eq]; exact hv
          clear hv
          go_wp2_with fail
          refine (HCV.out _).mono ?_
          rintro e w' ⟨rfl, hb⟩
          go_wp2_with fail
          go_roundw
          case rel => exact ⟨i + 1, by go_num, by omega, by omega, HN.out, hB2.trans (hb.mono hB2.size)⟩
          case measure => simp [intOf]; omega
        · have HN := Lib.hid (show cmpRow xs ys = v by rw [HC2.out, if_neg hv])
          have hne : (v != 0) = true := by rw [bne_iff_ne]; exact hv
          clear hv
          go_wp2_with fail
          refine (HCV.out _).mono ?_
          rintro e w' ⟨rfl, hb⟩
          go_wp2_with fail
          go_ret
          exact ⟨by rw [HN.out] <;> rfl, hB2.trans (hb.mono hB2.size)⟩
      · have hgy : (ys.length : Int) ≤ (i : Int) := by omega
        have HN := Lib.hid (show cmpRow xs ys = 1 by rw [hc.out, cmpRow_end (.inr (by omega)) (by omega) (by omega), if_neg (by omega), if_pos (by omega)])
        generalize (xs[i]?.getD v0) = x at c0 c1 c2
        obtain ⟨x0, x1, x2⟩ := x
        dsimp only at c0 c1 c2
        have hB2 : BelowD w.heap.size w (wr.alloc (.cells #[.int .i64 x0, .int .i64 x1, .string x2] 62)) := hB.alloc hBs _
        go_wp2_with fail
        go_ret
        exact ⟨by rw [HN.out] <;> rfl, hB2⟩
    · have hge : xs.length ≤ i := by omega
      have hce := Lib.hid (hc.out.trans (cmpRow_end (.inl hge) hi hj))
      by_cases hl : xs.length < ys.length
      · have HN := Lib.hid (show cmpRow xs ys = -1 by rw [hce.out, if_pos hl])
        have hl' : (xs.length : Int) < (ys.length : Int) := by omega
        go_wp2_with fail
        go_ret
        exact ⟨by rw [HN.out] <;> rfl, hB⟩
      · have HN := Lib.hid (show cmpRow xs ys = 0 by rw [hce.out, if_neg hl, if_neg (by omega)])
        have hl' : (ys.length : Int) ≤ (xs.length : Int) := by omega
        have hl2 : decide (xs.length < ys.length) = false := by simpa using hl
        go_wp2_with fail
        go_ret
        exact ⟨by rw [HN.out] <;> rfl, hB⟩

set_option maxRecDepth 100000 in
theorem innerD_any (B : Nat) (p q : Option Addr) (xs ys : List Val) (c d : Nat) (hmx : xs.length ≤ 9223372036854775807) (hmy : ys.length ≤ 9223372036854775807) (w : World) (hX : ValsIn w p xs) (hY : ValsIn w q ys) (hB : w.cell? ⟨B, 0, none⟩ = some (.func (.func 125) #[] #[])) :
    Calls Tryz.prog 163 #[.slice p xs.length c, .slice q ys.length d, .pointer (some ⟨B, 0, none⟩)] w (BelowIntD w (cmpRow xs ys)) := by
  have HC := Lib.hid (compareFuncD_any p q xs ys c d hmx hmy w hX hY)
  clear hX hY
  go_enter Tryz.func163, Tryz.ntmps163
  go_wp2_with fail
  refine HC.out.mono ?_
  rintro e w' ⟨rfl, hb⟩
  go_wp2_with fail
  go_ret
  exact ⟨rfl, hb⟩

set_option maxRecDepth 100000 in
theorem rowCompareD_any (p q : Option Addr) (xs ys : List Val) (c d : Nat) (hmx : xs.length ≤ 9223372036854775807) (hmy : ys.length ≤ 9223372036854775807) (w : World) (hX : ValsIn w p xs) (hY : ValsIn w q ys) :
    Calls Tryz.prog 78 #[.slice p xs.length c, .slice q ys.length d] w (BelowIntD w (cmpRow xs ys)) := by
  have hbA : BelowD w.heap.size w (w.alloc (.cells #[.func (.func 125) #[] #[]] 140)) := (BelowD.refl _ _).alloc (Nat.le_refl _) _
  have HC := Lib.hid (innerD_any w.heap.size p q xs ys c d hmx hmy _ (hX.belowV hbA.toBelow) (hY.belowV hbA.toBelow) ((Blk.new w 140 #[.func (.func 125) #[] #[]]).cell 0))
  clear hX hY
  go_enter Tryz.func78, Tryz.ntmps78
  go_wp2_with fail
  refine (valueByValue_any _).mono ?_
  rintro e w' ⟨rfl, rfl⟩
  go_wp2_with fail
  refine HC.out.mono ?_
  rintro e w' ⟨rfl, hb⟩
  go_wp2_with fail
  go_ret
  exact ⟨rfl, hbA.trans (hb.mono hbA.size)⟩
#print axioms rowCompareD_any
end Go.Proofs.YthoimepdioeckaaGreatDoor
