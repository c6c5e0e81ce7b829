/-
  Both orders of rows, as contracts.
-/
import Derived.Test.YtledgnolmiecfaaGreatDoorRefCmp
import Derived.Test.YtledgnolmiecfaaGreatDoorLong
namespace Go.Proofs.YtledgnolmiecfaaGreatDoor
open Go.RowKit
set_option linter.unusedSimpArgs false

theorem cmpRow_at {xs ys : List Val} {i : Nat} (hx : i < xs.length) (hy : i < ys.length) : cmpRow (xs.drop i) (ys.drop i) = if cmpVal (xs[i]?.getD v0) (ys[i]?.getD v0) = 0 then cmpRow (xs.drop (i + 1)) (ys.drop (i + 1)) else cmpVal (xs[i]?.getD v0) (ys[i]?.getD v0) := by
  rw [cmpRow_drop hx hy]; simp [List.getElem?_eq_getElem hx, List.getElem?_eq_getElem hy]
def fnCV : Value := .func (.func 62) #[] #[]

set_option maxRecDepth 100000 in
set_option maxHeartbeats 1000000 in
theorem compareFunc_any (p q : Option Addr) (xs ys : List Val) (c d : Nat) (hmx : xs.length ≤ 9223372036854775807) (hmy : ys.length ≤ 9223372036854775807) (w : World) (hX : ValsIn w p xs) (hY : ValsIn w q ys) :
    Calls Tryz.prog 85 #[.slice p xs.length c, .slice q ys.length d, .func (.func 62) #[] #[]] w (BelowInt w (cmpRow xs ys)) := by
  have HX := Lib.hid hX
  have HY := Lib.hid hY
  clear hX hY
  go_enter Tryz.func85, Tryz.ntmps85
  go_wp2_with fail
  go_loopw [13] (fun s wr => ∃ i : Nat, s = .int .i64 i ∧ i ≤ xs.length ∧ i ≤ ys.length ∧ Hid (cmpRow xs ys = cmpRow (xs.drop i) (ys.drop i)) ∧ Below w.heap.size w wr) (fun s _ => xs.length - (intOf s).toNat)
  case atStart => exact ⟨0, rfl, Nat.zero_le _, Nat.zero_le _, by simp [Hid], Below.refl _ _⟩
  case round =>
    obtain ⟨i, rfl, hi, hj, hc, hB⟩ := hrel
    by_cases hlt : i < xs.length
    · obtain ⟨b, off, rfl, hbl, hra⟩ := HX.out (by omega)
      obtain ⟨c0, c1, c2⟩ := (hra.belowV hB hbl) i hlt
      have hi0 : (0 : Int) ≤ (i : Int) := by omega
      have hi1 : (i : Int) < (xs.length : Int) := by omega
      have hBs := hB.size
      clear hra
      by_cases hly : i < ys.length
      · obtain ⟨b2, off2, rfl, hbl2, hra2⟩ := HY.out (by omega)
        obtain ⟨d0, d1, d2⟩ := (hra2.belowV hB hbl2) i hly
        have hca := cmpRow_at hlt hly
        have hi2 : (i : Int) < (ys.length : Int) := by omega
        clear hra2
        generalize (xs[i]?.getD v0) = x at hca c0 c1 c2
        generalize (ys[i]?.getD v0) = y at hca d0 d1 d2
        obtain ⟨x0, x1, x2⟩ := x
        obtain ⟨y0, y1, y2⟩ := y
        dsimp only at c0 c1 c2 d0 d1 d2
        have e0 : (wr.alloc (.cells #[.int .i64 x0, .int .i64 x1, .string x2] 40)).cell? ⟨b2, off2 + i * 3, none⟩ = some (.int .i64 y0) := Lib.cell?_alloc_some _ d0
        have e1 : (wr.alloc (.cells #[.int .i64 x0, .int .i64 x1, .string x2] 40)).cell? ⟨b2, off2 + i * 3 + 1, none⟩ = some (.int .i64 y1) := Lib.cell?_alloc_some _ d1
        have e2 : (wr.alloc (.cells #[.int .i64 x0, .int .i64 x1, .string x2] 40)).cell? ⟨b2, off2 + i * 3 + 2, none⟩ = some (.string y2) := Lib.cell?_alloc_some _ d2
        have hB2 : Below w.heap.size w ((wr.alloc (.cells #[.int .i64 x0, .int .i64 x1, .string x2] 40)).alloc (.cells #[.int .i64 y0, .int .i64 y1, .string y2] 40)) := (hB.alloc hBs _).alloc (by simp; omega) _
        have HCV := Lib.hid fun W => rowCmpVal_any x0 x1 y0 y1 x2 y2 W
        have HC2 := Lib.hid (hc.out.trans hca)
        clear hca
        generalize cmpVal (x0, x1, x2) (y0, y1, y2) = v at HCV HC2
        by_cases hv : v = 0
        · have HN := Lib.hid (show cmpRow xs ys = cmpRow (xs.drop (i + 1)) (ys.drop (i + 1)) by rw [HC2.out, if_pos hv])
          have hne : (v != 0) = false := by rw [bne_eq_false_iff_eq]; exact hv
          clear hv
          go_wp2_with fail
          refine (HCV.out _).mono ?_
          rintro e w' ⟨rfl, hb⟩
          go_wp2_with fail
          go_roundw
          case rel => exact ⟨i + 1, by go_num, by omega, by omega, HN.out, hB2.trans (hb.mono hB2.size)⟩
          case measure => simp [intOf]; omega
        · have HN := Lib.hid (show cmpRow xs ys = v by rw [HC2.out, if_neg hv])
          have hne : (v != 0) = true := by rw [bne_iff_ne]; exact hv
          clear hv
          go_wp2_with fail
          refine (HCV.out _).mono ?_
          rintro e w' ⟨rfl, hb⟩
          go_wp2_with fail
          go_ret
          exact ⟨by rw [HN.out] <;> rfl, hB2.trans (hb.mono hB2.size)⟩
      · have hgy : (ys.length : Int) ≤ (i : Int) := by omega
        have HN := Lib.hid (show cmpRow xs ys = 1 by rw [hc.out, cmpRow_end (.inr (by omega)) (by omega) (by omega), if_neg (by omega), if_pos (by omega)])
        generalize (xs[i]?.getD v0) = x at c0 c1 c2
        obtain ⟨x0, x1, x2⟩ := x
        dsimp only at c0 c1 c2
        have hB2 : Below w.heap.size w (wr.alloc (.cells #[.int .i64 x0, .int .i64 x1, .string x2] 40)) := hB.alloc hBs _
        go_wp2_with fail
        go_ret
        exact ⟨by rw [HN.out] <;> rfl, hB2⟩
    · have hge : xs.length ≤ i := by omega
      have hce := Lib.hid (hc.out.trans (cmpRow_end (.inl hge) hi hj))
      by_cases hl : xs.length < ys.length
      · have HN := Lib.hid (show cmpRow xs ys = -1 by rw [hce.out, if_pos hl])
        have hl' : (xs.length : Int) < (ys.length : Int) := by omega
        go_wp2_with fail
        go_ret
        exact ⟨by rw [HN.out] <;> rfl, hB⟩
      · have HN := Lib.hid (show cmpRow xs ys = 0 by rw [hce.out, if_neg hl, if_neg (by omega)])
        have hl' : (ys.length : Int) ≤ (xs.length : Int) := by omega
        have hl2 : decide (xs.length < ys.length) = false := by simpa using hl
        go_wp2_with fail
        go_ret
        exact ⟨by rw [HN.out] <;> rfl, hB⟩

theorem valueByValue_any (w : World) : Calls Tryz.prog 61 #[.func (.func 62) #[] #[]] w fun e w' =>
    e = .returned (.func (.func 84) #[] #[.pointer (some ⟨w.heap.size, 0, none⟩)]) ∧ w' = w.alloc (.cells #[.func (.func 62) #[] #[]] 85) := by
  go_enter Tryz.func61, Tryz.ntmps61
  go_wp2
  go_ret
  exact ⟨rfl, rfl⟩

set_option maxRecDepth 100000 in
theorem inner_any (B : Nat) (p q : Option Addr) (xs ys : List Val) (c d : Nat) (hmx : xs.length ≤ 9223372036854775807) (hmy : ys.length ≤ 9223372036854775807) (w : World) (hX : ValsIn w p xs) (hY : ValsIn w q ys) (hB : w.cell? ⟨B, 0, none⟩ = some (.func (.func 62) #[] #[])) :
    Calls Tryz.prog 84 #[.slice p xs.length c, .slice q ys.length d, .pointer (some ⟨B, 0, none⟩)] w (BelowInt w (cmpRow xs ys)) := by
  have HC := Lib.hid (compareFunc_any p q xs ys c d hmx hmy w hX hY)
  clear hX hY
  go_enter Tryz.func84, Tryz.ntmps84
  go_wp2_with fail
  refine HC.out.mono ?_
  rintro e w' ⟨rfl, hb⟩
  go_wp2_with fail
  go_ret
  exact ⟨rfl, hb⟩

set_option maxRecDepth 100000 in
theorem rowCompare_any (p q : Option Addr) (xs ys : List Val) (c d : Nat) (hmx : xs.length ≤ 9223372036854775807) (hmy : ys.length ≤ 9223372036854775807) (w : World) (hX : ValsIn w p xs) (hY : ValsIn w q ys) :
    Calls Tryz.prog 44 #[.slice p xs.length c, .slice q ys.length d] w (BelowInt w (cmpRow xs ys)) := by
  have hbA : Below w.heap.size w (w.alloc (.cells #[.func (.func 62) #[] #[]] 85)) := (Below.refl _ _).alloc (Nat.le_refl _) _
  have HC := Lib.hid (inner_any w.heap.size p q xs ys c d hmx hmy _ (hX.belowV hbA) (hY.belowV hbA) ((Blk.new w 85 #[.func (.func 62) #[] #[]]).cell 0))
  clear hX hY
  go_enter Tryz.func44, Tryz.ntmps44
  go_wp2_with fail
  refine (valueByValue_any _).mono ?_
  rintro e w' ⟨rfl, rfl⟩
  go_wp2_with fail
  refine HC.out.mono ?_
  rintro e w' ⟨rfl, hb⟩
  go_wp2_with fail
  go_ret
  exact ⟨rfl, hbA.trans (hb.mono hbA.size)⟩

set_option maxRecDepth 100000 in
set_option maxHeartbeats 1000000 in
theorem refCompare_any (p q : Option Addr) (xs ys : List Val) (c d : Nat) (hmx : xs.length ≤ 9223372036854775807) (hmy : ys.length ≤ 9223372036854775807) (w : World) (hX : ValsIn w p xs) (hY : ValsIn w q ys) :
    Calls Tryz.prog 26 #[.slice p xs.length c, .slice q ys.length d] w (BelowInt w (cmpRow xs ys)) := by
  have HX := Lib.hid hX
  have HY := Lib.hid hY
  clear hX hY
  go_enter Tryz.func26, Tryz.ntmps26
  go_wp2_with fail
  go_loopw [5] (fun s wr => ∃ i : Nat, s = .int .i64 i ∧ i ≤ xs.length ∧ i ≤ ys.length ∧ Hid (cmpRow xs ys = cmpRow (xs.drop i) (ys.drop i)) ∧ Below w.heap.size w wr) (fun s _ => xs.length - (intOf s).toNat)
  case atStart => exact ⟨0, rfl, Nat.zero_le _, Nat.zero_le _, by simp [Hid], Below.refl _ _⟩
  case round =>
    obtain ⟨i, rfl, hi, hj, hc, hB⟩ := hrel
    have hBs := hB.size
    by_cases hboth : i < xs.length ∧ i < ys.length
    · obtain ⟨hlt, hly⟩ := hboth
      obtain ⟨b, off, rfl, hbl, hra⟩ := HX.out (by omega)
      obtain ⟨c0, c1, c2⟩ := (hra.belowV hB hbl) i hlt
      have hi0 : (0 : Int) ≤ (i : Int) := by omega
      have hi1 : (i : Int) < (xs.length : Int) := by omega
      clear hra
      obtain ⟨b2, off2, rfl, hbl2, hra2⟩ := HY.out (by omega)
      obtain ⟨d0, d1, d2⟩ := (hra2.belowV hB hbl2) i hly
      have hca := cmpRow_at hlt hly
      have hi2 : (i : Int) < (ys.length : Int) := by omega
      clear hra2
      generalize (xs[i]?.getD v0) = x at hca c0 c1 c2
      generalize (ys[i]?.getD v0) = y at hca d0 d1 d2
      obtain ⟨x0, x1, x2⟩ := x
      obtain ⟨y0, y1, y2⟩ := y
      dsimp only at c0 c1 c2 d0 d1 d2
      have HCV := Lib.hid fun W => refCmpVal_any x0 x1 y0 y1 x2 y2 W
      have HC2 := Lib.hid (hc.out.trans hca)
      clear hca
      generalize cmpVal (x0, x1, x2) (y0, y1, y2) = v at HCV HC2
      by_cases hv : v = 0
      · have HN := Lib.hid (show cmpRow xs ys = cmpRow (xs.drop (i + 1)) (ys.drop (i + 1)) by rw [HC2.out, if_pos hv])
        have hne : (v != 0) = false := by rw [bne_eq_false_iff_eq]; exact hv
        clear hv
        go_wp2_with fail
        go_still_tail 8, (by kernel_rfl)
        have hB2 : Below w.heap.size w wr.drew := hB.drew
        clear c0 c1 c2 d0 d1 d2
        change wpList _ _ _ _ _ wr.drew
        generalize wr.drew = W7 at hB2 ⊢
        go_wp2_with fail
        refine (HCV.out _).mono ?_
        rintro e w' ⟨rfl, hb⟩
        go_wp2_with fail
        go_roundw
        case rel => exact ⟨i + 1, by go_num, by omega, by omega, HN.out, hB2.trans (hb.mono hB2.size)⟩
        case measure => simp [intOf]; omega
      · have HN := Lib.hid (show cmpRow xs ys = v by rw [HC2.out, if_neg hv])
        have hne : (v != 0) = true := by rw [bne_iff_ne]; exact hv
        clear hv
        go_wp2_with fail
        go_still_tail 8, (by kernel_rfl)
        have hB2 : Below w.heap.size w wr.drew := hB.drew
        clear c0 c1 c2 d0 d1 d2
        change wpList _ _ _ _ _ wr.drew
        generalize wr.drew = W7 at hB2 ⊢
        go_wp2_with fail
        refine (HCV.out _).mono ?_
        rintro e w' ⟨rfl, hb⟩
        go_wp2_with fail
        go_ret
        exact ⟨by rw [HN.out] <;> rfl, hB2.trans (hb.mono hB2.size)⟩
    · have hend : xs.length ≤ i ∨ ys.length ≤ i := by omega
      have hce := Lib.hid (hc.out.trans (cmpRow_end hend hi hj))
      have hx3 : xs.length < ys.length ∨ ys.length < xs.length ∨ xs.length = ys.length := by omega
      by_cases hxi : i < xs.length
      · have hyi : (ys.length : Int) ≤ (i : Int) := by omega
        have hi1 : (i : Int) < (xs.length : Int) := by omega
        have hdy : decide ((i : Int) < (ys.length : Int)) = false := by simp; omega
        have HN := Lib.hid (show cmpRow xs ys = 1 by rw [hce.out, if_neg (by omega), if_pos (by omega)])
        have hl' : (ys.length : Int) < (xs.length : Int) := by omega
        have hd1 : decide (xs.length < ys.length) = false := by simp; omega
        clear hx3 hend hboth
        go_wp2_with fail
        go_ret
        exact ⟨by rw [HN.out] <;> rfl, hB⟩
      · have hxi' : (xs.length : Int) ≤ (i : Int) := by omega
        have hdx : decide ((i : Int) < (xs.length : Int)) = false := by simp; omega
        by_cases hl : xs.length < ys.length
        · have HN := Lib.hid (show cmpRow xs ys = -1 by rw [hce.out, if_pos hl])
          have hl' : (xs.length : Int) < (ys.length : Int) := by omega
          clear hx3 hend hboth
          go_wp2_with fail
          go_ret
          exact ⟨by rw [HN.out] <;> rfl, hB⟩
        · have HN := Lib.hid (show cmpRow xs ys = 0 by rw [hce.out, if_neg hl, if_neg (by omega)])
          have hl1 : (ys.length : Int) ≤ (xs.length : Int) := by omega
          have hl2 : (xs.length : Int) ≤ (ys.length : Int) := by omega
          have hd1 : decide (xs.length < ys.length) = false := by simp; omega
          have hd2 : decide (ys.length < xs.length) = false := by simp; omega
          clear hx3 hend hboth hl
          go_wp2_with fail
          go_ret
          exact ⟨by rw [HN.out] <;> rfl, hB⟩
#print axioms rowCompare_any
#print axioms refCompare_any
end Go.Proofs.YtledgnolmiecfaaGreatDoor
