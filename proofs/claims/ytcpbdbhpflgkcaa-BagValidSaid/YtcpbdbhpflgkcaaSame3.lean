/-
  Same of package bag and of the document at any two bags.
-/
import Derived.Test.YtcpbdbhpflgkcaaSame2
namespace Go.Proofs.Ytcpbdbhpflgkcaa
open Go.RowKit

theorem sameItem_any (r s : ItR) (w : World) (b : Bool) (hbb : itv r = itv s ↔ b = true) (hR : RowOK w r.1) (hS : RowOK w s.1) :
    Calls Try.prog 54 #[nItem r, nItem s] w (BelowB w b) := by
  have hb0 : Below w.heap.size w (w.alloc (oItem r)) := (Below.refl _ _).alloc (Nat.le_refl _) _
  have hb1 : Below w.heap.size w ((w.alloc (oItem r)).alloc (oItem s)) := hb0.alloc hb0.size _
  have K0 := Blk.new w 48 #[rowv r.1, .int .i64 r.2]
  have K0' := K0.belowV ((Below.refl _ _).alloc (Nat.le_refl _) (oItem s)) (by simp)
  have K1 := Blk.new (w.alloc (oItem r)) 48 #[rowv s.1, .int .i64 s.2]
  have a0 := K0'.cell 0
  have a1 := K0'.cell 1
  have b0 := K1.cell 0
  have b1 := K1.cell 1
  obtain ⟨⟨xq, xs, xc⟩, xn⟩ := r
  obtain ⟨⟨yq, ys, yc⟩, yn⟩ := s
  simp only [List.getElem?_toArray, List.getElem?_cons_zero, List.getElem?_cons_succ] at a0 a1 b0 b1
  have hbc : (xs, xn) = (ys, yn) ↔ b = true := hbb
  clear hbb
  dsimp only [nItem, oItem, rowv] at *
  have hrow := rowsEqual_any xq yq xs ys xc yc hR.1 _ (hR.2.belowV hb1) (hS.2.belowV hb1)
  clear K0 K0' K1 hR hS
  by_cases hn : xn = yn
  · subst hn
    have hv : decide (xs = ys) = b := by
      rw [Bool.eq_iff_iff, decide_eq_true_iff, ← hbc]
      exact ⟨fun e => by rw [e], fun e => (Prod.mk.inj e).1⟩
    rw [hv] at hrow
    have HR := Lib.hid hrow
    clear hrow hv hbc
    go_enter Try.func54, Try.ntmps54
    go_wp2_with fail
    refine HR.out.mono ?_
    rintro e w1 ⟨rfl, hb⟩
    go_wp2_with fail
    go_ret
    exact ⟨rfl, hb1.trans (hb.mono hb1.size)⟩
  · have hv : b = false := by
      cases b with
      | false => rfl
      | true => exact absurd (Prod.mk.inj (hbc.2 rfl)).2 hn
    subst hv
    have hz : (xn == yn) = false := by rw [beq_eq_false_iff_ne]; exact hn
    clear hrow hbc hn
    go_enter Try.func54, Try.ntmps54
    go_wp2_with fail
    go_ret
    exact ⟨rfl, hb1⟩

theorem valsEq {rs ss : List ItR} (hl : rs.length = ss.length) (h : ∀ k, k < rs.length → itv (rs[k]?.getD ir0) = itv (ss[k]?.getD ir0)) : vals rs = vals ss :=
  listEq (a := it0) (by rw [vals_len, vals_len, hl]) fun k hk => by rw [vals_get, vals_get]; exact h k (by rwa [vals_len] at hk)
theorem valsNe {rs ss : List ItR} {k : Nat} (h : ¬ itv (rs[k]?.getD ir0) = itv (ss[k]?.getD ir0)) : decide (vals rs = vals ss) = false := decide_eq_false fun e => h (by rw [← vals_get, ← vals_get, e])
theorem valsNl {rs ss : List ItR} (h : ¬ rs.length = ss.length) : decide (vals rs = vals ss) = false := decide_eq_false fun e => h (by rw [← vals_len, e, vals_len])

set_option maxRecDepth 100000 in
set_option maxHeartbeats 1000000 in
theorem equalFunc_any (p q : Option Addr) (rs ss : List ItR) (c d : Nat) (hm : rs.length ≤ 9223372036854775807) (w : World) (hX : ItemsIn w p rs) (hZ : ItemsIn w q ss) :
    Calls Try.prog 53 #[.slice p rs.length c, .slice q ss.length d, .func (.func 54) #[] #[]] w (BelowB w (decide (vals rs = vals ss))) := by
  by_cases hl : rs.length = ss.length
  · have HX := Lib.hid hX
    have HZ := Lib.hid hZ
    have HL := Lib.hid hl
    rw [← hl]
    clear hX hZ hl
    go_enter Try.func53, Try.ntmps53
    go_wp2_with fail
    go_loopw [17] (fun s wr => ∃ i : Nat, i ≤ rs.length ∧ s = .int .i64 i ∧ Hid (∀ k, k < i → itv (rs[k]?.getD ir0) = itv (ss[k]?.getD ir0)) ∧ Below w.heap.size w wr) (fun s _ => rs.length - (intOf s).toNat)
    case atStart => exact ⟨0, Nat.zero_le _, rfl, (fun k hk => by omega), Below.refl _ _⟩
    case round =>
      obtain ⟨i, hi, rfl, hE, hB⟩ := hrel
      by_cases hlt : i < rs.length
      · obtain ⟨b, off, rfl, hbl, hra⟩ := HX.out (by omega)
        obtain ⟨b2, off2, rfl, hbl2, hra2⟩ := HZ.out (by rw [← HL.out]; omega)
        obtain ⟨c0, c1, c2, _⟩ := (hra.belowV hB hbl) i hlt
        obtain ⟨d0, d1, d2, _⟩ := (hra2.belowV hB hbl2) i (by rw [← HL.out]; omega)
        have hi0 : (0 : Int) ≤ (i : Int) := by omega
        have hi1 : (i : Int) < (rs.length : Int) := by omega
        have hBs := hB.size
        have HY := Lib.hid fun h : itv (rs[i]?.getD ir0) = itv (ss[i]?.getD ir0) => show ∀ k, k < i + 1 → itv (rs[k]?.getD ir0) = itv (ss[k]?.getD ir0) from fun k hk => by
          by_cases hki : k = i
          · rw [hki]; exact h
          · exact hE.out k (by omega)
        have HN := Lib.hid fun h : ¬ itv (rs[i]?.getD ir0) = itv (ss[i]?.getD ir0) => valsNe h
        clear hra hra2 hE
        generalize hrx : (rs[i]?.getD ir0) = x at c0 c1 c2 HY HN
        generalize hsx : (ss[i]?.getD ir0) = y at d0 d1 d2 HY HN
        clear hrx hsx
        have g0 : Below wr.heap.size wr (wr.alloc (oItem x)) := (Below.refl _ _).alloc (Nat.le_refl _) _
        have g1 : Below wr.heap.size wr ((wr.alloc (oItem x)).alloc (oItem y)) := g0.alloc g0.size _
        have hb1 : Below w.heap.size w ((wr.alloc (oItem x)).alloc (oItem y)) := hB.trans (g1.mono hBs)
        have HS := Lib.hid fun (b : Bool) (hbb : itv x = itv y ↔ b = true) => sameItem_any x y _ b hbb (c2.belowV g1) (d2.belowV g1)
        have d0' := (g0.cell (p := ⟨b2, off2 + i * 2, none⟩) (Nat.lt_of_lt_of_le hbl2 hBs)).trans d0
        have d1' := (g0.cell (p := ⟨b2, off2 + i * 2 + 1, none⟩) (Nat.lt_of_lt_of_le hbl2 hBs)).trans d1
        have K0 := Blk.new wr 48 #[rowv x.1, .int .i64 x.2]
        have K0' := K0.belowV ((Below.refl _ _).alloc (Nat.le_refl _) (oItem y)) (by simp)
        have K1 := Blk.new (wr.alloc (oItem x)) 48 #[rowv y.1, .int .i64 y.2]
        have a0 := K0'.cell 0
        have a1 := K0'.cell 1
        have b0 := K1.cell 0
        have b1 := K1.cell 1
        simp only [List.getElem?_toArray, List.getElem?_cons_zero, List.getElem?_cons_succ] at a0 a1 b0 b1
        clear K0 K0' K1 d0 d1 c2 d2 g0 g1
        obtain ⟨⟨xq, xs, xc⟩, xn⟩ := x
        obtain ⟨⟨yq, ys, yc⟩, yn⟩ := y
        dsimp only [nItem, oItem, rowv] at *
        by_cases he : itv ((xq, xs, xc), xn) = itv ((yq, ys, yc), yn)
        · have HS := Lib.hid (HS.out true ⟨fun _ => rfl, fun _ => he⟩)
          have HE := Lib.hid (HY.out he)
          clear HY HN he
          go_wp2_with fail
          refine HS.out.mono ?_
          rintro e w3 ⟨rfl, hb3⟩
          have hB4 := hb1.trans (hb3.mono hb1.size)
          clear hb3 a0 a1 b0 b1
          go_wp2_with fail
          go_roundw
          case rel => exact ⟨i + 1, by omega, by go_num, HE.out, hB4⟩
          case measure => simp [intOf]; omega
        · have HS := Lib.hid (HS.out false ⟨fun h => absurd h he, fun h => by cases h⟩)
          have HE := Lib.hid (HN.out he)
          clear HY HN he
          go_wp2_with fail
          refine HS.out.mono ?_
          rintro e w3 ⟨rfl, hb3⟩
          have hB4 := hb1.trans (hb3.mono hb1.size)
          clear hb3 a0 a1 b0 b1
          go_wp2_with fail
          go_ret
          exact ⟨retB HE.out.symm, hB4⟩
      · have hge : rs.length ≤ i := by omega
        have HEQ := Lib.hid (show decide (vals rs = vals ss) = true from decide_eq_true (valsEq HL.out fun k hk => hE.out k (by omega)))
        go_wp2_with fail
        go_ret
        exact ⟨retB HEQ.out.symm, hB⟩
  · have HNE := Lib.hid (valsNl hl)
    have hz : ((rs.length : Int) == (ss.length : Int)) = false := by rw [beq_eq_false_iff_ne]; omega
    clear hl hX hZ
    go_enter Try.func53, Try.ntmps53
    go_wp2_with fail
    go_ret
    exact ⟨retB HNE.out.symm, Below.refl _ _⟩

theorem bagSame_any (p q : Option Addr) (rs ss : List ItR) (c d : Nat) (hm : rs.length ≤ 9223372036854775807) (w : World) (hX : ItemsIn w p rs) (hZ : ItemsIn w q ss) :
    Calls Try.prog 20 #[.slice p rs.length c, .slice q ss.length d] w (BelowB w (decide (vals rs = vals ss))) := by
  have H := Lib.hid (equalFunc_any p q rs ss c d hm w hX hZ)
  clear hX hZ
  go_enter Try.func20, Try.ntmps20
  go_wp2_with fail
  refine H.out.mono ?_
  rintro e w1 ⟨rfl, hb⟩
  go_wp2_with fail
  go_ret
  exact ⟨rfl, hb⟩

set_option maxRecDepth 100000 in
set_option maxHeartbeats 1000000 in
theorem refSameB_any (p q : Option Addr) (rs ss : List ItR) (c d : Nat) (hm : rs.length ≤ 9223372036854775807) (w : World) (hX : ItemsIn w p rs) (hZ : ItemsIn w q ss) :
    Calls Try.prog 21 #[.slice p rs.length c, .slice q ss.length d] w (BelowB w (decide (vals rs = vals ss))) := by
  by_cases hl : rs.length = ss.length
  · have HX := Lib.hid hX
    have HZ := Lib.hid hZ
    have HL := Lib.hid hl
    rw [← hl]
    clear hX hZ hl
    go_enter Try.func21, Try.ntmps21
    go_wp2_with fail
    go_loopw [5] (fun s wr => ∃ i : Nat, i ≤ rs.length ∧ s = .int .i64 i ∧ Hid (∀ k, k < i → itv (rs[k]?.getD ir0) = itv (ss[k]?.getD ir0)) ∧ Below w.heap.size w wr) (fun s _ => rs.length - (intOf s).toNat)
    case atStart => exact ⟨0, Nat.zero_le _, rfl, (fun k hk => by omega), Below.refl _ _⟩
    case round =>
      obtain ⟨i, hi, rfl, hE, hB⟩ := hrel
      by_cases hlt : i < rs.length
      · obtain ⟨b, off, rfl, hbl, hra⟩ := HX.out (by omega)
        obtain ⟨b2, off2, rfl, hbl2, hra2⟩ := HZ.out (by rw [← HL.out]; omega)
        obtain ⟨c0, c1, c2, _⟩ := (hra.belowV hB hbl) i hlt
        obtain ⟨d0, d1, d2, _⟩ := (hra2.belowV hB hbl2) i (by rw [← HL.out]; omega)
        have hi0 : (0 : Int) ≤ (i : Int) := by omega
        have hi1 : (i : Int) < (rs.length : Int) := by omega
        have HY := Lib.hid fun h : itv (rs[i]?.getD ir0) = itv (ss[i]?.getD ir0) => show ∀ k, k < i + 1 → itv (rs[k]?.getD ir0) = itv (ss[k]?.getD ir0) from fun k hk => by
          by_cases hki : k = i
          · rw [hki]; exact h
          · exact hE.out k (by omega)
        have HN := Lib.hid fun h : ¬ itv (rs[i]?.getD ir0) = itv (ss[i]?.getD ir0) => valsNe h
        clear hra hra2 hE
        generalize hrx : (rs[i]?.getD ir0) = x at c0 c1 c2 HY HN
        generalize hsx : (ss[i]?.getD ir0) = y at d0 d1 d2 HY HN
        clear hrx hsx
        obtain ⟨⟨xq, xs, xc⟩, xn⟩ := x
        obtain ⟨⟨yq, ys, yc⟩, yn⟩ := y
        dsimp only [rowv, itv] at *
        have HC := Lib.hid fun W (h : Below wr.heap.size wr W) => refRowSame_any xq yq xs ys xc yc c2.1 W (c2.belowV h).2 (d2.belowV h).2
        clear c2 d2
        by_cases hn : xn = yn
        · subst hn
          go_wp2_with fail
          go_still_tail 22, (by kernel_rfl)
          have hB2 : Below w.heap.size w wr.drew := hB.drew
          have hB3 : Below wr.heap.size wr wr.drew := (Below.refl _ _).drew
          clear c0 c1 d0 d1
          change wpList _ _ _ _ _ wr.drew
          generalize wr.drew = W7 at hB2 hB3 ⊢
          by_cases he : xs = ys
          · rw [decide_eq_true he] at HC
            have HE := Lib.hid (HY.out (by rw [he]))
            clear HY HN he
            go_wp2_with fail
            refine (HC.out _ hB3).mono ?_
            rintro e w3 ⟨rfl, hb3⟩
            go_wp2_with fail
            go_roundw
            case rel => exact ⟨i + 1, by omega, by go_num, HE.out, hB2.trans (hb3.mono hB2.size)⟩
            case measure => simp [intOf]; omega
          · rw [decide_eq_false he] at HC
            have HE := Lib.hid (HN.out fun e => he (Prod.mk.inj e).1)
            clear HY HN he
            go_wp2_with fail
            refine (HC.out _ hB3).mono ?_
            rintro e w3 ⟨rfl, hb3⟩
            go_wp2_with fail
            go_ret
            exact ⟨retB HE.out.symm, hB2.trans (hb3.mono hB2.size)⟩
        · have hz : (xn != yn) = true := by rw [bne_iff_ne]; exact hn
          have HE := Lib.hid (HN.out fun e => hn (Prod.mk.inj e).2)
          clear HY HN hn HC
          go_wp2_with fail
          go_quiet (fail)
          go_wp2_with fail
          go_ret
          exact ⟨retB HE.out.symm, ⟨hB.os, hB.tape, hB.output, hB.size, hB.block⟩⟩
      · have hge : rs.length ≤ i := by omega
        have HEQ := Lib.hid (show decide (vals rs = vals ss) = true from decide_eq_true (valsEq HL.out fun k hk => hE.out k (by omega)))
        go_wp2_with fail
        go_ret
        exact ⟨retB HEQ.out.symm, hB⟩
  · have HNE := Lib.hid (valsNl hl)
    have hz : ((rs.length : Int) == (ss.length : Int)) = false := by rw [beq_eq_false_iff_ne]; omega
    clear hl hX hZ
    go_enter Try.func21, Try.ntmps21
    go_wp2_with fail
    go_ret
    exact ⟨retB HNE.out.symm, Below.refl _ _⟩
end Go.Proofs.Ytcpbdbhpflgkcaa
