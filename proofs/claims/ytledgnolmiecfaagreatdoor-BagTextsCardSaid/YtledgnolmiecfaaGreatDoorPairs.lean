/-
  bag's pairs, as an iterator: two bags walked together.
-/
import Derived.Test.YtledgnolmiecfaaGreatDoorFirst
import Derived.Test.YtledgnolmiecfaaGreatDoorJK
import Derived.RangeFuncNested
import Derived.RangeFuncBound
import Derived.RangeFuncCalls
import Derived.RangeFuncLeaves
import Derived.Shelf.Abstract
import Derived.Shelf.RegionOpen
import Derived.OwnWalkIn
import Derived.TacticsInMore
import Derived.LoopNIn
import Derived.LoopIn
import Derived.BigRegion
import Derived.Deep.Cut
namespace Go.Proofs.YtledgnolmiecfaaGreatDoor
open Go.RowKit Go.Shelf
set_option linter.unusedSimpArgs false
attribute [local go_sem] Oper.semAt_some

theorem grown_of_below {a w : World} (h : Below a.heap.size a w) : a.grownBy w none := ⟨h.os, h.tape, h.output, h.size, fun i hi _ => h.block i hi⟩

/-- Two blocks, and all below a number, lie as they lay. -/
structure Keeps2 (n₀ B1 B2 : Nat) (W W' : World) : Prop where
  low : Below n₀ W W'
  a : W'.heap[B1]? = W.heap[B1]?
  b : W'.heap[B2]? = W.heap[B2]?
theorem Keeps2.refl (n₀ B1 B2 : Nat) (W : World) : Keeps2 n₀ B1 B2 W W := ⟨Below.refl _ _, rfl, rfl⟩
theorem Keeps2.trans {n₀ B1 B2 : Nat} {A B C : World} (h : Keeps2 n₀ B1 B2 A B) (k : Keeps2 n₀ B1 B2 B C) : Keeps2 n₀ B1 B2 A C := ⟨h.low.trans k.low, k.a.trans h.a, k.b.trans h.b⟩
theorem Keeps2.of_below {n₀ n₁ B1 B2 : Nat} {W W' : World} (h : Below n₁ W W') (h0 : n₀ ≤ n₁) (h1 : B1 < n₁) (h2 : B2 < n₁) : Keeps2 n₀ B1 B2 W W' := ⟨h.mono h0, h.block _ h1, h.block _ h2⟩
theorem lt_of_same {W W' : World} {b : Nat} (h : W'.heap[b]? = W.heap[b]?) (hb : b < W.heap.size) : b < W'.heap.size := by
  rw [Array.getElem?_eq_getElem hb] at h
  exact (Array.getElem?_eq_some_iff.1 h).1

/-- A bag whose memory lies below a number. -/
def ItemsLow (n₀ : Nat) (W : World) (p : Option Addr) (rs : List ItR) : Prop := ∀ W', Below n₀ W W' → ItemsIn W' p rs

def encP (x : PrR) : Array Value := #[.agg #[rowv x.1, .int .i64 x.2.1, .int .i64 x.2.2]]

set_option maxRecDepth 100000 in
theorem sl_any (p : Option Addr) (n c i : Nat) (hi : i ≤ n) (hm : n ≤ 9223372036854775807) : ∃ p' : Option Addr, (∀ W : World, (Instr.slice 23 (.slice p n c) (some (.int .i64 (i : Int))) none none).run Tryz.prog W = .ok (.slice p' (n - i) (c - i)) W) ∧
    ∀ (W : World) (rs : List ItR), rs.length = n → n ≤ c → ItemsIn W p rs → ItemsIn W p' (rs.drop i) := by
  refine ⟨if c = i then p else p.map (·.add (i * 2)), fun W => ?_, fun W rs hl hc hX hp => ?_⟩
  · have e := run_slice_l (P := Tryz.prog) (w := W) 23 p n c Tryz.underlying23 .i64 (i : Int) (by omega) (by omega)
    rw [e]
    go_simp
  · rw [List.length_drop] at hp
    obtain ⟨b, off, rfl, hbl, hr⟩ := hX (by omega)
    rw [if_neg (by omega)]
    refine ⟨b, off + i * 2, by simp [Go.WideShapes.add_plain], hbl, fun k hk => ?_⟩
    rw [List.length_drop] at hk
    have := hr (i + k) (by omega)
    rw [List.getElem?_drop]
    rw [show off + (i + k) * 2 = off + i * 2 + k * 2 by omega] at this
    exact this

theorem pairs_any (p q : Option Addr) (n m c d : Nat) (w : World) :
    Calls Tryz.prog 66 #[.slice p n c, .slice q m d] w fun e w' =>
      e = .returned (.func (.func 92) #[] #[.pointer (some ⟨w.heap.size, 0, none⟩), .pointer (some ⟨w.heap.size + 1, 0, none⟩)]) ∧
      w' = (w.alloc (.cells #[.slice p n c] 23)).alloc (.cells #[.slice q m d] 23) := by
  go_enter Tryz.func66, Tryz.ntmps66
  go_wp2
  go_ret
  exact ⟨rfl, rfl⟩

set_option maxRecDepth 100000 in
set_option maxHeartbeats 4000000 in
theorem pairs1_in (n : Nat) (hn : 1 ≤ n) (l B1 B2 n₀ : Nat) (p q : Option Addr) (rs ss : List ItR) (c d : Nat) (hm1 : rs.length ≤ 1000000) (hm2 : ss.length ≤ 1000000) (hc : rs.length ≤ c) (hd : ss.length ≤ d) (J Jx : List PrR → World → Prop) (W : World)
    (hJ : AbidesFrom W.heap.size J) (hn₀ : n₀ ≤ W.heap.size) (hB1 : B1 < W.heap.size) (hB2 : B2 < W.heap.size)
    (hS1 : W.cell? ⟨B1, 0, none⟩ = some (.slice p rs.length c)) (hS2 : W.cell? ⟨B2, 0, none⟩ = some (.slice q ss.length d)) (hX : ItemsLow n₀ W p rs) (hZ : ItemsLow n₀ W q ss)
    (hY : ∀ pre x W1, J pre W1 → pre.length < (pairsR rs ss).length → YieldAt Fence.wide (n - 1) Tryz.prog l (encP x) W1 fun e W' =>
      (e = .returned (.bool true) ∧ J (pre ++ [x]) W' ∧ Keeps2 n₀ B1 B2 W1 W') ∨ (e = .returned (.bool false) ∧ Jx (pre ++ [x]) W')) (h0 : J [] W) :
    CallsIn Fence.wide n Tryz.prog 92 #[.func (.yield l) #[] #[], .pointer (some ⟨B1, 0, none⟩), .pointer (some ⟨B2, 0, none⟩)] W fun e W' => (∃ v, e = .returned v) ∧
      ((∃ ys, ys = pairsR rs ss ∧ J ys W') ∨ (∃ pre, pre <+: pairsR rs ss ∧ Jx pre W')) := by
  have HY := Lib.hid hY
  have HX := Lib.hid hX
  have HZ := Lib.hid hZ
  clear hY hX hZ
  refine callsIn_of_wp Tryz.func92 rfl trivial ?_ rfl
  simp only [Tryz.ntmps92, List.size_toArray, List.length_cons, List.length_nil, Nat.reduceAdd, Nat.reduceSub, Array.replicate_succ, Array.replicate_zero, List.push_toArray, List.append_toArray, List.nil_append, List.cons_append]
  refine wpIn_wide.2 ?_
  go_wp2_with fail
  go_loopw [4, 5] (fun a b wr => ∃ (i j : Nat) (pre : List PrR), a = .int .i64 i ∧ b = .int .i64 j ∧ i ≤ rs.length ∧ j ≤ ss.length ∧ Hid (pre ++ pairsR (rs.drop i) (ss.drop j) = pairsR rs ss) ∧ J pre wr ∧ Keeps2 n₀ B1 B2 W wr)
    (fun a b _ => (rs.length - (intOf a).toNat) + (ss.length - (intOf b).toNat))
  case atStart => exact ⟨0, 0, [], rfl, rfl, Nat.zero_le _, Nat.zero_le _, by simp [Hid], h0, Keeps2.refl _ _ _ _⟩
  case round =>
    obtain ⟨i, j, pre, rfl, rfl, hi, hj, hpre, hJi, hBi⟩ := hrel
    have c1 : wr.cell? ⟨B1, 0, none⟩ = some (.slice p rs.length c) := (World.cell?_of_block (a := ⟨B1, 0, none⟩) hBi.a).trans hS1
    have c2 : wr.cell? ⟨B2, 0, none⟩ = some (.slice q ss.length d) := (World.cell?_of_block (a := ⟨B2, 0, none⟩) hBi.b).trans hS2
    by_cases hij : i < rs.length ∨ j < ss.length
    · obtain ⟨p1, hs1, hx1⟩ := sl_any p rs.length c i hi (by omega)
      obtain ⟨q1, hs2, hx2⟩ := sl_any q ss.length d j hj (by omega)
      have HF := Lib.hid fun (V : World) (h : Below n₀ W V) => compareFirst_any p1 q1 (rs.drop i) (ss.drop j) (rs.length - i) (ss.length - j) (c - i) (d - j) (by simp) (by simp) (by omega) V (hx1 V rs rfl hc (HX.out V h)) (hx2 V ss rfl hd (HZ.out V h))
      have hi0 : (0 : Int) ≤ (i : Int) := by omega
      have hj0 : (0 : Int) ≤ (j : Int) := by omega
      have hi1 : (i : Int) ≤ (rs.length : Int) := by omega
      have hj1 : (j : Int) ≤ (ss.length : Int) := by omega
      have hB1' : B1 < wr.heap.size := lt_of_same hBi.a hB1
      have hB2' : B2 < wr.heap.size := lt_of_same hBi.b hB2
      have hfl := firstC_le (rs := rs) (ss := ss) (i := i) (j := j) hij
      have hfb := firstC_both (rs := rs) (ss := ss) (i := i) (j := j)
      have HR := Lib.hid (And.intro (@pairsR_left rs ss i j) (And.intro (@pairsR_right rs ss i j) (@pairsR_both rs ss i j)))
      have HXW := Lib.hid (HX.out wr hBi.low)
      have HZW := Lib.hid (HZ.out wr hBi.low)
      clear hx1 hx2
      generalize hfe : firstC (vals (rs.drop i)) (vals (ss.drop j)) = fc at HF hfl hfb HR
      clear hfe
      have hW1 : Below wr.heap.size wr (wr.alloc (.cells #[.slice none 0 0, .int .i64 0, .int .i64 0] 108)) := (Below.refl _ _).alloc (Nat.le_refl _) _
      have hb1 := Blk.new wr 108 #[.slice none 0 0, .int .i64 0, .int .i64 0]
      have d1 := (hW1.cell (p := ⟨B1, 0, none⟩) hB1').trans c1
      have d2 := (hW1.cell (p := ⟨B2, 0, none⟩) hB2').trans c2
      have hs0 : (wr.alloc (.cells #[.slice none 0 0, .int .i64 0, .int .i64 0] 108)).heap.size = wr.heap.size + 1 := by simp
      obtain ⟨W1, hW1e⟩ : ∃ W1, wr.alloc (.cells #[.slice none 0 0, .int .i64 0, .int .i64 0] 108) = W1 := ⟨_, rfl⟩
      rw [hW1e] at hW1 hb1 d1 d2 hs0
      have HW1E := Lib.hid hW1e
      have HB1 := Lib.hid hb1
      clear hW1e hb1
      rcases Int.lt_trichotomy fc 0 with hf | hf | hf
      · have hlt : i < rs.length := hfl (by omega)
        have hlt' : (i : Int) < (rs.length : Int) := by omega
        have hf1 : fc ≤ 0 := by omega
        have HPR := Lib.hid (HR.out.1 hlt hf)
        clear hfl hfb HR
        go_wp2_with fail
        rw [HW1E.out]
        go_still_tail 6, (by kernel_rfl)
        have hD1 : Below wr.heap.size wr W1.drew := hW1.drew
        have hs0' : W1.drew.heap.size = wr.heap.size + 1 := hs0
        have HB2 : Hid (Blk W1.drew wr.heap.size 108 #[.slice none 0 0, .int .i64 0, .int .i64 0]) := HB1.out
        clear d1 d2 hs0 hW1 HB1 HW1E
        change wpList _ _ _ _ _ W1.drew
        generalize W1.drew = W7 at *
        go_wp2_with fail
        refine (HF.out _ (hBi.low.trans (hD1.mono (Nat.le_trans hn₀ hBi.low.size)))).mono ?_
        rintro e W8 ⟨rfl, hb8⟩
        have hD8 : Below wr.heap.size wr W8 := hD1.trans (hb8.mono hD1.size)
        have hB8 := HB2.out.belowV hb8 (by omega)
        clear hb8 HB2
        obtain ⟨b, off, hpe, hbl, hra⟩ := HXW.out (by omega)
        subst hpe
        obtain ⟨ex0, ex1, _, _⟩ := hra i hlt
        clear hra
        generalize (rs[i]?.getD ir0) = x at *
        obtain ⟨⟨xq, xs, xc⟩, xn⟩ := x
        dsimp only [rowv] at ex0 ex1
        have g0 := (hD8.cell (p := ⟨b, off + i * 2, none⟩) hbl).trans ex0
        have g1 := (hD8.cell (p := ⟨b, off + i * 2 + 1, none⟩) hbl).trans ex1
        have g2 := (hD8.cell (p := ⟨B1, 0, none⟩) hB1').trans c1
        have g3 : W8.cell? ⟨wr.heap.size, 0, none⟩ = some (.slice none 0 0) := hB8.cell 0
        have g4 : W8.cell? ⟨wr.heap.size, 1, none⟩ = some (.int .i64 0) := hB8.cell 1
        have g5 : W8.cell? ⟨wr.heap.size, 2, none⟩ = some (.int .i64 0) := hB8.cell 2
        have f3 : ∀ o, W8.frozen? ⟨wr.heap.size, o, none⟩ = false := fun o => frozen_of_row W8 _ o _ _ hB8
        have f0 := f3 0
        have f1 := f3 1
        have HB8 := Lib.hid hB8
        clear f3 hB8 ex0 ex1
        go_wp2_with fail
        go_region
        have hB9 : Below wr.heap.size wr ((W8.setCell ⟨wr.heap.size, 0, none⟩ (.slice xq xs.length xc)).setCell ⟨wr.heap.size, 1, none⟩ (.int .i64 xn)).drew := ((hD8.setCell (Nat.le_refl _) _).setCell (Nat.le_refl _) _).drew
        have hK9 : Blk ((W8.setCell ⟨wr.heap.size, 0, none⟩ (.slice xq xs.length xc)).setCell ⟨wr.heap.size, 1, none⟩ (.int .i64 xn)).drew wr.heap.size 108 #[.slice xq xs.length xc, .int .i64 xn, .int .i64 0] :=
          heap_setCell_same _ _ 1 _ _ _ (heap_setCell_same _ _ 0 _ _ _ HB8.out)
        clear g0 g1 g2 g3 g4 g5 f0 f1 hD8 HB8
        generalize ((W8.setCell ⟨wr.heap.size, 0, none⟩ (.slice xq xs.length xc)).setCell ⟨wr.heap.size, 1, none⟩ (.int .i64 xn)).drew = W9 at *
        go_upto_region 10 with (fail)
        have hJ9 : J pre W9 := hJ _ _ _ none hJi (grown_of_below hB9) (fun r e => by cases e)
        have hlen : pre.length < (pairsR rs ss).length := by rw [← hpre.out, HPR.out, List.length_append, List.length_cons]; omega
        have hy1 := HY.out pre (((xq, xs, xc) : RowV), xn, (0 : Int)) W9 hJ9 hlen
        obtain ⟨fn, tmps, assign, body, hy, hR⟩ := hy1
        dsimp only [encP, rowv] at hy
        have h0' : W9.cell? ⟨wr.heap.size, 0, none⟩ = some (.slice xq xs.length xc) := hK9.cell 0
        have h1' : W9.cell? ⟨wr.heap.size, 1, none⟩ = some (.int .i64 xn) := hK9.cell 1
        have h2' : W9.cell? ⟨wr.heap.size, 2, none⟩ = some (.int .i64 0) := hK9.cell 2
        have hK39 : Keeps2 n₀ B1 B2 W W9 := hBi.trans (Keeps2.of_below hB9 (Nat.le_trans hn₀ hBi.low.size) hB1' hB2')
        refine (wpIn_wide (n := n)).1 ?_
        gi_wp2_with fail
        refine hR.mono ?_
        have HQ : Hid ((pre ++ [(((xq, xs, xc) : RowV), xn, (0 : Int))]) ++ pairsR (rs.drop (i + 1)) (ss.drop (j)) = pairsR rs ss) := by
          show _ = _
          rw [← hpre.out, HPR.out, List.append_assoc]; rfl
        rintro e W3 (⟨rfl, hJ3, hk3⟩ | ⟨rfl, hJx3⟩)
        · gi_wp2_with fail
          go_wp2_with fail
          go_roundw
          case rel => exact ⟨i + 1, j, pre ++ [(((xq, xs, xc) : RowV), xn, (0 : Int))], by go_num, by go_num, by omega, by omega, HQ.out, hJ3, hK39.trans hk3⟩
          case measure => simp [intOf]; omega
        · gi_wp2_with fail
          go_wp2_with fail
          refine bodyPost_ret (results_none rfl _ _ _) rfl ?_
          exact ⟨⟨_, rfl⟩, .inr ⟨pre ++ [(((xq, xs, xc) : RowV), xn, (0 : Int))], ⟨_, HQ.out⟩, hJx3⟩⟩
      · have hlt : i < rs.length := hfl (by omega)
        have hlj : j < ss.length := hfb (by omega)
        have hlt' : (i : Int) < (rs.length : Int) := by omega
        have hlj' : (j : Int) < (ss.length : Int) := by omega
        have HPR := Lib.hid (HR.out.2.2 hlt hlj hf)
        subst hf
        clear hfl hfb HR
        go_wp2_with fail
        rw [HW1E.out]
        go_still_tail 6, (by kernel_rfl)
        have hD1 : Below wr.heap.size wr W1.drew := hW1.drew
        have hs0' : W1.drew.heap.size = wr.heap.size + 1 := hs0
        have HB2 : Hid (Blk W1.drew wr.heap.size 108 #[.slice none 0 0, .int .i64 0, .int .i64 0]) := HB1.out
        clear d1 d2 hs0 hW1 HB1 HW1E
        change wpList _ _ _ _ _ W1.drew
        generalize W1.drew = W7 at *
        go_wp2_with fail
        refine (HF.out _ (hBi.low.trans (hD1.mono (Nat.le_trans hn₀ hBi.low.size)))).mono ?_
        rintro e W8 ⟨rfl, hb8⟩
        have hD8 : Below wr.heap.size wr W8 := hD1.trans (hb8.mono hD1.size)
        have hB8 := HB2.out.belowV hb8 (by omega)
        clear hb8 HB2
        obtain ⟨b, off, hpe, hbl, hra⟩ := HXW.out (by omega)
        subst hpe
        obtain ⟨ex0, ex1, _, _⟩ := hra i hlt
        clear hra
        generalize (rs[i]?.getD ir0) = x at *
        obtain ⟨⟨xq, xs, xc⟩, xn⟩ := x
        dsimp only [rowv] at ex0 ex1
        obtain ⟨b2, off2, hpe2, hbl2, hra2⟩ := HZW.out (by omega)
        subst hpe2
        obtain ⟨ey0, ey1, _, _⟩ := hra2 j hlj
        clear hra2
        generalize (ss[j]?.getD ir0) = y at *
        obtain ⟨⟨yq, ys, yc⟩, yn⟩ := y
        dsimp only [rowv] at ey0 ey1
        have g0 := (hD8.cell (p := ⟨b, off + i * 2, none⟩) hbl).trans ex0
        have g1 := (hD8.cell (p := ⟨b, off + i * 2 + 1, none⟩) hbl).trans ex1
        have g2 := (hD8.cell (p := ⟨B1, 0, none⟩) hB1').trans c1
        have g3 : W8.cell? ⟨wr.heap.size, 0, none⟩ = some (.slice none 0 0) := hB8.cell 0
        have g4 : W8.cell? ⟨wr.heap.size, 1, none⟩ = some (.int .i64 0) := hB8.cell 1
        have g5 : W8.cell? ⟨wr.heap.size, 2, none⟩ = some (.int .i64 0) := hB8.cell 2
        have f3 : ∀ o, W8.frozen? ⟨wr.heap.size, o, none⟩ = false := fun o => frozen_of_row W8 _ o _ _ hB8
        have f0 := f3 0
        have f1 := f3 1
        have HB8 := Lib.hid hB8
        clear f3 hB8 ex0 ex1
        go_wp2_with fail
        go_region
        have hB9 : Below wr.heap.size wr ((W8.setCell ⟨wr.heap.size, 0, none⟩ (.slice xq xs.length xc)).setCell ⟨wr.heap.size, 1, none⟩ (.int .i64 xn)).drew := ((hD8.setCell (Nat.le_refl _) _).setCell (Nat.le_refl _) _).drew
        have hK9 : Blk ((W8.setCell ⟨wr.heap.size, 0, none⟩ (.slice xq xs.length xc)).setCell ⟨wr.heap.size, 1, none⟩ (.int .i64 xn)).drew wr.heap.size 108 #[.slice xq xs.length xc, .int .i64 xn, .int .i64 0] :=
          heap_setCell_same _ _ 1 _ _ _ (heap_setCell_same _ _ 0 _ _ _ HB8.out)
        clear g0 g1 g2 g3 g4 g5 f0 f1 hD8 HB8
        generalize ((W8.setCell ⟨wr.heap.size, 0, none⟩ (.slice xq xs.length xc)).setCell ⟨wr.heap.size, 1, none⟩ (.int .i64 xn)).drew = W9 at *
        have hD8 := hB9
        have hB8 := hK9
        clear hB9 hK9
        have g0 := (hD8.cell (p := ⟨b2, off2 + j * 2, none⟩) hbl2).trans ey0
        have g1 := (hD8.cell (p := ⟨b2, off2 + j * 2 + 1, none⟩) hbl2).trans ey1
        have g2 := (hD8.cell (p := ⟨B2, 0, none⟩) hB2').trans c2
        have g3 : W9.cell? ⟨wr.heap.size, 0, none⟩ = some (.slice xq xs.length xc) := hB8.cell 0
        have g4 : W9.cell? ⟨wr.heap.size, 1, none⟩ = some (.int .i64 xn) := hB8.cell 1
        have g5 : W9.cell? ⟨wr.heap.size, 2, none⟩ = some (.int .i64 0) := hB8.cell 2
        have f3 : ∀ o, W9.frozen? ⟨wr.heap.size, o, none⟩ = false := fun o => frozen_of_row W9 _ o _ _ hB8
        have f0 := f3 0
        have f1 := f3 2
        have HB8 := Lib.hid hB8
        clear f3 hB8 ey0 ey1
        go_wp2_with fail
        go_region
        have hB9 : Below wr.heap.size wr ((W9.setCell ⟨wr.heap.size, 0, none⟩ (.slice yq ys.length yc)).setCell ⟨wr.heap.size, 2, none⟩ (.int .i64 yn)).drew := ((hD8.setCell (Nat.le_refl _) _).setCell (Nat.le_refl _) _).drew
        have hK9 : Blk ((W9.setCell ⟨wr.heap.size, 0, none⟩ (.slice yq ys.length yc)).setCell ⟨wr.heap.size, 2, none⟩ (.int .i64 yn)).drew wr.heap.size 108 #[.slice yq ys.length yc, .int .i64 xn, .int .i64 yn] :=
          heap_setCell_same _ _ 2 _ _ _ (heap_setCell_same _ _ 0 _ _ _ HB8.out)
        clear g0 g1 g2 g3 g4 g5 f0 f1 hD8 HB8
        generalize ((W9.setCell ⟨wr.heap.size, 0, none⟩ (.slice yq ys.length yc)).setCell ⟨wr.heap.size, 2, none⟩ (.int .i64 yn)).drew = W10 at *
        go_upto_region 10 with (fail)
        have hJ9 : J pre W10 := hJ _ _ _ none hJi (grown_of_below hB9) (fun r e => by cases e)
        have hlen : pre.length < (pairsR rs ss).length := by rw [← hpre.out, HPR.out, List.length_append, List.length_cons]; omega
        have hy1 := HY.out pre (((yq, ys, yc) : RowV), xn, yn) W10 hJ9 hlen
        obtain ⟨fn, tmps, assign, body, hy, hR⟩ := hy1
        dsimp only [encP, rowv] at hy
        have h0' : W10.cell? ⟨wr.heap.size, 0, none⟩ = some (.slice yq ys.length yc) := hK9.cell 0
        have h1' : W10.cell? ⟨wr.heap.size, 1, none⟩ = some (.int .i64 xn) := hK9.cell 1
        have h2' : W10.cell? ⟨wr.heap.size, 2, none⟩ = some (.int .i64 yn) := hK9.cell 2
        have hK39 : Keeps2 n₀ B1 B2 W W10 := hBi.trans (Keeps2.of_below hB9 (Nat.le_trans hn₀ hBi.low.size) hB1' hB2')
        refine (wpIn_wide (n := n)).1 ?_
        gi_wp2_with fail
        refine hR.mono ?_
        have HQ : Hid ((pre ++ [(((yq, ys, yc) : RowV), xn, yn)]) ++ pairsR (rs.drop (i + 1)) (ss.drop (j + 1)) = pairsR rs ss) := by
          show _ = _
          rw [← hpre.out, HPR.out, List.append_assoc]; rfl
        rintro e W3 (⟨rfl, hJ3, hk3⟩ | ⟨rfl, hJx3⟩)
        · gi_wp2_with fail
          go_wp2_with fail
          go_roundw
          case rel => exact ⟨i + 1, j + 1, pre ++ [(((yq, ys, yc) : RowV), xn, yn)], by go_num, by go_num, by omega, by omega, HQ.out, hJ3, hK39.trans hk3⟩
          case measure => simp [intOf]; omega
        · gi_wp2_with fail
          go_wp2_with fail
          refine bodyPost_ret (results_none rfl _ _ _) rfl ?_
          exact ⟨⟨_, rfl⟩, .inr ⟨pre ++ [(((yq, ys, yc) : RowV), xn, yn)], ⟨_, HQ.out⟩, hJx3⟩⟩
      · by_cases hlt : i < rs.length
        · have hlj : j < ss.length := hfb (by omega)
          have hlj' : (j : Int) < (ss.length : Int) := by omega
          have hf2 : 0 ≤ fc := by omega
          have HPR := Lib.hid (HR.out.2.1 hlj hf)
          clear hfl hfb HR
          have hlt' : (i : Int) < (rs.length : Int) := by omega
          go_wp2_with fail
          rw [HW1E.out]
          go_still_tail 6, (by kernel_rfl)
          have hD1 : Below wr.heap.size wr W1.drew := hW1.drew
          have hs0' : W1.drew.heap.size = wr.heap.size + 1 := hs0
          have HB2 : Hid (Blk W1.drew wr.heap.size 108 #[.slice none 0 0, .int .i64 0, .int .i64 0]) := HB1.out
          clear d1 d2 hs0 hW1 HB1 HW1E
          change wpList _ _ _ _ _ W1.drew
          generalize W1.drew = W7 at *
          go_wp2_with fail
          refine (HF.out _ (hBi.low.trans (hD1.mono (Nat.le_trans hn₀ hBi.low.size)))).mono ?_
          rintro e W8 ⟨rfl, hb8⟩
          have hD8 : Below wr.heap.size wr W8 := hD1.trans (hb8.mono hD1.size)
          have hB8 := HB2.out.belowV hb8 (by omega)
          clear hb8 HB2
          obtain ⟨b2, off2, hpe2, hbl2, hra2⟩ := HZW.out (by omega)
          subst hpe2
          obtain ⟨ey0, ey1, _, _⟩ := hra2 j hlj
          clear hra2
          generalize (ss[j]?.getD ir0) = y at *
          obtain ⟨⟨yq, ys, yc⟩, yn⟩ := y
          dsimp only [rowv] at ey0 ey1
          have g0 := (hD8.cell (p := ⟨b2, off2 + j * 2, none⟩) hbl2).trans ey0
          have g1 := (hD8.cell (p := ⟨b2, off2 + j * 2 + 1, none⟩) hbl2).trans ey1
          have g2 := (hD8.cell (p := ⟨B2, 0, none⟩) hB2').trans c2
          have g3 : W8.cell? ⟨wr.heap.size, 0, none⟩ = some (.slice none 0 0) := hB8.cell 0
          have g4 : W8.cell? ⟨wr.heap.size, 1, none⟩ = some (.int .i64 0) := hB8.cell 1
          have g5 : W8.cell? ⟨wr.heap.size, 2, none⟩ = some (.int .i64 0) := hB8.cell 2
          have f3 : ∀ o, W8.frozen? ⟨wr.heap.size, o, none⟩ = false := fun o => frozen_of_row W8 _ o _ _ hB8
          have f0 := f3 0
          have f1 := f3 2
          have HB8 := Lib.hid hB8
          clear f3 hB8 ey0 ey1
          go_wp2_with fail
          go_region
          have hB9 : Below wr.heap.size wr ((W8.setCell ⟨wr.heap.size, 0, none⟩ (.slice yq ys.length yc)).setCell ⟨wr.heap.size, 2, none⟩ (.int .i64 yn)).drew := ((hD8.setCell (Nat.le_refl _) _).setCell (Nat.le_refl _) _).drew
          have hK9 : Blk ((W8.setCell ⟨wr.heap.size, 0, none⟩ (.slice yq ys.length yc)).setCell ⟨wr.heap.size, 2, none⟩ (.int .i64 yn)).drew wr.heap.size 108 #[.slice yq ys.length yc, .int .i64 0, .int .i64 yn] :=
            heap_setCell_same _ _ 2 _ _ _ (heap_setCell_same _ _ 0 _ _ _ HB8.out)
          clear g0 g1 g2 g3 g4 g5 f0 f1 hD8 HB8
          generalize ((W8.setCell ⟨wr.heap.size, 0, none⟩ (.slice yq ys.length yc)).setCell ⟨wr.heap.size, 2, none⟩ (.int .i64 yn)).drew = W9 at *
          go_upto_region 10 with (fail)
          have hJ9 : J pre W9 := hJ _ _ _ none hJi (grown_of_below hB9) (fun r e => by cases e)
          have hlen : pre.length < (pairsR rs ss).length := by rw [← hpre.out, HPR.out, List.length_append, List.length_cons]; omega
          have hy1 := HY.out pre (((yq, ys, yc) : RowV), (0 : Int), yn) W9 hJ9 hlen
          obtain ⟨fn, tmps, assign, body, hy, hR⟩ := hy1
          dsimp only [encP, rowv] at hy
          have h0' : W9.cell? ⟨wr.heap.size, 0, none⟩ = some (.slice yq ys.length yc) := hK9.cell 0
          have h1' : W9.cell? ⟨wr.heap.size, 1, none⟩ = some (.int .i64 0) := hK9.cell 1
          have h2' : W9.cell? ⟨wr.heap.size, 2, none⟩ = some (.int .i64 yn) := hK9.cell 2
          have hK39 : Keeps2 n₀ B1 B2 W W9 := hBi.trans (Keeps2.of_below hB9 (Nat.le_trans hn₀ hBi.low.size) hB1' hB2')
          refine (wpIn_wide (n := n)).1 ?_
          gi_wp2_with fail
          refine hR.mono ?_
          have HQ : Hid ((pre ++ [(((yq, ys, yc) : RowV), (0 : Int), yn)]) ++ pairsR (rs.drop (i)) (ss.drop (j + 1)) = pairsR rs ss) := by
            show _ = _
            rw [← hpre.out, HPR.out, List.append_assoc]; rfl
          rintro e W3 (⟨rfl, hJ3, hk3⟩ | ⟨rfl, hJx3⟩)
          · gi_wp2_with fail
            go_wp2_with fail
            go_roundw
            case rel => exact ⟨i, j + 1, pre ++ [(((yq, ys, yc) : RowV), (0 : Int), yn)], by go_num, by go_num, by omega, by omega, HQ.out, hJ3, hK39.trans hk3⟩
            case measure => simp [intOf]; omega
          · gi_wp2_with fail
            go_wp2_with fail
            refine bodyPost_ret (results_none rfl _ _ _) rfl ?_
            exact ⟨⟨_, rfl⟩, .inr ⟨pre ++ [(((yq, ys, yc) : RowV), (0 : Int), yn)], ⟨_, HQ.out⟩, hJx3⟩⟩
        · have hlj : j < ss.length := hfb (by omega)
          have hlj' : (j : Int) < (ss.length : Int) := by omega
          have hf2 : 0 ≤ fc := by omega
          have HPR := Lib.hid (HR.out.2.1 hlj hf)
          clear hfl hfb HR
          have hlt' : (rs.length : Int) ≤ (i : Int) := by omega
          have hlt2 : decide ((i : Int) < (rs.length : Int)) = false := by simp; omega
          go_wp2_with fail
          rw [HW1E.out]
          go_still_tail 6, (by kernel_rfl)
          have hD1 : Below wr.heap.size wr W1.drew := hW1.drew
          have hs0' : W1.drew.heap.size = wr.heap.size + 1 := hs0
          have HB2 : Hid (Blk W1.drew wr.heap.size 108 #[.slice none 0 0, .int .i64 0, .int .i64 0]) := HB1.out
          clear d1 d2 hs0 hW1 HB1 HW1E
          change wpList _ _ _ _ _ W1.drew
          generalize W1.drew = W7 at *
          go_wp2_with fail
          refine (HF.out _ (hBi.low.trans (hD1.mono (Nat.le_trans hn₀ hBi.low.size)))).mono ?_
          rintro e W8 ⟨rfl, hb8⟩
          have hD8 : Below wr.heap.size wr W8 := hD1.trans (hb8.mono hD1.size)
          have hB8 := HB2.out.belowV hb8 (by omega)
          clear hb8 HB2
          obtain ⟨b2, off2, hpe2, hbl2, hra2⟩ := HZW.out (by omega)
          subst hpe2
          obtain ⟨ey0, ey1, _, _⟩ := hra2 j hlj
          clear hra2
          generalize (ss[j]?.getD ir0) = y at *
          obtain ⟨⟨yq, ys, yc⟩, yn⟩ := y
          dsimp only [rowv] at ey0 ey1
          have g0 := (hD8.cell (p := ⟨b2, off2 + j * 2, none⟩) hbl2).trans ey0
          have g1 := (hD8.cell (p := ⟨b2, off2 + j * 2 + 1, none⟩) hbl2).trans ey1
          have g2 := (hD8.cell (p := ⟨B2, 0, none⟩) hB2').trans c2
          have g3 : W8.cell? ⟨wr.heap.size, 0, none⟩ = some (.slice none 0 0) := hB8.cell 0
          have g4 : W8.cell? ⟨wr.heap.size, 1, none⟩ = some (.int .i64 0) := hB8.cell 1
          have g5 : W8.cell? ⟨wr.heap.size, 2, none⟩ = some (.int .i64 0) := hB8.cell 2
          have f3 : ∀ o, W8.frozen? ⟨wr.heap.size, o, none⟩ = false := fun o => frozen_of_row W8 _ o _ _ hB8
          have f0 := f3 0
          have f1 := f3 2
          have HB8 := Lib.hid hB8
          clear f3 hB8 ey0 ey1
          go_wp2_with fail
          go_region
          have hB9 : Below wr.heap.size wr ((W8.setCell ⟨wr.heap.size, 0, none⟩ (.slice yq ys.length yc)).setCell ⟨wr.heap.size, 2, none⟩ (.int .i64 yn)).drew := ((hD8.setCell (Nat.le_refl _) _).setCell (Nat.le_refl _) _).drew
          have hK9 : Blk ((W8.setCell ⟨wr.heap.size, 0, none⟩ (.slice yq ys.length yc)).setCell ⟨wr.heap.size, 2, none⟩ (.int .i64 yn)).drew wr.heap.size 108 #[.slice yq ys.length yc, .int .i64 0, .int .i64 yn] :=
            heap_setCell_same _ _ 2 _ _ _ (heap_setCell_same _ _ 0 _ _ _ HB8.out)
          clear g0 g1 g2 g3 g4 g5 f0 f1 hD8 HB8
          generalize ((W8.setCell ⟨wr.heap.size, 0, none⟩ (.slice yq ys.length yc)).setCell ⟨wr.heap.size, 2, none⟩ (.int .i64 yn)).drew = W9 at *
          go_upto_region 10 with (fail)
          have hJ9 : J pre W9 := hJ _ _ _ none hJi (grown_of_below hB9) (fun r e => by cases e)
          have hlen : pre.length < (pairsR rs ss).length := by rw [← hpre.out, HPR.out, List.length_append, List.length_cons]; omega
          have hy1 := HY.out pre (((yq, ys, yc) : RowV), (0 : Int), yn) W9 hJ9 hlen
          obtain ⟨fn, tmps, assign, body, hy, hR⟩ := hy1
          dsimp only [encP, rowv] at hy
          have h0' : W9.cell? ⟨wr.heap.size, 0, none⟩ = some (.slice yq ys.length yc) := hK9.cell 0
          have h1' : W9.cell? ⟨wr.heap.size, 1, none⟩ = some (.int .i64 0) := hK9.cell 1
          have h2' : W9.cell? ⟨wr.heap.size, 2, none⟩ = some (.int .i64 yn) := hK9.cell 2
          have hK39 : Keeps2 n₀ B1 B2 W W9 := hBi.trans (Keeps2.of_below hB9 (Nat.le_trans hn₀ hBi.low.size) hB1' hB2')
          refine (wpIn_wide (n := n)).1 ?_
          gi_wp2_with fail
          refine hR.mono ?_
          have HQ : Hid ((pre ++ [(((yq, ys, yc) : RowV), (0 : Int), yn)]) ++ pairsR (rs.drop (i)) (ss.drop (j + 1)) = pairsR rs ss) := by
            show _ = _
            rw [← hpre.out, HPR.out, List.append_assoc]; rfl
          rintro e W3 (⟨rfl, hJ3, hk3⟩ | ⟨rfl, hJx3⟩)
          · gi_wp2_with fail
            go_wp2_with fail
            go_roundw
            case rel => exact ⟨i, j + 1, pre ++ [(((yq, ys, yc) : RowV), (0 : Int), yn)], by go_num, by go_num, by omega, by omega, HQ.out, hJ3, hK39.trans hk3⟩
            case measure => simp [intOf]; omega
          · gi_wp2_with fail
            go_wp2_with fail
            refine bodyPost_ret (results_none rfl _ _ _) rfl ?_
            exact ⟨⟨_, rfl⟩, .inr ⟨pre ++ [(((yq, ys, yc) : RowV), (0 : Int), yn)], ⟨_, HQ.out⟩, hJx3⟩⟩
    · have hie : i = rs.length := by omega
      have hje : j = ss.length := by omega
      have hlt' : (rs.length : Int) ≤ (i : Int) := by omega
      have hlt2 : decide ((i : Int) < (rs.length : Int)) = false := by simp; omega
      have hlj' : (ss.length : Int) ≤ (j : Int) := by omega
      have HQ := Lib.hid (show pre = pairsR rs ss by
        have := hpre.out
        rw [hie, hje, List.drop_length, List.drop_length, show pairsR [] [] = [] by rw [pairsR], List.append_nil] at this
        exact this)
      clear hij hie hje
      go_wp2_with fail
      go_end0
      exact ⟨⟨_, rfl⟩, .inl ⟨pre, HQ.out, hJi⟩⟩
#print axioms pairs1_in
end Go.Proofs.YtledgnolmiecfaaGreatDoor
