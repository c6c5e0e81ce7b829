/-
  Sums and means, as aggregates take and tell them.
-/
import Derived.Test.YtfoknllnknjccaaGreatAgT
namespace Go.Proofs.YtfoknllnknjccaaGreat
open Go.RowKit Go.Lib

def cellsS (s : S3) : Array Value := #[.int .i64 s.1, .int .i64 s.2.1, .int .i64 s.2.2]
set_option maxRecDepth 100000 in
theorem sumTake_any (B : Nat) (t : TypeId) (s : S3) (x : Val) (n : Int) (w : World) (hK : Blk w B t (cellsS s)) :
    Calls Tryz.prog 136 #[.pointer (some ⟨B, 0, none⟩), valA x, .int .i64 n] w (PutPost w B t (cellsS (smStep s (x, n)))) := by
  have hK1 := hK.allocG (objV x)
  have hX := Blk.new w 55 #[.int .i64 x.1, .int .i64 x.2.1, .string x.2.2]
  have hG := Lib.hid ((grew_refl w B).new (objV x))
  have hne : w.heap.size ≠ B := by have := hK.lt; omega
  unfold smStep
  dsimp only
  by_cases h1 : x.1 = 1
  · rw [if_pos h1]
    have d1 : (x.1 == 1) = true := by rw [beq_iff_eq]; exact h1
    obtain ⟨x0, x1, x2⟩ := x
    obtain ⟨s0, s1, s2⟩ := s
    dsimp only [valA, objV, cellsS] at *
    have c0 := hX.cell 0
    have c1 := hX.cell 1
    have c2 := hX.cell 2
    have e0 := hK1.cell 0
    have e1 := hK1.cell 1
    have e2 := hK1.cell 2
    have f0 := hK1.froz 0
    have f1 := hK1.froz 1
    simp only [List.getElem?_toArray, List.getElem?_cons_zero, List.getElem?_cons_succ] at c0 c1 c2 e0 e1 e2
    have HK := Lib.hid hK1
    have HX := Lib.hid hX
    have HNE := Lib.hid hne
    clear hK hK1 hX h1 hne
    go_enter Tryz.func136, Tryz.ntmps136
    go_wp2_with fail
    generalize w.alloc (.cells #[.int .i64 x0, .int .i64 x1, .string x2] 55) = W1 at *
    go_still_tail 12, (by kernel_rfl)
    change wpList _ _ _ _ _ W1.drew
    go_wp2_with fail
    clear e0 e1 e2 f0 f1 c0 c1 c2
    have k2 := (HK.out.setG 0 (.int .i64 (wrap64 (s0 + wrap64 (wrap64 (x1.tdiv 1000000000) * n))))).drewG
    have y2 := (HX.out.setOther (C := B) (j := 0) HNE.out (.int .i64 (wrap64 (s0 + wrap64 (wrap64 (x1.tdiv 1000000000) * n))))).drewG
    have g2 := (hG.out.set 0 (.int .i64 (wrap64 (s0 + wrap64 (wrap64 (x1.tdiv 1000000000) * n))))).drewG
    generalize (W1.setCell ⟨B, 0, none⟩ (.int .i64 (wrap64 (s0 + wrap64 (wrap64 (x1.tdiv 1000000000) * n))))).drew = W2 at k2 y2 g2 ⊢
    generalize wrap64 (s0 + wrap64 (wrap64 (x1.tdiv 1000000000) * n)) = h at *
    have c0 := y2.cell 0
    have c1 := y2.cell 1
    have c2 := y2.cell 2
    have e0 := k2.cell 0
    have e1 := k2.cell 1
    have e2 := k2.cell 2
    have f1 := k2.froz 1
    simp at c0 c1 c2 e0 e1 e2
    have HK2 := Lib.hid k2
    have HX2 := Lib.hid y2
    have HG2 := Lib.hid g2
    clear k2 y2 g2
    go_still_tail 12, (by kernel_rfl)
    change wpList _ _ _ _ _ W2.drew
    go_wp2_with fail
    clear e0 e1 e2 f1 c0 c1 c2
    have k3 := (HK2.out.setG 1 (.int .i64 (wrap64 (s1 + wrap64 (x1.tmod 1000000000 * n))))).drewG
    have y3 := (HX2.out.setOther (C := B) (j := 1) HNE.out (.int .i64 (wrap64 (s1 + wrap64 (x1.tmod 1000000000 * n))))).drewG
    have g3 := (HG2.out.set 1 (.int .i64 (wrap64 (s1 + wrap64 (x1.tmod 1000000000 * n))))).drewG
    generalize (W2.setCell ⟨B, 1, none⟩ (.int .i64 (wrap64 (s1 + wrap64 (x1.tmod 1000000000 * n))))).drew = W3 at k3 y3 g3 ⊢
    generalize wrap64 (s1 + wrap64 (x1.tmod 1000000000 * n)) = h' at *
    have c0 := y3.cell 0
    have c1 := y3.cell 1
    have c2 := y3.cell 2
    simp at c0 c1 c2
    have HC := Lib.hid (countTake_any B 2 t _ s2 (x0, x1, x2) n _ k3.drewG (by simp))
    have HG3 := Lib.hid g3.drewG
    clear k3 y3 g3
    go_still_tail 5, (by kernel_rfl)
    change wpList _ _ _ _ _ W3.drew
    dsimp only [valA] at HC
    go_wp2_with fail
    refine HC.out.mono ?_
    rintro e w1 hp
    obtain ⟨rfl, hg, hk⟩ := hp
    have HE := Lib.hid (show PutPost w B t #[.int .i64 h, .int .i64 h', .int .i64 (wrap64 (s2 + n))] (.returned (.tuple #[])) w1 from ⟨rfl, HG3.out.andG hg, by simpa using hk⟩)
    clear hg hk
    go_wp2_with fail
    refine bodyPost_end (results_none rfl _ _ _) rfl ?_
    exact HE.out
  · rw [if_neg h1]
    have d1 : (x.1 == 1) = false := by rw [beq_eq_false_iff_ne]; exact h1
    have HE := Lib.hid (show PutPost w B t (cellsS s) (.returned (.tuple #[])) (w.alloc (objV x)) from ⟨rfl, hG.out, hK1⟩)
    have c0 := hX.cell 0
    simp only [List.getElem?_toArray, List.getElem?_cons_zero] at c0
    generalize PutPost w B t (cellsS s) = Q at HE ⊢
    obtain ⟨x0, x1, x2⟩ := x
    dsimp only [valA, objV] at *
    clear hK hK1 hX h1 hne
    go_enter Tryz.func136, Tryz.ntmps136
    go_wp2_with fail
    refine bodyPost_end (results_none rfl _ _ _) rfl ?_
    exact HE.out

theorem down_any (a b : Int) (hb : b ≠ 0) (w : World) : Calls Tryz.prog 141 #[.int .i64 a, .int .i64 b] w fun e w' => e = .returned (.int .i64 (downI a b)) ∧ w = w' := by
  unfold downI
  by_cases h : a.tmod b < 0
  · rw [if_pos h]
    go_enter Tryz.func141, Tryz.ntmps141
    go_wp2_with fail
    go_ret
    exact ⟨rfl, rfl⟩
  · rw [if_neg h]
    go_enter Tryz.func141, Tryz.ntmps141
    go_wp2_with fail
    go_ret
    exact ⟨rfl, rfl⟩

set_option maxRecDepth 100000 in
set_option maxHeartbeats 1000000 in
theorem sumTell_any (B : Nat) (t : TypeId) (s : S3) (w : World) (hK : Blk w B t (cellsS s)) :
    Calls Tryz.prog 137 #[.pointer (some ⟨B, 0, none⟩)] w (ValPost w (smTell s)) := by
  have b1 : Below w.heap.size w (w.alloc (.cells #[.int .i64 0, .int .i64 0, .string ⟨#[]⟩] 55)) := below_new _ _
  have hK1 := hK.belowV b1 hK.lt
  have g2 := Blk.new w 55 #[.int .i64 0, .int .i64 0, .string ⟨#[]⟩]
  obtain ⟨s0, s1, s2⟩ := s
  dsimp only [cellsS, smTell] at *
  have c0 := hK1.cell 0
  have c1 := hK1.cell 1
  have c2 := hK1.cell 2
  have f0 := g2.froz 0
  have f1 := g2.froz 1
  have f2 := g2.froz 2
  have d0 := g2.cell 0
  have d1 := g2.cell 1
  have d2 := g2.cell 2
  simp only [List.getElem?_toArray, List.getElem?_cons_zero, List.getElem?_cons_succ] at c0 c1 c2 d0 d1 d2
  have G2 := Lib.hid g2
  have HB := Lib.hid b1
  have HZ : ∀ (x : Val) (W : World), Blk W w.heap.size 55 #[.int .i64 0, .int .i64 0, .string ⟨#[]⟩] → Blk (((W.setCell ⟨w.heap.size, 0, none⟩ (.int .i64 x.1)).setCell ⟨w.heap.size, 1, none⟩ (.int .i64 x.2.1)).setCell ⟨w.heap.size, 2, none⟩ (.string x.2.2)) w.heap.size 55 #[.int .i64 x.1, .int .i64 x.2.1, .string x.2.2] := fun x W h => by
    simpa using ((h.setG 0 (.int .i64 x.1)).setG 1 (.int .i64 x.2.1)).setG 2 (.string x.2.2)
  have HSET := Lib.hid HZ
  clear g2 hK hK1 b1 HZ
  by_cases h0 : s2 = 0
  · rw [if_pos (.inl h0)]
    have z0 : (s2 == 0) = true := by rw [beq_iff_eq]; exact h0
    clear h0
    go_enter Tryz.func137, Tryz.ntmps137
    go_wp2_with fail
    generalize w.alloc (.cells #[.int .i64 0, .int .i64 0, .string ⟨#[]⟩] 55) = W1 at *
    go_quiet (fail)
    go_wp2_with fail
    have kf := HSET.out v0 (W1.drewN nq) G2.out
    have r0 := kf.cell 0
    have r1 := kf.cell 1
    have r2 := kf.cell 2
    simp only [List.getElem?_toArray, List.getElem?_cons_zero, List.getElem?_cons_succ] at r0 r1 r2
    have hb4 : Below w.heap.size w (W1.drewN nq) := ⟨HB.out.os, HB.out.tape, HB.out.output, HB.out.size, HB.out.block⟩
    refine bodyPost_ret (v := valA v0) (by simp [results, Tryz.results137, go_sem, r0, r1, r2, valA]) rfl ⟨rfl, ?_⟩
    exact ((hb4.setCell (by simp) _).setCell (by simp) _).setCell (by simp) _
  · have z0 : (s2 == 0) = false := by rw [beq_eq_false_iff_ne]; exact h0
    by_cases hm : 2000000 < max (wrap64 (s0 + wrap64 (s1.tdiv 1000000000))) (wrap64 (-wrap64 (s0 + wrap64 (s1.tdiv 1000000000))))
    · rw [if_pos (.inr hm)]
      clear h0
      go_enter Tryz.func137, Tryz.ntmps137
      go_wp2_with fail
      generalize w.alloc (.cells #[.int .i64 0, .int .i64 0, .string ⟨#[]⟩] 55) = W1 at *
      go_quiet (fail)
      go_wp2_with fail
      have kf := HSET.out v0 (W1.drewN nq) G2.out
      have r0 := kf.cell 0
      have r1 := kf.cell 1
      have r2 := kf.cell 2
      simp only [List.getElem?_toArray, List.getElem?_cons_zero, List.getElem?_cons_succ] at r0 r1 r2
      have hb4 : Below w.heap.size w (W1.drewN nq) := ⟨HB.out.os, HB.out.tape, HB.out.output, HB.out.size, HB.out.block⟩
      refine bodyPost_ret (v := valA v0) (by simp [results, Tryz.results137, go_sem, r0, r1, r2, valA]) rfl ⟨rfl, ?_⟩
      exact ((hb4.setCell (by simp) _).setCell (by simp) _).setCell (by simp) _
    · rw [if_neg (by rintro (h | h); exact h0 h; exact hm h)]
      have H := Lib.hid (number_any (wrap64 (wrap64 (wrap64 (s0 + wrap64 (s1.tdiv 1000000000)) * 1000000000) + s1.tmod 1000000000)))
      generalize numV (wrap64 (wrap64 (wrap64 (s0 + wrap64 (s1.tdiv 1000000000)) * 1000000000) + s1.tmod 1000000000)) = x at H ⊢
      obtain ⟨x0, x1, x2⟩ := x
      clear h0
      go_enter Tryz.func137, Tryz.ntmps137
      go_wp2_with fail
      generalize w.alloc (.cells #[.int .i64 0, .int .i64 0, .string ⟨#[]⟩] 55) = W1 at *
      go_quiet (fail)
      go_wp2_with fail
      refine (H.out _).mono ?_
      rintro e w2 ⟨rfl, hb⟩
      have g3 := (show Blk (W1.drewN nq) w.heap.size _ _ from G2.out).belowV hb (show w.heap.size < (W1.drewN nq).heap.size from G2.out.lt)
      have hb4 : Below w.heap.size w w2 := Below.trans (⟨HB.out.os, HB.out.tape, HB.out.output, HB.out.size, HB.out.block⟩ : Below w.heap.size w (W1.drewN nq)) (hb.mono HB.out.size)
      clear d0 d1 d2 f0 f1 f2 c0 c1 c2
      have f0 := g3.froz 0
      have f1 := g3.froz 1
      have f2 := g3.froz 2
      have d0 := g3.cell 0
      have d1 := g3.cell 1
      have d2 := g3.cell 2
      simp only [List.getElem?_toArray, List.getElem?_cons_zero, List.getElem?_cons_succ] at d0 d1 d2
      have G3 := Lib.hid g3
      clear g3 hb
      dsimp only [valA]
      go_wp2_with fail
      have kf := HSET.out (x0, x1, x2) w2 G3.out
      have r0 := kf.cell 0
      have r1 := kf.cell 1
      have r2 := kf.cell 2
      simp only [List.getElem?_toArray, List.getElem?_cons_zero, List.getElem?_cons_succ] at r0 r1 r2
      refine bodyPost_ret (v := valA (x0, x1, x2)) (by simp [results, Tryz.results137, go_sem, r0, r1, r2, valA]) rfl ⟨rfl, ?_⟩
      exact ((hb4.setCell (by simp) _).setCell (by simp) _).setCell (by simp) _

set_option maxRecDepth 100000 in
set_option maxHeartbeats 1000000 in
theorem meanTell_any (B : Nat) (t : TypeId) (s : S3) (w : World) (hK : Blk w B t (cellsS s)) :
    Calls Tryz.prog 140 #[.pointer (some ⟨B, 0, none⟩)] w (ValPost w (mnTell s)) := by
  have b1 : Below w.heap.size w (w.alloc (.cells #[.int .i64 0, .int .i64 0, .string ⟨#[]⟩] 55)) := below_new _ _
  have hK1 := hK.belowV b1 hK.lt
  have g2 := Blk.new w 55 #[.int .i64 0, .int .i64 0, .string ⟨#[]⟩]
  have HT := Lib.hid (sumTell_any B t s _ hK1)
  unfold mnTell
  have hs : nul (smTell s) = false → s.2.2 ≠ 0 := fun h e => by
    unfold smTell at h
    rw [if_pos (.inl e)] at h
    exact absurd h (by decide)
  obtain ⟨s0, s1, s2⟩ := s
  dsimp only [cellsS] at *
  have G2 := Lib.hid g2
  have HB := Lib.hid b1
  have HK1 := Lib.hid hK1
  have HZ : ∀ (x : Val) (W : World), Blk W w.heap.size 55 #[.int .i64 0, .int .i64 0, .string ⟨#[]⟩] → Blk (((W.setCell ⟨w.heap.size, 0, none⟩ (.int .i64 x.1)).setCell ⟨w.heap.size, 1, none⟩ (.int .i64 x.2.1)).setCell ⟨w.heap.size, 2, none⟩ (.string x.2.2)) w.heap.size 55 #[.int .i64 x.1, .int .i64 x.2.1, .string x.2.2] := fun x W h => by
    simpa using ((h.setG 0 (.int .i64 x.1)).setG 1 (.int .i64 x.2.1)).setG 2 (.string x.2.2)
  have HSET := Lib.hid HZ
  clear g2 hK hK1 b1 HZ
  generalize smTell (s0, s1, s2) = y at HT hs ⊢
  have HY := Lib.hid (isNull_any y)
  cases q : nul y with
  | true =>
    have HN := Lib.hid (HY.out true q)
    rw [if_pos rfl]
    obtain ⟨y0, y1, y2⟩ := y
    clear q HY hs
    dsimp only [valA, objV] at HN
    go_enter Tryz.func140, Tryz.ntmps140
    go_wp2_with fail
    refine HT.out.mono ?_
    rintro e w1 ⟨rfl, hb⟩
    have g3 := (G2.out.belowV hb (by simp))
    have k3 := (HK1.out.belowV hb HK1.out.lt)
    have b3 : Below w.heap.size w w1 := HB.out.trans (hb.mono HB.out.size)
    have y3 := Blk.new w1 55 #[.int .i64 y0, .int .i64 y1, .string y2]
    have g4 := g3.allocG (.cells #[.int .i64 y0, .int .i64 y1, .string y2] 55)
    have y4 := y3.allocG (.cells #[.int .i64 y0, .int .i64 y1, .string y2] 55)
    have g5 := g4.allocG (.cells #[.int .i64 y0, .int .i64 y1, .string y2] 55)
    have k5 := (k3.allocG (.cells #[.int .i64 y0, .int .i64 y1, .string y2] 55)).allocG (.cells #[.int .i64 y0, .int .i64 y1, .string y2] 55)
    have b5 : Below w.heap.size w ((w1.alloc (.cells #[.int .i64 y0, .int .i64 y1, .string y2] 55)).alloc (.cells #[.int .i64 y0, .int .i64 y1, .string y2] 55)) := (b3.alloc b3.size _).alloc (Nat.le_trans b3.size (by simp)) _
    have u0 := y3.cell 0
    have u1 := y3.cell 1
    have u2 := y3.cell 2
    simp only [List.getElem?_toArray, List.getElem?_cons_zero, List.getElem?_cons_succ] at u0 u1 u2
    dsimp only [valA]
    clear g3 k3 b3 y3 g4 hb
    have HG5 := Lib.hid g5
    have HK5 := Lib.hid k5
    have HY4 := Lib.hid y4
    have HB5 := Lib.hid b5
    clear g5 k5 y4 b5
    go_wp2_with fail
    refine (HN.out _).mono ?_
    rintro e w2 ⟨rfl, rfl⟩
    generalize (w1.alloc (.cells #[.int .i64 y0, .int .i64 y1, .string y2] 55)).alloc (.cells #[.int .i64 y0, .int .i64 y1, .string y2] 55) = W2 at *
    have v0' := HY4.out.cell 0
    have v1' := HY4.out.cell 1
    have v2' := HY4.out.cell 2
    simp only [List.getElem?_toArray, List.getElem?_cons_zero, List.getElem?_cons_succ] at v0' v1' v2'
    have f0 := HG5.out.froz 0
    have f1 := HG5.out.froz 1
    have f2 := HG5.out.froz 2
    have d0 := HG5.out.cell 0
    have d1 := HG5.out.cell 1
    have d2 := HG5.out.cell 2
    simp only [List.getElem?_toArray, List.getElem?_cons_zero, List.getElem?_cons_succ] at d0 d1 d2
    go_wp2_with fail
    have hb4 := HB5.out
    have kf := HSET.out (y0, y1, y2) W2 HG5.out
    have r0 := kf.cell 0
    have r1 := kf.cell 1
    have r2 := kf.cell 2
    simp only [List.getElem?_toArray, List.getElem?_cons_zero, List.getElem?_cons_succ] at r0 r1 r2
    refine bodyPost_ret (v := valA (y0, y1, y2)) (by simp [results, Tryz.results140, go_sem, r0, r1, r2, valA]) rfl ⟨rfl, ?_⟩
    exact (((hb4).setCell (by simp) _).setCell (by simp) _).setCell (by simp) _
  | false =>
    have HN := Lib.hid (HY.out false q)
    have hs2 := hs q
    rw [if_neg (by decide)]
    obtain ⟨y0, y1, y2⟩ := y
    clear q HY hs
    dsimp only [valA, objV] at HN hs2 ⊢
    have HD := Lib.hid (down_any y1 s2 hs2)
    have HM := Lib.hid (number_any (downI y1 s2))
    generalize downI y1 s2 = dd at HD HM ⊢
    generalize numV dd = x at HM ⊢
    obtain ⟨x0, x1, x2⟩ := x
    clear hs2
    go_enter Tryz.func140, Tryz.ntmps140
    go_wp2_with fail
    refine HT.out.mono ?_
    rintro e w1 ⟨rfl, hb⟩
    have g3 := (G2.out.belowV hb (by simp))
    have k3 := (HK1.out.belowV hb HK1.out.lt)
    have b3 : Below w.heap.size w w1 := HB.out.trans (hb.mono HB.out.size)
    have y3 := Blk.new w1 55 #[.int .i64 y0, .int .i64 y1, .string y2]
    have g4 := g3.allocG (.cells #[.int .i64 y0, .int .i64 y1, .string y2] 55)
    have y4 := y3.allocG (.cells #[.int .i64 y0, .int .i64 y1, .string y2] 55)
    have g5 := g4.allocG (.cells #[.int .i64 y0, .int .i64 y1, .string y2] 55)
    have k5 := (k3.allocG (.cells #[.int .i64 y0, .int .i64 y1, .string y2] 55)).allocG (.cells #[.int .i64 y0, .int .i64 y1, .string y2] 55)
    have b5 : Below w.heap.size w ((w1.alloc (.cells #[.int .i64 y0, .int .i64 y1, .string y2] 55)).alloc (.cells #[.int .i64 y0, .int .i64 y1, .string y2] 55)) := (b3.alloc b3.size _).alloc (Nat.le_trans b3.size (by simp)) _
    have u0 := y3.cell 0
    have u1 := y3.cell 1
    have u2 := y3.cell 2
    simp only [List.getElem?_toArray, List.getElem?_cons_zero, List.getElem?_cons_succ] at u0 u1 u2
    dsimp only [valA]
    clear g3 k3 b3 y3 g4 hb
    have HG5 := Lib.hid g5
    have HK5 := Lib.hid k5
    have HY4 := Lib.hid y4
    have HB5 := Lib.hid b5
    clear g5 k5 y4 b5
    go_wp2_with fail
    refine (HN.out _).mono ?_
    rintro e w2 ⟨rfl, rfl⟩
    generalize (w1.alloc (.cells #[.int .i64 y0, .int .i64 y1, .string y2] 55)).alloc (.cells #[.int .i64 y0, .int .i64 y1, .string y2] 55) = W2 at *
    have v0' := HY4.out.cell 0
    have v1' := HY4.out.cell 1
    have v2' := HY4.out.cell 2
    simp only [List.getElem?_toArray, List.getElem?_cons_zero, List.getElem?_cons_succ] at v0' v1' v2'
    have k0 := HK5.out.cell 0
    have k1 := HK5.out.cell 1
    have k2 := HK5.out.cell 2
    simp only [List.getElem?_toArray, List.getElem?_cons_zero, List.getElem?_cons_succ] at k0 k1 k2
    go_wp2_with fail
    go_still_tail 8, (by kernel_rfl)
    change wpList _ _ _ _ _ W2.drew
    go_wp2_with fail
    refine (HD.out _).mono ?_
    rintro e w3 ⟨rfl, rfl⟩
    go_wp2_with fail
    refine (HM.out _).mono ?_
    rintro e w4 ⟨rfl, hb4⟩
    have g6 := HG5.out.drewG.belowV hb4 (HG5.out.drewG.lt)
    have b6 : Below w.heap.size w w4 := HB5.out.drew.trans (hb4.mono HB5.out.drew.size)
    clear k0 k1 k2 v0' v1' v2' u0 u1 u2 hb4
    have f0 := g6.froz 0
    have f1 := g6.froz 1
    have f2 := g6.froz 2
    have d0 := g6.cell 0
    have d1 := g6.cell 1
    have d2 := g6.cell 2
    simp only [List.getElem?_toArray, List.getElem?_cons_zero, List.getElem?_cons_succ] at d0 d1 d2
    have HG6 := Lib.hid g6
    clear g6
    dsimp only [valA]
    go_wp2_with fail
    have kf := HSET.out (x0, x1, x2) w4 HG6.out
    have r0 := kf.cell 0
    have r1 := kf.cell 1
    have r2 := kf.cell 2
    simp only [List.getElem?_toArray, List.getElem?_cons_zero, List.getElem?_cons_succ] at r0 r1 r2
    refine bodyPost_ret (v := valA (x0, x1, x2)) (by simp [results, Tryz.results140, go_sem, r0, r1, r2, valA]) rfl ⟨rfl, ?_⟩
    exact (((b6).setCell (by simp) _).setCell (by simp) _).setCell (by simp) _
end Go.Proofs.YtfoknllnknjccaaGreat
