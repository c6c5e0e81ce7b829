/-
  Sorted of the document's own, as a contract; whether two lists of events are the same.
-/
import Derived.Test.YtmnbcofonhlplaaSq
namespace Go.Proofs.Ytmnbcofonhlplaa
open Go.RowKit
set_option linter.unusedSimpArgs false

/-- append of one event onto a list of the call's own: where the list lies behind it. -/
theorem appE {w : World} {ops : Array Oper} {rest : List Oper} {o : Oper} {a : Act} {Q : Exit → Act → World → Prop} (hg : o.guard = none) (s x : Operand)
    (ho : o.op = .call { callee := .builtin .append, args := #[s, x], argTypes := #[42, 42] })
    (lo : Nat) (v : Value) (l : List EvR) (hs : a.eval s = v) (hown : w.ownsRow lo 55 2 v l.length (flatE l)) (y : EvR) (ad : Addr) (hx : a.eval x = .slice (some ad) 1 1) (hnews : ∀ j u, (cellsE y)[j]? = some u → w.cell? (ad.add j) = some u)
    (hl : l.length ≤ 1000) (hlo : lo ≤ w.heap.size) (H : Nat) (hH : w.heap.size = H)
    (hK : ∀ g cap w', w'.ownsRow lo 55 2 (.slice (some ⟨g, 0, none⟩) (l.length + 1) cap) (l.length + 1) (flatE (l ++ [y])) → w.grownBy w' v.ownBlock → (v.ownBlock = some g ∨ g = H) → wpList Try.prog ops Q rest (a.put o.dst (.slice (some ⟨g, 0, none⟩) (l.length + 1) cap)) w') :
    wpList Try.prog ops Q (o :: rest) a w := by
  obtain ⟨i0, hi, hz0, hz1, hz2⟩ := info_parts infoE
  exact wpList_append_lies w hg s x 42 ho lo 55 i0 (.agg #[.int .i64 0, .slice none 0 0]) 2 32 Try.underlying42 hi hz0 hz1 hz2 rfl (by decide) v l.length (flatE l) hs hown ad 1 1 (cellsE y) hx rfl hnews (by simp [cellsE, rowv, Value.oneCell']) (by omega) (by unfold maxLen; omega) (by omega) hlo H hH (fun g cap w' h2 h3 h4 _ => hK g cap w' (by rw [flatE_app]; simpa [flatE] using h2) h3 h4)

/-- Two lists of the call's own, and a gauge. -/
structure SortR (W : World) (lo B : Nat) (b m : Int) (von vl : Value) (ons lts : List EvR) : Prop where
  ga : GaR W B b m false
  lo_ : lo ≤ B
  on : OwnEv W lo von ons
  late : OwnEv W lo vl lts
  sep : ∀ z, von.ownBlock = some z → vl.ownBlock ≠ some z
theorem OwnEv.grewB {W W' : World} {lo B : Nat} {v : Value} {l : List EvR} {cs : Array Value} (h : OwnEv W lo v l) (k : Blk W B 84 cs) (hg : Grew W B W') : OwnEv W' lo v l :=
  ⟨own_keep2 h.1 (keep2_of_grown (B := B) hg) (fun z hz => ⟨apart_blk h.1 k (by decide) z hz, fun e => by simp only [Option.some.injEq] at e; exact apart_blk h.1 k (by decide) z hz e.symm⟩), fun r hr => ⟨own_keep2 (h.2 r hr).1 (keep2_of_grown (B := B) hg) (fun z hz => ⟨apart_blk (h.2 r hr).1 k (by decide) z hz, fun e => by simp only [Option.some.injEq] at e; exact apart_blk (h.2 r hr).1 k (by decide) z hz e.symm⟩), (h.2 r hr).2⟩⟩
theorem SortR.see {W W' : World} {lo B : Nat} {b m m' : Int} {von vl : Value} {ons lts : List EvR} (h : SortR W lo B b m von vl ons lts) (hg : Grew W B W') (k : GaR W' B b m' false) : SortR W' lo B b m' von vl ons lts :=
  ⟨k, h.lo_, h.on.grewB h.ga hg, h.late.grewB h.ga hg, h.sep⟩
theorem SortR.belowV {W W' : World} {lo B : Nat} {b m : Int} {von vl : Value} {ons lts : List EvR} (h : SortR W lo B b m von vl ons lts) (hb : Below W.heap.size W W') : SortR W' lo B b m von vl ons lts :=
  ⟨h.ga.belowV hb h.ga.lt, h.lo_, h.on.belowV hb, h.late.belowV hb, h.sep⟩
theorem SortR.turn {W : World} {lo B : Nat} {b m : Int} {von vl : Value} {ons lts : List EvR} (h : OwnEv W lo von ons ∧ OwnEv W lo vl lts) (ga : GaR W B b m false) (hlo : lo ≤ B) (sep : ∀ z, von.ownBlock = some z → vl.ownBlock ≠ some z) : SortR W lo B b m von vl ons lts := ⟨ga, hlo, h.1, h.2, sep⟩
/-- One list was appended to; the other lies as it lay. -/
theorem app_r {lo B : Nat} {b m : Int} {W W5 : World} {v v' : Value} {l l' : List EvR} {x : EvR} {tmp : Obj} {g cap : Nat} (ga : GaR W B b m false) (o : OwnEv W lo v l) (o' : OwnEv W lo v' l') (sep : ∀ z, v.ownBlock = some z → v'.ownBlock ≠ some z)
    (hov : OwnsV W lo (rowv x.2) x.2.2.1) (h8 : x.2.2.1.length ≤ 8) (hown5 : W5.ownsRow lo 55 2 (.slice (some ⟨g, 0, none⟩) (l.length + 1) cap) (l.length + 1) (flatE (l ++ [x]))) (hg : (W.alloc tmp).grownBy W5 v.ownBlock) (hlie : v.ownBlock = some g ∨ g = W.heap.size + 1) (hlo : lo ≤ W.heap.size) :
    GaR W5 B b m false ∧ OwnEv W5 lo (.slice (some ⟨g, 0, none⟩) (l.length + 1) cap) (l ++ [x]) ∧ OwnEv W5 lo v' l' ∧ (∀ z, (Value.slice (some ⟨g, 0, none⟩) (l.length + 1) cap).ownBlock = some z → v'.ownBlock ≠ some z) ∧ Below lo W W5 := by
  have k2 : Keep2 W W5 B v.ownBlock := (keep2_of_below (r := v.ownBlock) (below_new W tmp)).trans (keep2_of_grown hg) (fun z e => .inl e)
  have kk : W.grownBy W5 v.ownBlock := World.grownBy.trans (World.grownBy_alloc W tmp _) hg
  have hrow : ∀ r : EvR, OwnsV W lo (rowv r.2) r.2.2.1 → OwnsV W5 lo (rowv r.2) r.2.2.1 := fun r h => own_keep2 h k2 fun z hz => ⟨apart_blk h ga (by decide) z hz, apart_own h o.1 (by decide) z hz⟩
  have hl : (l ++ [x]).length = l.length + 1 := by simp
  refine ⟨ga.keepG kk (fun e => apart_blk o.1 ga (by decide) B e.symm rfl), ⟨by rw [hl]; exact hown5, fun r hm => ?_⟩, ⟨own_keep2 o'.1 k2 fun z hz => ⟨apart_blk o'.1 ga (by decide) z hz, fun e => sep z e hz⟩, fun r hm => ⟨hrow r (o'.2 r hm).1, (o'.2 r hm).2⟩⟩, ?_, ?_⟩
  · rcases List.mem_append.1 hm with h | h
    · exact ⟨hrow r (o.2 r h).1, (o.2 r h).2⟩
    · rw [List.mem_singleton] at h; subst h; exact ⟨hrow _ hov, h8⟩
  · intro z hz e
    simp only [Value.ownBlock, Option.some.injEq] at hz
    subst hz
    rcases hlie with h | h
    · exact sep _ h e
    · have := (o'.1.lt g e).2; omega
  · exact (Below.refl lo W).grown kk hlo (fun k e => (o.1.lt k e).1)

set_option maxRecDepth 100000 in
set_option maxHeartbeats 4000000 in
theorem rkSorted_ok (b : Int) (p : Option Addr) (es : List EvR) (cap : Nat) (hm : es.length ≤ 400) (hb : inR b 0 1000000000 = true) (hA : evsOK es = true) (w : World) (hX : EvsIn w p es) :
    Calls Try.prog 26 #[.int .i64 b, .slice p es.length cap] w (SortPost w (onP (plTo b es es.length)) (lateP (plTo b es es.length)) 0) := by
  have HA := Lib.hid (refEvs_any p es cap (by omega) w hX)
  rw [show areEv es = true by unfold areEv; rw [hA, decide_eq_true hm]; rfl] at HA
  have HG := Lib.hid fun W => rkGa_ok b hb W
  have HX := Lib.hid hX
  have HBR : Hid (boundR b) := Lib.hid (inR_iff.1 hb)
  have HOK := Lib.hid hA
  clear hX hA hb
  go_enter Try.func26, Try.ntmps26
  go_wp2_with fail
  refine HA.out.mono ?_
  rintro e w1 ⟨rfl, hb1⟩
  have HB1 := Lib.hid hb1
  clear hb1
  go_wp2_with fail
  refine (HG.out _).mono ?_
  rintro e w2 ⟨B, rfl, hBe, hG2, hb2⟩
  have HB2 := Lib.hid (HB1.out.trans (hb2.mono HB1.out.size))
  have HG2 := Lib.hid hG2
  have HBL := Lib.hid (show w.heap.size ≤ B from by have := HB1.out.size; omega)
  clear hb2 hG2 hBe HG HA
  go_wp2_with fail
  go_loopw [4, 5, 8] (fun o1 o2 s wr => ∃ (i : Nat) (ons lts : List EvR), s = .int .i64 i ∧ i ≤ es.length ∧ Hid (SortR wr w.heap.size B b (atTo b (timesE es) i) o1 o2 ons lts) ∧ Hid (ons.map evv = onP (plTo b es i) ∧ lts.map evv = lateP (plTo b es i) ∧ ons.length ≤ i ∧ lts.length ≤ i) ∧ Hid (Below w.heap.size w wr)) (fun _ _ s _ => es.length - (intOf s).toNat)
  case atStart => exact ⟨0, [], [], rfl, Nat.zero_le _, ⟨HG2.out, HBL.out, ⟨World.ownsRow_nil _ _ _ _, fun r h => by cases h⟩, ⟨World.ownsRow_nil _ _ _ _, fun r h => by cases h⟩, fun z h => by cases h⟩, ⟨rfl, rfl, Nat.le_refl _, Nat.le_refl _⟩, HB2.out⟩
  case round =>
    clear HG2 HB2
    obtain ⟨i, ons, lts, rfl, hi, HS, HM, HB⟩ := hrel
    by_cases hlt : i < es.length
    · obtain ⟨bk, off, rfl, hbk, hra⟩ := HX.out (by omega)
      obtain ⟨c0, c1, c2⟩ := hra i hlt
      have HC := Lib.hid (show ∀ W, Below w.heap.size w W → W.cell? ⟨bk, off + i * 2, none⟩ = some (.int .i64 (es[i]?.getD er0).1) ∧ W.cell? ⟨bk, off + i * 2 + 1, none⟩ = some (rowv (es[i]?.getD er0).2) ∧ EvOK W (es[i]?.getD er0) from fun W h => ⟨(h.cell (p := ⟨bk, off + i * 2, none⟩) hbk).trans c0, (h.cell (p := ⟨bk, off + i * 2 + 1, none⟩) hbk).trans c1, c2.belowR h⟩)
      have hi0 : (0 : Int) ≤ (i : Int) := by omega
      have hi1 : (i : Int) < (es.length : Int) := by omega
      have hev := evsOK_at HOK.out hlt
      unfold evOK at hev
      rw [Bool.and_eq_true] at hev
      have HTR := Lib.hid hev.1
      have hr8 : (es[i]?.getD er0).2.2.1.length ≤ 8 := by
        have := hev.2
        unfold validRow at this
        rw [Bool.and_eq_true, decide_eq_true_eq] at this
        exact this.1
      have HNX := Lib.hid (show atTo b (timesE es) (i + 1) = markStep b (atTo b (timesE es) i) (es[i]?.getD er0).1 from by rw [atTo_next (by rw [timesE_len]; exact hlt), timesE_get hlt])
      have HPL := Lib.hid (plTo_next b es i)
      have HPA : Hid (plAt b es i = ((es[i]?.getD er0).1, (es[i]?.getD er0).2.2.1, decide ((es[i]?.getD er0).1 < atTo b (timesE es) i))) := Lib.hid rfl
      have HLT := Lib.hid hlt
      clear hra c0 c1 c2 hev
      generalize es[i]?.getD er0 = x at *
      obtain ⟨t, q, xs, c⟩ := x
      dsimp only [rowv, evv] at *
      obtain ⟨d0, d1, _⟩ := HC.out wr HB.out
      have HSE := Lib.hid (grSee_any B b (atTo b (timesE es) i) t false HBR.out wr HS.out.ga)
      unfold SeeR at HSE
      rw [show seeErr t false = 0 by simp [seeErr, HTR.out], show seeLate t (atTo b (timesE es) i) false = decide (t < atTo b (timesE es) i) by simp [seeLate, seeErr, HTR.out], show seeMark b (atTo b (timesE es) i) t false = markStep b (atTo b (timesE es) i) t by simp [seeMark, seeErr, HTR.out]] at HSE
      rw [← HNX.out] at HSE
      generalize hm' : atTo b (timesE es) (i + 1) = m' at HSE
      have HM' := Lib.hid hm'
      generalize atTo b (timesE es) i = m at HS HSE HPA
      clear hm'
      by_cases hl : t < m
      · rw [decide_eq_true hl] at HSE HPA
        clear hl d1
        go_wp2_with fail
        refine HSE.out.mono ?_
        rintro e w3 ⟨rfl, hG3, hg3⟩
        have HS3 := Lib.hid (HS.out.see hg3 hG3)
        have HB3 := Lib.hid (show Below w.heap.size w w3 from HB.out.grown hg3 HB.out.size (fun k e => by cases e; exact HBL.out))
        clear hG3 hg3 d0
        obtain ⟨d0, d1, d2⟩ := HC.out w3 HB3.out
        have HOW := Lib.hid (ownEvent_any (t, q, xs, c) (by show xs.length ≤ 100000; omega) w3 d2)
        dsimp only [rowv, evv] at HOW
        clear d2
        go_wp2_with fail
        refine HOW.out.mono ?_
        rintro e w4 ⟨⟨yt, yq, yx, yc⟩, rfl, hy, hov, hb4⟩
        have hy1 : yt = t := by simpa [evv] using congrArg Prod.fst hy
        have hy2 : yx = xs := by simpa [evv] using congrArg Prod.snd hy
        have HS4 := Lib.hid (HS3.out.belowV hb4)
        have HB4 := Lib.hid (HB3.out.trans (hb4.mono HB3.out.size))
        have hov2 := ownsRow_base hov HB3.out.size
        have hy8 : yx.length ≤ 8 := by rw [hy2]; exact hr8
        have HY := Lib.hid (show yt = t ∧ yx = xs from ⟨hy1, hy2⟩)
        have hs4 := HB4.out.size
        obtain ⟨hml1, hml2, hml3, hml4⟩ := HM.out
        clear hov hb4 hy hy1 hy2 d0 d1
        dsimp only [rowv] at hov2 ⊢
        go_wp2_with (at_builtin; refine appE rfl _ _ rfl w.heap.size _ lts rfl (HS4.out.late.1.alloc (.cells #[.int .i64 yt, .slice yq yx.length yc] 55)) (yt, yq, yx, yc) ⟨w4.heap.size, 0, none⟩ rfl (cells_new w4 #[.int .i64 yt, .slice yq yx.length yc] 55) (by omega) (by simp; omega) (w4.heap.size + 1) (by simp) ?_; intro g cap' w5 hown hgrow hlie; have hst := app_r (x := ((yt, yq, yx, yc) : EvR)) HS4.out.ga HS4.out.late HS4.out.on (fun z hz e => HS4.out.sep z e hz) hov2 hy8 hown hgrow hlie hs4; have HST := Lib.hid hst; clear hst hown hgrow hlie)
        go_roundw
        case rel =>
          obtain ⟨s1, s2, s3, s4, s5⟩ := HST.out
          exact ⟨i + 1, ons, lts ++ [(yt, yq, yx, yc)], by go_num, by have := HLT.out; omega, ⟨by rw [HM'.out]; exact s1, HBL.out, s3, s2, fun z hz e => s4 z e hz⟩, ⟨by rw [hml1, HPL.out, HPA.out, onP_app]; rfl, by rw [List.map_append, hml2, HPL.out, HPA.out, lateP_app]; show _ ++ [(yt, yx)] = _; rw [HY.out.1, HY.out.2]; rfl, by omega, by simp; omega⟩, HB4.out.trans (s5.mono (Nat.le_refl _))⟩
        case measure => have := HLT.out; simp [intOf]; omega
      · have hdl : decide (t < m) = false := decide_eq_false hl
        rw [hdl] at HSE HPA
        clear hl d1 hdl
        go_wp2_with fail
        refine HSE.out.mono ?_
        rintro e w3 ⟨rfl, hG3, hg3⟩
        have HS3 := Lib.hid (HS.out.see hg3 hG3)
        have HB3 := Lib.hid (show Below w.heap.size w w3 from HB.out.grown hg3 HB.out.size (fun k e => by cases e; exact HBL.out))
        clear hG3 hg3 d0
        obtain ⟨d0, d1, d2⟩ := HC.out w3 HB3.out
        have HOW := Lib.hid (ownEvent_any (t, q, xs, c) (by show xs.length ≤ 100000; omega) w3 d2)
        dsimp only [rowv, evv] at HOW
        clear d2
        go_wp2_with fail
        refine HOW.out.mono ?_
        rintro e w4 ⟨⟨yt, yq, yx, yc⟩, rfl, hy, hov, hb4⟩
        have hy1 : yt = t := by simpa [evv] using congrArg Prod.fst hy
        have hy2 : yx = xs := by simpa [evv] using congrArg Prod.snd hy
        have HS4 := Lib.hid (HS3.out.belowV hb4)
        have HB4 := Lib.hid (HB3.out.trans (hb4.mono HB3.out.size))
        have hov2 := ownsRow_base hov HB3.out.size
        have hy8 : yx.length ≤ 8 := by rw [hy2]; exact hr8
        have HY := Lib.hid (show yt = t ∧ yx = xs from ⟨hy1, hy2⟩)
        have hs4 := HB4.out.size
        obtain ⟨hml1, hml2, hml3, hml4⟩ := HM.out
        clear hov hb4 hy hy1 hy2 d0 d1
        dsimp only [rowv] at hov2 ⊢
        go_wp2_with (at_builtin; refine appE rfl _ _ rfl w.heap.size _ ons rfl (HS4.out.on.1.alloc (.cells #[.int .i64 yt, .slice yq yx.length yc] 55)) (yt, yq, yx, yc) ⟨w4.heap.size, 0, none⟩ rfl (cells_new w4 #[.int .i64 yt, .slice yq yx.length yc] 55) (by omega) (by simp; omega) (w4.heap.size + 1) (by simp) ?_; intro g cap' w5 hown hgrow hlie; have hst := app_r (x := ((yt, yq, yx, yc) : EvR)) HS4.out.ga HS4.out.on HS4.out.late HS4.out.sep hov2 hy8 hown hgrow hlie hs4; have HST := Lib.hid hst; clear hst hown hgrow hlie)
        go_roundw
        case rel =>
          obtain ⟨s1, s2, s3, s4, s5⟩ := HST.out
          exact ⟨i + 1, ons ++ [(yt, yq, yx, yc)], lts, by go_num, by have := HLT.out; omega, ⟨by rw [HM'.out]; exact s1, HBL.out, s2, s3, s4⟩, ⟨by rw [List.map_append, hml1, HPL.out, HPA.out, onP_app]; show _ ++ [(yt, yx)] = _; rw [HY.out.1, HY.out.2]; rfl, by rw [hml2, HPL.out, HPA.out, lateP_app]; rfl, by simp; omega, by omega⟩, HB4.out.trans (s5.mono (Nat.le_refl _))⟩
        case measure => have := HLT.out; simp [intOf]; omega
    · have hie : i = es.length := by omega
      have hge : es.length ≤ i := by omega
      obtain ⟨p4, q4, e4, i4⟩ := evsIn_of_own HS.out.on
      obtain ⟨p5, q5, e5, i5⟩ := evsIn_of_own HS.out.late
      have hmm := HM.out
      rw [hie] at hmm
      have HF := Lib.hid (And.intro i4 (And.intro i5 hmm))
      have HE := Lib.hid (And.intro e4 e5)
      clear hie hmm i4 i5 e4 e5 HS HM
      go_wp2_with fail
      refine bodyPost_ret (results_tmp3 rfl _ _ _) rfl ?_
      exact ⟨p4, q4, p5, q5, ons, lts, by rw [← HE.out.1, ← HE.out.2]; rfl, HF.out.1, HF.out.2.1, HF.out.2.2.1, HF.out.2.2.2.1, HB.out⟩

set_option maxRecDepth 100000 in
theorem rkSorted_any (b : Int) (p : Option Addr) (es : List EvR) (cap : Nat) (hm : es.length ≤ 9223372036854775807) (w : World) (hX : EvsIn w p es) :
    Calls Try.prog 26 #[.int .i64 b, .slice p es.length cap] w (SortPost w (sortOn b es) (sortLate b es) (sortErr b es)) := by
  have hev := refEvs_any p es cap hm w hX
  cases hA : areEv es with
  | false =>
    have hE : sortErr b es = 1 := by simp [sortErr, hA]
    rw [sortOn, sortLate, if_neg (by omega), if_neg (by omega), hE]
    rw [hA] at hev
    have HV := Lib.hid hev
    clear hev hE hA hX
    go_enter Try.func26, Try.ntmps26
    go_wp2_with fail
    refine HV.out.mono ?_
    rintro e w1 ⟨rfl, hb1⟩
    have HB1 := Lib.hid hb1
    clear hb1
    go_wp2_with fail
    refine bodyPost_ret (results_tmp3 rfl _ _ _) rfl ?_
    exact sortNil _ _ _ HB1.out
  | true =>
    cases hb : inR b 0 1000000000 with
    | false =>
      have hE : sortErr b es = 7 := by simp [sortErr, hA, hb]
      rw [sortOn, sortLate, if_neg (by omega), if_neg (by omega), hE]
      rw [hA] at hev
      have HV := Lib.hid hev
      have HG := Lib.hid fun W => rkGa_bad b hb W
      clear hev hE hA hX hb
      go_enter Try.func26, Try.ntmps26
      go_wp2_with fail
      refine HV.out.mono ?_
      rintro e w1 ⟨rfl, hb1⟩
      have HB1 := Lib.hid hb1
      clear hb1
      go_wp2_with fail
      refine (HG.out _).mono ?_
      rintro e w2 ⟨rfl, rfl⟩
      go_wp2_with fail
      refine bodyPost_ret (results_tmp3 rfl _ _ _) rfl ?_
      exact sortNil _ _ _ HB1.out
    | true =>
      have hE : sortErr b es = 0 := by simp [sortErr, hA, hb]
      rw [sortOn, sortLate, if_pos hE, if_pos hE, hE]
      unfold areEv at hA
      rw [Bool.and_eq_true, decide_eq_true_eq] at hA
      exact rkSorted_ok b p es cap hA.1 hb hA.2 w hX

set_option maxRecDepth 100000 in
set_option maxHeartbeats 1000000 in
/-- Two lists that read as the same events. -/
theorem sameEvs_any (p q : Option Addr) (l m : List EvR) (c d : Nat) (hlm : l.map evv = m.map evv) (hm : l.length ≤ 9223372036854775807) (w : World) (hX : EvsIn w p l) (hY : EvsIn w q m) :
    Calls Try.prog 27 #[.slice p l.length c, .slice q m.length d] w (BelowB w true) := by
  have hlen : m.length = l.length := by have := congrArg List.length hlm; simpa using this.symm
  rw [hlen]
  have HX := Lib.hid hX
  have HY := Lib.hid hY
  have HLM := Lib.hid (show ∀ i, i < l.length → (m[i]?.getD er0).1 = (l[i]?.getD er0).1 ∧ (m[i]?.getD er0).2.2.1 = (l[i]?.getD er0).2.2.1 from fun i hi => by
    have h := congrArg (fun z => z[i]?) hlm
    simp only [List.getElem?_map, List.getElem?_eq_getElem hi, List.getElem?_eq_getElem (show i < m.length by omega), Option.map_some, Option.some.injEq] at h
    rw [List.getElem?_eq_getElem hi, List.getElem?_eq_getElem (show i < m.length by omega)]
    exact ⟨(congrArg Prod.fst h).symm, (congrArg Prod.snd h).symm⟩)
  have HLE := Lib.hid hlen
  clear hX hY hlm hlen
  go_enter Try.func27, Try.ntmps27
  go_wp2_with fail
  go_loopw [5] (fun s wr => ∃ i : Nat, i ≤ l.length ∧ s = .int .i64 i ∧ Hid (Below w.heap.size w wr)) (fun s _ => l.length - (RowKit.intOf s).toNat)
  case atStart => exact ⟨0, Nat.zero_le _, rfl, Below.refl _ _⟩
  case round =>
    obtain ⟨i, hi, rfl, HB⟩ := hrel
    by_cases hlt : i < l.length
    · obtain ⟨b, off, rfl, hb, hx⟩ := HX.out (by omega)
      obtain ⟨b', off', rfl, hb', hy⟩ := HY.out (by have := HLE.out; omega)
      obtain ⟨x0, x1, x2⟩ := hx i hlt
      obtain ⟨y0, y1, y2⟩ := hy i (by have := HLE.out; omega)
      obtain ⟨e1, e2⟩ := HLM.out i hlt
      have hi0 : (0 : Int) ≤ (i : Int) := by omega
      have hi1 : (i : Int) < (l.length : Int) := by omega
      have HLT := Lib.hid hlt
      clear hx hy
      generalize l[i]?.getD er0 = x at *
      generalize m[i]?.getD er0 = y at *
      obtain ⟨t, rq, rx, rc⟩ := x
      obtain ⟨t', sq, sx, sc⟩ := y
      dsimp only at e1 e2
      subst e1 e2
      dsimp only [rowv] at *
      have HS := Lib.hid (fun W (h : Below w.heap.size w W) => Same_any rq sq sx rc sc sx.length rfl x2.1.1 W (x2.1.2.belowV h) (y2.1.2.belowV h))
      have HF := Lib.hid (show ∀ W, Below w.heap.size w W → (Below w.heap.size w W ∧ W.cell? ⟨b, off + i * 2, none⟩ = some (.int .i64 t') ∧ W.cell? ⟨b, off + i * 2 + 1, none⟩ = some (.slice rq sx.length rc) ∧ W.cell? ⟨b', off' + i * 2, none⟩ = some (.int .i64 t') ∧ W.cell? ⟨b', off' + i * 2 + 1, none⟩ = some (.slice sq sx.length sc)) from fun W h => ⟨h, (h.cell (p := ⟨b, off + i * 2, none⟩) hb).trans x0, (h.cell (p := ⟨b, off + i * 2 + 1, none⟩) hb).trans x1, (h.cell (p := ⟨b', off' + i * 2, none⟩) hb').trans y0, (h.cell (p := ⟨b', off' + i * 2 + 1, none⟩) hb').trans y1⟩)
      have htt : (t' != t') = false := by simp
      clear x2 y2 x0 x1 y0 y1
      obtain ⟨_, d0, d1, d2, d3⟩ := HF.out wr HB.out
      go_wp2_with fail
      go_region_held3 (fun w' => Below w.heap.size w w' ∧ w'.cell? ⟨b, off + i * 2, none⟩ = some (.int .i64 t') ∧ w'.cell? ⟨b, off + i * 2 + 1, none⟩ = some (.slice rq sx.length rc) ∧ w'.cell? ⟨b', off' + i * 2, none⟩ = some (.int .i64 t') ∧ w'.cell? ⟨b', off' + i * 2 + 1, none⟩ = some (.slice sq sx.length sc)) (first | exact HF.out _ HB.out.drew | exact HF.out _ (Below.trans (And.left (by assumption)) (Below.mono (by assumption) (Below.size (And.left (by assumption))))) | assumption)
        (first | (go_at_call 56; refine (HS.out _ (And.left (by assumption))).mono ?_; rintro e w' ⟨rfl, hb⟩))
      all_goals go_wp2_with fail
      go_roundw
      case rel => exact ⟨i + 1, by have := HLT.out; omega, by go_num, And.left (by assumption)⟩
      case measure => have := HLT.out; simp [RowKit.intOf]; omega
    · have hge : l.length ≤ i := by omega
      go_wp2_with fail
      go_ret
      exact ⟨rfl, HB.out⟩
end Go.Proofs.Ytmnbcofonhlplaa
