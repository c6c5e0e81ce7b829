/-
  PROVED HERE: for every list of windows and every list of numbers the law ClockMerges returns true: Merge of package clock answers as the document's own; of what it leaves no two windows touch, each given window lies within one of them, and neither a second time nor the order matters. Its arguments read afterwards as before. No condition.
-/
import Derived.Test.YthbpdalkifocaaaRows
import Derived.Test.YthbpdalkifocaaaMrgMath
import Derived.Laws.AppendOwnNone
import Derived.BigRegion
namespace Go.Proofs.Ythbpdalkifocaaa.clockMerges
open Go.ChangeShapes Go.WideShapes Go.ChangeAt Go.RowKit
set_option linter.unusedVariables false

theorem short_yes (n : Nat) (h : n ≤ 500) (w : World) : Calls Try.prog 6 #[.int .i64 n] w fun e w' => e = .returned (.bool true) ∧ w = w' := by
  have h' : (n : Int) ≤ 500 := by omega
  go_enter Try.func6, Try.ntmps6
  go_wp2
  go_ret
  exact ⟨rfl, rfl⟩
theorem short_no (n : Nat) (h : 500 < n) (w : World) : Calls Try.prog 6 #[.int .i64 n] w fun e w' => e = .returned (.bool false) ∧ w = w' := by
  have h' : decide ((n : Int) ≤ 500) = false := by simp; omega
  go_enter Try.func6, Try.ntmps6
  go_wp2
  go_ret
  exact ⟨rfl, rfl⟩

set_option maxRecDepth 100000 in
theorem walk_long (p : Option Addr) (n cap : Nat) (u : Value) (h : 500 < n) (w : World) :
    Calls Try.prog 3 #[.slice p n cap, u] w fun e w' => e = .returned (.bool true) ∧ Below w.heap.size w w' := by
  go_enter Try.func3, Try.ntmps3
  go_wp2_with fail
  refine (short_no n h _).mono ?_
  rintro e w' ⟨rfl, rfl⟩
  go_wp2_with fail
  refine (awake_any _).mono ?_
  rintro e w1 ⟨rfl, hb⟩
  go_wp2_with fail
  go_ret
  exact ⟨rfl, hb⟩

set_option maxRecDepth 100000 in
set_option maxHeartbeats 1000000 in
theorem walk_err (p : Option Addr) (n cap : Nat) (u : Value) (h : n ≤ 500) (w : World)
    (hc : ∀ W, Below w.heap.size w W → Calls Try.prog 8 #[.slice p n cap] W (RowPost2 W.heap.size W [] 1))
    (hr : ∀ W, Below w.heap.size w W → Calls Try.prog 9 #[.slice p n cap] W (RowPost2 W.heap.size W [] 1)) :
    Calls Try.prog 3 #[.slice p n cap, u] w fun e w' => e = .returned (.bool true) ∧ Below w.heap.size w w' := by
  have HC := Lib.hid hc
  have HR := Lib.hid hr
  clear hc hr
  go_enter Try.func3, Try.ntmps3
  go_wp2_with fail
  refine (short_yes n h _).mono ?_
  rintro e w' ⟨rfl, rfl⟩
  go_wp2_with fail
  refine (HC.out _ (Below.refl _ _)).mono ?_
  rintro e w1 ⟨v1, rfl, hr1, hb1⟩
  go_wp2_with fail
  refine (HR.out _ hb1).mono ?_
  rintro e w2 ⟨v2, rfl, hr2, hb2⟩
  have hr1' := owns_below hr1 hb2
  go_wp2_with fail
  refine (Same_any v1 v2 [] [] w2 (rowIs_of_owns hr1') (rowIs_of_owns hr2)).mono ?_
  rintro e w3 ⟨rfl, hd⟩
  have hb3 := hd.below w2.heap.size
  have hB3 : Below w.heap.size w w3 := hb1.trans ((hb2.trans (hb3.mono hb2.size)).mono hb1.size)
  clear hd hb3 hb2 hr1 hr2 hr1'
  have hdec : decide (([] : List Win) = []) = true := decide_eq_true rfl
  go_wp2_with fail
  refine (awake_any w3).mono ?_
  rintro e w4 ⟨rfl, hb4⟩
  go_wp2_with fail
  go_ret
  exact ⟨rfl, hB3.trans (hb4.mono hB3.size)⟩

theorem below_drewN {B : Nat} {a w : World} (h : Below B a w) (n : Nat) : Below B a (w.drewN n) := ⟨h.os, h.tape, h.output, h.size, h.block⟩
theorem winsIn_of_owns {W : World} {base c : Nat} {p : Option Addr} {ys : List Win} (h : W.ownsRow base 31 2 (.slice p ys.length c) ys.length (flatW ys)) : WinsIn W p ys := fun hp => by
  have hR := rowIs_of_owns h
  rcases hR.2 with ⟨_, h0⟩ | ⟨b, off, cp, he, hra⟩
  · subst h0; simp at hp
  · simp only [Value.slice.injEq] at he
    obtain ⟨rfl, _, _⟩ := he
    exact ⟨b, off, rfl, World.block_lt_of_cell? W _ (hra 0 hp).1, hra⟩

theorem rowIs_belowW {W W' : World} {v : Value} {xs : List Win} (h : RowIs W v xs) (hb : Below W.heap.size W W') : RowIs W' v xs := by
  refine ⟨h.1, ?_⟩
  rcases h.2 with h0 | ⟨b, off, cap, rfl, hra⟩
  · exact .inl h0
  · refine .inr ⟨b, off, cap, rfl, fun i hi => ?_⟩
    have hbk : b < W.heap.size := World.block_lt_of_cell? W _ (hra i hi).1
    exact ⟨(hb.cell (p := ⟨b, off + i * 2, none⟩) hbk).trans (hra i hi).1, (hb.cell (p := ⟨b, off + i * 2 + 1, none⟩) hbk).trans (hra i hi).2⟩

set_option maxRecDepth 100000 in
set_option maxHeartbeats 8000000 in
theorem walk_ok (p q : Option Addr) (xs : List Win) (ps : List Int) (cap cap2 : Nat) (hm : xs.length ≤ 400) (hps : ps.length ≤ 9223372036854775807) (hb : anyBad xs = false) (w : World) (hX : WinsIn w p xs) (hz : p = none → cap = 0) (hP : IntsIn w q ps) :
    Calls Try.prog 3 #[.slice p xs.length cap, .slice q ps.length cap2] w fun e w' => e = .returned (.bool true) ∧ Below w.heap.size w w' := by
  have HOK := Lib.hid (okW_of_anyBad hb)
  have HC := Lib.hid fun W (h : Below w.heap.size w W) => mergeIn 8 (.inl rfl) p xs cap hm W (hX.belowV h)
  have HR := Lib.hid fun W (h : Below w.heap.size w W) => mergeIn 9 (.inr rfl) p xs cap hm W (hX.belowV h)
  have HX := Lib.hid hX
  have HP := Lib.hid hP
  have HZ := Lib.hid hz
  have HB := Lib.hid hb
  clear hX hP hb hz
  go_enter Try.func3, Try.ntmps3
  go_wp2_with fail
  refine (short_yes xs.length (by omega) _).mono ?_
  rintro e w' ⟨rfl, rfl⟩
  go_wp2_with fail
  refine (HC.out _ (Below.refl _ _)).mono ?_
  rintro e w1 (⟨hbad, _⟩ | ⟨_, ys, s1, s2, s3, v1, rfl, hr1, hb1⟩)
  · rw [HB.out] at hbad; cases hbad
  go_wp2_with fail
  refine (HR.out _ hb1).mono ?_
  rintro e w2 (⟨hbad, _⟩ | ⟨_, zs, t1, t2, t3, v2, rfl, hr2, hb2⟩)
  · rw [HB.out] at hbad; cases hbad
  obtain rfl : ys = zs := both_same s1 s2 t1 t2
  have hr1' := owns_below hr1 hb2
  go_wp2_with fail
  refine (Same_any v1 v2 ys ys w2 (rowIs_of_owns hr1') (rowIs_of_owns hr2)).mono ?_
  rintro e w3 ⟨rfl, hd⟩
  have hb3 := hd.below w2.heap.size
  have hB3 : Below w.heap.size w w3 := hb1.trans ((hb2.trans (hb3.mono hb2.size)).mono hb1.size)
  have hr3 := owns_below hr1' hb3
  obtain ⟨p1, c1, rfl⟩ := slice_of_owns hr1
  have HA := Lib.hid (winsIn_of_owns hr3)
  have HX3 := Lib.hid (HX.out.belowV hB3)
  have HR3 := Lib.hid (rowIs_of_owns hr3)
  have HS := Lib.hid s1
  have HCov := Lib.hid s2
  have hy : ys.length ≤ 400 := by omega
  clear hd hb3 hb2 hr1 hr2 hr1' hr3 s1 s2 t1 t2 hb1 t3
  have hdec : decide (ys = ys) = true := decide_eq_true rfl
  go_wp2_with fail
  clear hdec
  go_loopw [9] (fun s wr => ∃ i : Nat, s = .int .i64 i ∧ i ≤ xs.length ∧ Below w3.heap.size w3 wr) (fun s _ => xs.length - (intOf s).toNat)
  case atStart => exact ⟨0, rfl, Nat.zero_le _, Below.refl _ _⟩
  case round =>
    obtain ⟨wo, rfl⟩ : ∃ wo : World, wo = wr := ⟨_, rfl⟩
    obtain ⟨i, rfl, hi, hBo⟩ := hrel
    by_cases hlt : i < xs.length
    · obtain ⟨b, off, rfl, hbl, hra⟩ := HX3.out (by omega)
      obtain ⟨cx0, cx1⟩ := hra i hlt
      have hmem : xs[i]?.getD (0, 0) ∈ xs := by simp [List.getElem?_eq_getElem hlt]
      have HI := Lib.hid (anyIn_all HS.out HCov.out hmem (HOK.out _ hmem))
      have hi0 : (0 : Int) ≤ (i : Int) := by omega
      have hi1 : (i : Int) < (xs.length : Int) := by omega
      clear hmem hra
      generalize (xs[i]?.getD (0, 0)) = x at HI cx0 cx1
      obtain ⟨x0, x1⟩ := x
      dsimp only at cx0 cx1
      have CX := Lib.hid (And.intro cx0 cx1)
      clear cx0 cx1
      go_wp2_with fail
      go_loopw [10, 11] (fun t s wr => ∃ (k : Nat) (bI : Bool), s = .int .i64 k ∧ k ≤ ys.length ∧ t = .bool bI ∧ Hid (bI = anyIn (ys.take k) (x0, x1)) ∧ Below w3.heap.size w3 wr) (fun _ s _ => ys.length - (intOf s).toNat)
      case atStart => exact ⟨0, false, rfl, Nat.zero_le _, rfl, rfl, hBo⟩
      case round =>
        obtain ⟨k, bI, rfl, hk, rfl, hI, hBi⟩ := hrel
        by_cases hkl : k < ys.length
        · obtain ⟨gb, go, rfl, hgl, hga⟩ := HA.out (by omega)
          obtain ⟨cy0, cy1⟩ := hga k hkl
          have hnx := anyIn_next hkl (x0, x1)
          have hk0 : (0 : Int) ≤ (k : Int) := by omega
          have hk1 : (k : Int) < (ys.length : Int) := by omega
          rw [← hI.out] at hnx
          generalize (ys[k]?.getD (0, 0)) = y at hnx cy0 cy1
          obtain ⟨y0, y1⟩ := y
          dsimp only at cy0 cy1
          have d0 := (hBi.cell (p := ⟨gb, go + k * 2, none⟩) hgl).trans cy0
          have d1 := (hBi.cell (p := ⟨gb, go + k * 2 + 1, none⟩) hgl).trans cy1
          have e0 := (hBi.cell (p := ⟨b, off + i * 2, none⟩) hbl).trans CX.out.1
          have e1 := (hBi.cell (p := ⟨b, off + i * 2 + 1, none⟩) hbl).trans CX.out.2
          have HNX := Lib.hid hnx
          clear hnx cy0 cy1 hga
          cases bI with
          | true =>
            go_wp2_with fail
            go_quiet (fail)
            go_wp2_with fail
            go_roundw
            case rel => exact ⟨k + 1, true, by go_num, by omega, rfl, by show _ = _; rw [HNX.out]; rfl, below_drewN hBi _⟩
            case measure => simp [intOf]; omega
          | false =>
            by_cases hy0 : y0 ≤ x0
            · by_cases hy1 : x1 ≤ y1
              · have HN2 : Hid (true = anyIn (ys.take (k + 1)) (x0, x1)) := by show _ = _; rw [HNX.out]; simp [inW, hy0, hy1]
                go_wp2_with fail
                go_quiet (fail)
                go_wp2_with fail
                go_roundw
                case rel => exact ⟨k + 1, true, by go_num, by omega, rfl, HN2, below_drewN hBi _⟩
                case measure => simp [intOf]; omega
              · have HN2 : Hid (false = anyIn (ys.take (k + 1)) (x0, x1)) := by show _ = _; rw [HNX.out]; simp [inW, hy0, hy1]
                have hd1 : decide (x1 ≤ y1) = false := by simpa using hy1
                go_wp2_with fail
                go_quiet (fail)
                go_wp2_with fail
                go_roundw
                case rel => exact ⟨k + 1, false, by go_num, by omega, rfl, HN2, below_drewN hBi _⟩
                case measure => simp [intOf]; omega
            · have HN2 : Hid (false = anyIn (ys.take (k + 1)) (x0, x1)) := by show _ = _; rw [HNX.out]; simp [inW, hy0]
              have hd1 : decide (y0 ≤ x0) = false := by simpa using hy0
              go_wp2_with fail
              go_quiet (fail)
              go_wp2_with fail
              go_roundw
              case rel => exact ⟨k + 1, false, by go_num, by omega, rfl, HN2, below_drewN hBi _⟩
              case measure => simp [intOf]; omega
        · have hke : k = ys.length := by omega
          have hge : ys.length ≤ k := by omega
          have hbt : bI = true := by rw [hI.out, hke, List.take_length]; exact HI.out
          subst hbt
          clear hke
          go_wp2_with fail
          go_roundw
          case rel => exact ⟨i + 1, by go_num, by omega, hBi⟩
          case measure => simp [intOf]; omega
    · have hge : xs.length ≤ i := by omega
      go_wp2_with fail
      go_loopw [12] (fun s wr => ∃ i : Nat, s = .int .i64 i ∧ i ≤ ys.length ∧ Below w3.heap.size w3 wr) (fun s _ => ys.length - (intOf s).toNat)
      case atStart => exact ⟨0, rfl, Nat.zero_le _, hBo⟩
      case round =>
        clear hlt hge hi hBo
        obtain ⟨wp, rfl⟩ : ∃ wp : World, wp = wr := ⟨_, rfl⟩
        obtain ⟨i, rfl, hi, hBo⟩ := hrel
        by_cases hlt : i < ys.length
        · obtain ⟨gb, go, rfl, hgl, hga⟩ := HA.out (by omega)
          obtain ⟨cy0, cy1⟩ := hga i hlt
          have hap := fun k (hk : k < i) => HS.out.apart hlt hk
          have hi0 : (0 : Int) ≤ (i : Int) := by omega
          have hi1 : (i : Int) < (ys.length : Int) := by omega
          generalize (ys[i]?.getD (0, 0)) = y at hap cy0 cy1
          obtain ⟨y0, y1⟩ := y
          dsimp only at cy0 cy1 hap
          have CY := Lib.hid (And.intro cy0 cy1)
          have HAp := Lib.hid hap
          have HGA := Lib.hid hga
          clear cy0 cy1 hap hga
          go_wp2_with fail
          go_loopw [13] (fun s wr => ∃ k : Nat, s = .int .i64 k ∧ k ≤ i ∧ Below w3.heap.size w3 wr) (fun s _ => i - (intOf s).toNat)
          case atStart => exact ⟨0, rfl, Nat.zero_le _, hBo⟩
          case round =>
            obtain ⟨k, rfl, hk, hBi⟩ := hrel
            by_cases hkl : k < i
            · obtain ⟨cz0, cz1⟩ := HGA.out k (by omega)
              have htf := HAp.out k hkl
              generalize (ys[k]?.getD (0, 0)) = z at htf cz0 cz1
              obtain ⟨z0, z1⟩ := z
              dsimp only at cz0 cz1 htf
              have hk0 : (0 : Int) ≤ (k : Int) := by omega
              have hk1 : (k : Int) < (ys.length : Int) := by omega
              have hk2 : (k : Int) < (i : Int) := by omega
              have d0 := (hBi.cell (p := ⟨gb, go + k * 2, none⟩) hgl).trans cz0
              have d1 := (hBi.cell (p := ⟨gb, go + k * 2 + 1, none⟩) hgl).trans cz1
              have e0 := (hBi.cell (p := ⟨gb, go + i * 2, none⟩) hgl).trans CY.out.1
              have e1 := (hBi.cell (p := ⟨gb, go + i * 2 + 1, none⟩) hgl).trans CY.out.2
              have HT := fun W => clkTouch_any y0 y1 z0 z1 W
              rw [htf] at HT
              have HTF := Lib.hid HT
              clear cz0 cz1 htf HT
              go_wp2_with fail
              go_still_tail 8, (by kernel_rfl)
              have hBd : Below w3.heap.size w3 wr.drew := hBi.drew
              clear d0 d1 e0 e1
              change wpList _ _ _ _ _ wr.drew
              generalize wr.drew = W7 at hBd ⊢
              go_wp2_with fail
              refine (HTF.out _).mono ?_
              rintro e w8 ⟨rfl, hb8⟩
              go_wp2_with fail
              go_roundw
              case rel => exact ⟨k + 1, by go_num, by omega, hBd.trans (hb8.mono hBd.size)⟩
              case measure => simp [intOf]; omega
            · have hge : i ≤ k := by omega
              go_wp2_with fail
              go_roundw
              case rel => exact ⟨i + 1, by go_num, by omega, hBi⟩
              case measure => simp [intOf]; omega
        · have hge : ys.length ≤ i := by omega
          go_wp2_with fail
          have HAw := HA.out.belowV hBo
          refine (mergeIn 8 (.inl rfl) p1 ys c1 hy wp HAw).mono ?_
          rintro e w4 (⟨hbad, _⟩ | ⟨_, zs, t1, t2, t3, v4, rfl, hr4, hb4⟩)
          · rw [anyBad_of_ok HS.out.1] at hbad; cases hbad
          obtain rfl : zs = ys := t1.unique HS.out t2
          have hRI : RowIs wp (.slice p1 zs.length c1) zs := rowIs_belowW HR3.out hBo
          have hRI4 := rowIs_belowW hRI hb4
          go_wp2_with fail
          refine (Same_any v4 _ zs zs w4 (rowIs_of_owns hr4) hRI4).mono ?_
          rintro e w5 ⟨rfl, hd⟩
          have hb5 := hd.below w4.heap.size
          have hB5 : Below w3.heap.size w3 w5 := hBo.trans ((hb4.trans (hb5.mono hb4.size)).mono hBo.size)
          clear hd hb5 hb4 hr4 hRI hRI4 t1 t2 t3 HAw hge
          have hdec : decide (zs = zs) = true := decide_eq_true rfl
          have hBw : Below w.heap.size w w5 := hB3.trans (hB5.mono hB3.size)
          have HXA := Lib.hid ((HX3.out.belowV hB5).belowV ((Below.refl w5.heap.size w5).alloc (Nat.le_refl _) (.cells #[] 31)))
          go_wp2_with (at_builtin; refine wpList_append_wins rfl _ _ rfl w5.heap.size (.slice (some ⟨w5.heap.size, 0, none⟩) 0 0) 0 [] rfl (World.ownsRow_made _ #[] 0 (Nat.le_refl _) (by unfold maxLen; omega) rfl) p xs cap rfl HXA.out HZ.out (by omega) (by simp) xs.length (Nat.zero_add _) (flatW xs) (List.nil_append _) ?_; intro v6 w6 hrow6 hgr6)
          have hB6 : Below w5.heap.size w5 w6 := ((Below.refl w5.heap.size w5).alloc (Nat.le_refl _) _).grown hgr6 (by simp) (fun k e => by simp [Value.ownBlock] at e; omega)
          obtain ⟨pr, cr, rfl⟩ := slice_of_owns hrow6
          clear hgr6
          go_loopw [16] (fun s wr => ∃ (i : Nat) (ws : List Win), s = .int .i64 i ∧ i ≤ xs.length ∧ Hid (ws.Perm xs) ∧ wr.ownsRow w5.heap.size 31 2 (.slice pr xs.length cr) xs.length (flatW ws) ∧ Below w5.heap.size w5 wr) (fun s _ => xs.length - (intOf s).toNat)
          case atStart => exact ⟨0, xs, rfl, Nat.zero_le _, List.Perm.refl _, hrow6, hB6⟩
          case round =>
            clear hlt hi hBo hB6 hrow6
            obtain ⟨i, ws, rfl, hi, hpm, hrow, hBi⟩ := hrel
            by_cases h1 : i + 1 < xs.length
            · by_cases h2 : i < ps.length
              · obtain ⟨bq, oq, rfl, hql, hqa⟩ := HP.out (by omega)
                have hBw' : Below w.heap.size w wr := hBw.trans (hBi.mono hBw.size)
                have cq := hqa.belowV hBw' hql i h2
                generalize ps[i]?.getD 0 = pk at cq
                have hi0 : (0 : Int) ≤ (i : Int) := by omega
                have hi1 : (i : Int) < (ps.length : Int) := by omega
                have hi2 : (i : Int) + 1 < (xs.length : Int) := by omega
                clear hqa
                go_wp2_with fail
                obtain ⟨k, hkv, hk1, hk2⟩ := pick_val pk xs.length i (by omega) (by omega)
                simp only [hkv]
                clear hkv cq
                have hwl : ws.length = xs.length := hpm.out.length_eq
                rcases hrow.2 with ⟨_, h0⟩ | ⟨gr, cap3, cur, he, hgb, hgc, _⟩
                · omega
                simp only [Value.slice.injEq, true_and] at he
                obtain ⟨rfl, rfl⟩ := he
                have hgl : gr < wr.heap.size := (Array.getElem?_eq_some_iff.1 hgc).1
                have hgt := flatW_get ws i (by omega)
                have hgk := flatW_get ws k (by omega)
                have ci0 := (hrow.cellAt (i * 2) (by omega)).trans hgt.1
                have ci1 := (hrow.cellAt (i * 2 + 1) (by omega)).trans hgt.2
                have ck0 := (hrow.cellAt (k * 2) (by omega)).trans hgk.1
                have ck1 := (hrow.cellAt (k * 2 + 1) (by omega)).trans hgk.2
                obtain ⟨a0, a1, ha⟩ : ∃ a0 a1 : Int, ws[i]?.getD (0, 0) = (a0, a1) := ⟨_, _, rfl⟩
                obtain ⟨b0, b1, hbb⟩ : ∃ b0 b1 : Int, ws[k]?.getD (0, 0) = (b0, b1) := ⟨_, _, rfl⟩
                rw [ha] at ci0 ci1
                rw [hbb] at ck0 ck1
                dsimp only at ci0 ci1 ck0 ck1
                have HA2 := Lib.hid (And.intro ha hbb)
                have HW := Lib.hid hwl
                clear ha hbb hgt hgk hgc hwl
                have hk3 : (0 : Int) ≤ (k : Int) := by omega
                have hk4 : (k : Int) < (xs.length : Int) := by omega
                have hi3 : (i : Int) < (xs.length : Int) := by omega
                have f0 := hrow.frozenAt (i * 2)
                have f1 := hrow.frozenAt (i * 2 + 1)
                have f2 := hrow.frozenAt (k * 2)
                have f3 := hrow.frozenAt (k * 2 + 1)
                have hgn1 : gr ≠ wr.heap.size := by omega
                have hgn2 : gr ≠ wr.heap.size + 1 := by omega
                obtain ⟨v1, g1⟩ : ∃ v, (wr.setCell ⟨gr, i * 2, none⟩ (.int .i64 b0)).cell? ⟨gr, k * 2, none⟩ = some v := by
                  have := (hrow.stored (i * 2) (.int .i64 b0)).1.cellAt (k * 2) (by omega)
                  rw [this]; exact ⟨_, List.getElem?_eq_getElem (by rw [List.length_set, flatW_len, HW.out]; omega)⟩
                obtain ⟨v2', g2⟩ : ∃ v, ((wr.setCell ⟨gr, i * 2, none⟩ (.int .i64 b0)).setCell ⟨gr, i * 2 + 1, none⟩ (.int .i64 b1)).cell? ⟨gr, k * 2 + 1, none⟩ = some v := by
                  have := ((hrow.stored (i * 2) (.int .i64 b0)).1.stored (i * 2 + 1) (.int .i64 b1)).1.cellAt (k * 2 + 1) (by omega)
                  rw [this]; exact ⟨_, List.getElem?_eq_getElem (by rw [List.length_set, List.length_set, flatW_len, HW.out]; omega)⟩
                have hq1 := hrow.stored (i * 2) (.int .i64 b0)
                have hq2 := hq1.1.stored (i * 2 + 1) (.int .i64 b1)
                have hq3 := hq2.1.stored (k * 2) (.int .i64 a0)
                have hq4 := (hq3.1.stored (k * 2 + 1) (.int .i64 a1)).1
                have hfl := flatW_swap ws i k (a0, a1) (b0, b1) HA2.out.1 HA2.out.2
                dsimp only at hfl
                rw [← hfl] at hq4
                have hpm' := Lib.hid ((swapW_perm (by rw [HW.out]; omega) (by rw [HW.out]; omega)).trans hpm.out : (swapW ws i k).Perm xs)
                have hBs := hBi.size
                have hB4 : Below w5.heap.size w5 ((((wr.setCell ⟨gr, i * 2, none⟩ (.int .i64 b0)).setCell ⟨gr, i * 2 + 1, none⟩ (.int .i64 b1)).setCell ⟨gr, k * 2, none⟩ (.int .i64 a0)).setCell ⟨gr, k * 2 + 1, none⟩ (.int .i64 a1)) := (((hBi.setCell hgb _).setCell hgb _).setCell hgb _).setCell hgb _
                have H4 := Lib.hid hq4
                clear hq1 hq2 hq3 hq4 hfl
                go_region
                all_goals
                  go_wp2_with fail
                  exact ⟨⟨i + 1, swapW ws i k, by go_num, by omega, hpm'.out, (H4.out.alloc _).alloc _, ((hB4.alloc (by simpa using hBs) _).alloc (by simp; omega) _).drew⟩, by simp [intOf]; omega⟩
              · have hge2 : (ps.length : Int) ≤ (i : Int) := by omega
                have hi2 : (i : Int) + 1 < (xs.length : Int) := by omega
                have hdi : decide ((i : Int) < (ps.length : Int)) = false := by simp; omega
                have hwl : ws.length = xs.length := hpm.out.length_eq
                have hwok : ∀ x ∈ ws, okW x := fun x hx => HOK.out x (hpm.out.mem_iff.1 hx)
                have hmg := mergeIn 8 (.inl rfl) pr ws cr (by omega) wr (winsIn_of_owns (by rw [hwl]; exact hrow))
                rw [hwl] at hmg
                have HMG := Lib.hid hmg
                have HWK := Lib.hid (anyBad_of_ok hwok)
                clear hmg hwok hwl
                go_wp2_with fail
                refine HMG.out.mono ?_
                rintro e w7 (⟨hbad, _⟩ | ⟨_, us, t1, t2, t3, v7, rfl, hr7, hb7⟩)
                · rw [HWK.out] at hbad; cases hbad
                obtain rfl : us = zs := t1.unique HS.out (fun p => (t2 p).trans ((cov_perm hpm.out p).trans (HCov.out p).symm))
                have hRI := rowIs_belowW (rowIs_belowW (rowIs_belowW HR3.out hB5) hBi) hb7
                go_wp2_with fail
                refine (Same_any v7 _ us us w7 (rowIs_of_owns hr7) hRI).mono ?_
                rintro e w8 ⟨rfl, hd⟩
                have hb8 := hd.below w7.heap.size
                have hB8 : Below w.heap.size w w8 := hBw.trans ((hBi.trans ((hb7.trans (hb8.mono hb7.size)).mono hBi.size)).mono hBw.size)
                clear hd hb8 hr7 hRI t1 t2 t3
                have hdec2 : decide (us = us) = true := decide_eq_true rfl
                go_wp2_with fail
                refine (awake_any w8).mono ?_
                rintro e w9 ⟨rfl, hb9⟩
                go_wp2_with fail
                go_ret
                exact ⟨rfl, hB8.trans (hb9.mono hB8.size)⟩
            · have hge2 : (xs.length : Int) ≤ (i : Int) + 1 := by omega
              have hdi : decide ((i : Int) + 1 < (xs.length : Int)) = false := by simp; omega
              have hwl : ws.length = xs.length := hpm.out.length_eq
              have hwok : ∀ x ∈ ws, okW x := fun x hx => HOK.out x (hpm.out.mem_iff.1 hx)
              have hmg := mergeIn 8 (.inl rfl) pr ws cr (by omega) wr (winsIn_of_owns (by rw [hwl]; exact hrow))
              rw [hwl] at hmg
              have HMG := Lib.hid hmg
              have HWK := Lib.hid (anyBad_of_ok hwok)
              clear hmg hwok hwl
              go_wp2_with fail
              refine HMG.out.mono ?_
              rintro e w7 (⟨hbad, _⟩ | ⟨_, us, t1, t2, t3, v7, rfl, hr7, hb7⟩)
              · rw [HWK.out] at hbad; cases hbad
              obtain rfl : us = zs := t1.unique HS.out (fun p => (t2 p).trans ((cov_perm hpm.out p).trans (HCov.out p).symm))
              have hRI := rowIs_belowW (rowIs_belowW (rowIs_belowW HR3.out hB5) hBi) hb7
              go_wp2_with fail
              refine (Same_any v7 _ us us w7 (rowIs_of_owns hr7) hRI).mono ?_
              rintro e w8 ⟨rfl, hd⟩
              have hb8 := hd.below w7.heap.size
              have hB8 : Below w.heap.size w w8 := hBw.trans ((hBi.trans ((hb7.trans (hb8.mono hb7.size)).mono hBi.size)).mono hBw.size)
              clear hd hb8 hr7 hRI t1 t2 t3
              have hdec2 : decide (us = us) = true := decide_eq_true rfl
              go_wp2_with fail
              refine (awake_any w8).mono ?_
              rintro e w9 ⟨rfl, hb9⟩
              go_wp2_with fail
              go_ret
              exact ⟨rfl, hB8.trans (hb9.mono hB8.size)⟩

theorem walk (p q : Option Addr) (xs : List Win) (ps : List Int) (cap cap2 : Nat) (hps : ps.length ≤ 9223372036854775807) (w : World) (hX : WinsIn w p xs) (hz : p = none → cap = 0) (hP : IntsIn w q ps) :
    Calls Try.prog 3 #[.slice p xs.length cap, .slice q ps.length cap2] w fun e w' => e = .returned (.bool true) ∧ Below w.heap.size w w' := by
  by_cases h5 : 500 < xs.length
  · exact walk_long p xs.length cap _ h5 w
  · by_cases h4 : 400 < xs.length
    · exact walk_err p xs.length cap _ (by omega) w (fun W _ => mergeLong _ (.inl rfl) p _ cap h4 W) (fun W _ => mergeLong _ (.inr rfl) p _ cap h4 W)
    · rcases hb : anyBad xs with _ | _
      · exact walk_ok p q xs ps cap cap2 (by omega) hps hb w hX hz hP
      · have hbad : ∀ f W, (f = 8 ∨ f = 9) → Below w.heap.size w W → Calls Try.prog f #[.slice p xs.length cap] W (RowPost2 W.heap.size W [] 1) := fun f W hf hB => (mergeIn f hf p xs cap (by omega) W (hX.belowV hB)).mono fun e w' h => by
          rcases h with ⟨_, h⟩ | ⟨h, _⟩
          · exact h
          · rw [hb] at h; cases h
        exact walk_err p xs.length cap _ (by omega) w (fun W h => hbad _ W (.inl rfl) h) (fun W h => hbad _ W (.inr rfl) h)

set_option maxRecDepth 100000 in
theorem lifted (os : Os) (started : os.Started) (H : Type) (enc : TypeId × Value → H) :
    ReturnsInHanded {} Try.checked os 3 .any (Rows.clockMergesSpec.pre6 enc Try.prog Try.f3 Rows.clockMergesRow.domain false) (Rows.clockMergesSpec.post enc Try.prog Try.f3 false true false false) := by
  refine returnsInHanded_of_change (C := Try.checked) own started (by kernel_rfl) Try.func3
    (ChangeSpec.witness6 (enc := enc) (C := Try.checked) false ⟨#[], #[.slice none 0 0, .slice none 0 0], []⟩ 8 (by kernel_rfl) (by kernel_rfl) (by kernel_rfl) (by kernel_rfl)) ?_
  intro W base args ds gs before hval0 hW hcnd _
  have hval : ∀ (j : Nat) t v, Try.f3.params[j]? = some t → args[j]? = some v → Value.okWide Try.prog W .any base t v := hval0
  have hW' := hW
  obtain ⟨p, q, hA0, hV, rfl, hfz, hnd⟩ := hW
  have hA : DataW.TrodAll enc Try.prog W 0 (fun _ => true) true Try.f3.params.toList args.toList ds p := hA0
  rw [Try.params3] at hA hval
  obtain ⟨rfl, rfl⟩ := trodVars_none hV
  have hA' := hA
  obtain ⟨v0, vs0, d0, ds0, p0, q0, hargs, rfl, rfl, h0, r0⟩ := trodAll_cons hA
  obtain ⟨v1, vs1, d1, ds1, p1, q1, rfl, rfl, rfl, h1, r1⟩ := trodAll_cons r0
  obtain ⟨rfl, rfl, rfl⟩ := trodAll_nil r1
  obtain rfl : args = #[v0, v1] := by cases args; simp_all
  obtain ⟨a0, xs, c0, rfl, hm0, hX, hz⟩ := open_wins (hval 0 _ v0 rfl rfl) h0
  obtain ⟨a1, ps, c1, rfl, hm1, hP⟩ := open_times (hval 1 _ v1 rfl rfl) h1
  clear hA0 hval0
  refine (walk a0 a1 xs ps c0 c1 (by unfold maxLen at hm1; omega) W hX hz hP).mono fun e W' ⟨he, hg⟩ => ?_
  subst he
  exact ⟨_, rfl, _, _, _, [], _, [], hW', trodAll_mk1 (shut_bool Try.underlying4 true), trodAll_below laidOut hg (by decide +kernel) hA' (fun x hx => by simpa using hW'.lt x (by simpa using hx)), rfl, hg.frame _, fun h => by cases h⟩

theorem over : Rows.clockMergesRow.holds Try.pinned (OpenSpec.ofChange Rows.clockMergesSpec) :=
  OpenClaim.holds_of_wide 3 Try.f3 rfl rfl rfl rfl rfl rfl rfl ⟨rfl, rfl, rfl, rfl, rfl⟩ rfl rfl rfl rfl rfl (by kernel_rfl) Try.func3 (by kernel_rfl)
    (of_decide_eq_true (by kernel_rfl)) (by unfold Func.isWrapper; first | (rw [if_pos (by decide +kernel)]; kernel_rfl) | (rw [if_neg (by decide +kernel)]; exact ⟨rfl, rfl⟩))
    (fun os started H enc _ => lifted os started H enc)

theorem proved : Rows.ClockMergesSaid :=
  over
end Go.Proofs.Ythbpdalkifocaaa.clockMerges
