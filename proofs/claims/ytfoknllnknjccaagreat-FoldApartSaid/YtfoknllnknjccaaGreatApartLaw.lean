/-
  The law FoldApart: what is done with a copy, or with what Bag returned, does not change the accumulator.
-/
import Derived.Test.YtfoknllnknjccaaGreatBackM
import Derived.Test.YtfoknllnknjccaaGreatCopy5
import Derived.Test.YtfoknllnknjccaaGreatTelB
import Derived.Test.YtfoknllnknjccaaGreatBasA
import Derived.Test.YtfoknllnknjccaaGreatSameR
import Derived.Test.YtfoknllnknjccaaGreatOpenR
import Derived.Test.YtfoknllnknjccaaGreatWake5
import Derived.Deep.SlicePairs
import Derived.ChangeSlices
import Derived.Test.YtfoknllnknjccaaGreatRows
namespace Go.Proofs.YtfoknllnknjccaaGreat.foldApart
open Go.ChangeShapes Go.WideShapes Go.ChangeAt Go.RowKit Go.Deep
set_option linter.unusedSimpArgs false
set_option linter.unusedVariables false

set_option maxRecDepth 100000 in
/-- A list of aggregates that reads as data: kinds and columns, and their cells. -/
theorem open_aggs {H : Type} {enc : TypeId × Value → H} {W : World} {base : Nat} {v : Value} {d : DataW H} {ps : List MemPlace} (hval : Value.okWide Tryz.prog W .any base 22 v)
    (h : DataW.Trod enc Tryz.prog W 0 (fun _ => true) true 22 v d ps) : ∃ (p : Option Addr) (gs : List Ag) (cap : Nat), v = .slice p gs.length cap ∧ gs.length ≤ maxLen ∧ AggsIn W p gs := by
  obtain ⟨a0, len0, cap0, rfl⟩ := okWide_slice Tryz.underlying22 hval
  obtain ⟨fuel, hf⟩ := h
  rcases open_slice Tryz.underlying22 hf with ⟨hcs, _⟩ | ⟨a, len, cap, m, n, D, Pl, hcs, _, hlc, hcm, hm, _, hi⟩
  · simp only [Value.cells, List.cons.injEq, and_true, Value.slice.injEq] at hcs
    obtain ⟨rfl, rfl, rfl⟩ := hcs
    exact ⟨none, [], 0, rfl, by simp, fun h => absurd h (by simp)⟩
  · simp only [Value.cells, List.cons.injEq, and_true, Value.slice.injEq] at hcs
    obtain ⟨rfl, rfl, rfl⟩ := hcs
    rw [if_pos rfl] at hm
    subst hm
    have ce : Tryz.prog.cellsOf 59 = 2 := by kernel_rfl
    have each : ∀ i, i < len0 → ∃ q : Ag, W.cell? (a.add (i * 2)) = some (.int .i64 q.1) ∧ W.cell? (a.add (i * 2 + 1)) = some (.int .i64 q.2) := fun i hil => by
      obtain ⟨cs', h1, h2⟩ := hi i (by omega)
      rw [ce] at h1
      obtain ⟨_, hlen, hcell⟩ := World.cells?_some h1
      obtain ⟨ys, k, hk, _, _, hyl, hf⟩ := DataW.trod_struct Tryz.underlying59 h2
      match ys, hyl, cs', hlen with
      | [y0, y1], _, [c0, c1], _ =>
        have cI : Tryz.prog.cellsOf 3 = 1 := by kernel_rfl
        have g0 : DataW.trod enc Tryz.prog W 0 (fun _ => true) true k 3 (([c0, c1].drop 0).take (Tryz.prog.cellsOf 3)) = some y0 := hf 0 _ rfl
        have g1 : DataW.trod enc Tryz.prog W 0 (fun _ => true) true k 3 (([c0, c1].drop 1).take (Tryz.prog.cellsOf 3)) = some y1 := hf 1 _ rfl
        rw [cI] at g0 g1
        simp only [List.drop_zero, List.take_succ_cons, List.take_zero, List.drop_succ_cons] at g0 g1
        obtain ⟨n0, e0, _, _⟩ := DataW.trod_int Tryz.underlying3 g0
        obtain ⟨n1, e1, _, _⟩ := DataW.trod_int Tryz.underlying3 g1
        simp only [List.cons.injEq, and_true] at e0 e1
        have d0 := hcell 0 (by omega)
        have d1 := hcell 1 (by omega)
        rw [add_of_add] at d0 d1
        subst e0 e1
        exact ⟨(n0, n1), by simpa using d0, by simpa using d1⟩
    obtain ⟨q, hq⟩ := choose_lt each
    have hl : ((List.range len0).map q).length = len0 := by simp
    refine ⟨some a, (List.range len0).map q, m, by rw [hl], by rw [hl]; omega, fun hp => ?_⟩
    rw [hl] at hp
    obtain ⟨b, off, spot⟩ := a
    have h00 := (hq 0 hp).1
    have hspot : spot = none := by simpa [Addr.add] using World.cell?_spot h00
    subst hspot
    have e0 := (hq 0 hp).1
    rw [add_plain] at e0
    refine ⟨b, off, rfl, World.block_lt_of_cell? W _ e0, fun i hil => ?_⟩
    rw [hl] at hil
    obtain ⟨c0, c1⟩ := hq i hil
    rw [add_plain] at c0 c1
    have : ((List.range len0).map q)[i]?.getD ag0 = q i := by simp [hil]
    rw [this]
    exact ⟨c0, by rw [← Nat.add_assoc] at c1; exact c1⟩

theorem add_first {n : Int} {xs : List Val} (h : addErr n [] xs 1 = 0) : addVal n [] xs 1 = [(xs, 1)] ∧ fitsR n xs = true := by
  refine ⟨by unfold addVal; rw [if_pos h]; rfl, ?_⟩
  unfold addErr at h
  by_cases h1 : fitsR n xs = false
  · rw [if_pos h1] at h; omega
  · simpa using h1
theorem one_valid {xs : List Val} (h : validRow xs = true) : validBag [(xs, 1)] = true := validBag_iff.2 ⟨by simp, fun x hx => by
  rw [List.mem_singleton] at hx; subst hx; exact itOK_iff.2 ⟨h, by unfold inN; omega⟩, by simp [Up]⟩
theorem one_whole {xs : List Val} (h : validRow xs = true) : wholeB [(xs, 1)] = true := by
  unfold wholeB; rw [one_valid h]; simp [neg]
theorem one_total {xs : List Val} (h : validRow xs = true) : totalV [(xs, 1)] = 1 := by
  unfold totalV; rw [if_pos (one_valid h)]
  show wrap64 (0 + 1) = 1
  exact IntWalk.wrap64_in _ (by omega)

theorem ofOne_any (p : Option Addr) (gs : List Ag) (c n : Nat) (r : RowV) (hv : validL (n : Int) gs = true) (hn8 : (n : Int) ≤ 8) (hvr : validRow r.2.1 = true) (hlen : r.2.1.length = n) (W : World) (hG : AggsIn W p gs) (hR : RowOK W r) (hrz : r.1 = none → r.2.2 = 0) :
    Calls Tryz.prog 26 #[.slice p gs.length c, .int .i64 (n : Int), .slice (some ⟨W.heap.size, 0, none⟩) 1 1] (W.alloc (.cells #[rowv r, .int .i64 1] 53)) (ResPost (W.alloc (.cells #[rowv r, .int .i64 1] 53)) (toldV gs [(r.2.1, 1)]) 0) := by
  have hb : Below W.heap.size W (W.alloc (.cells #[rowv r, .int .i64 1] 53)) := below_new _ _
  have hK := Blk.new W 53 #[rowv r, .int .i64 1]
  have hwide : (wideB (n : Int) (vals [(r, (1 : Int))]) && validBag (vals [(r, (1 : Int))])) = true := by
    show (wideB (n : Int) [(r.2.1, 1)] && validBag [(r.2.1, 1)]) = true
    rw [one_valid hvr]
    simp [wideB, hlen]
  have hwh : wholeB (vals [(r, (1 : Int))]) = true := one_whole hvr
  have hI : ItemsIn (W.alloc (.cells #[rowv r, .int .i64 1] 53)) (some ⟨W.heap.size, 0, none⟩) [(r, (1 : Int))] := fun _ => ⟨W.heap.size, 0, rfl, by simp, fun j hj => by
    have hj0 : j = 0 := by simpa using hj
    subst hj0
    exact ⟨by simp, by simp, hR.belowV hb, hrz⟩⟩
  have h := refOf_any p (some ⟨W.heap.size, 0, none⟩) gs [(r, (1 : Int))] c 1 n (by simp) hv hwide (by omega) hn8 (W.alloc (.cells #[rowv r, .int .i64 1] 53)) (hG.belowV hb) hI (fun W2 h2 a ha W3 h3 => by
    have h23 : Below (W.alloc (.cells #[rowv r, .int .i64 1] 53)).heap.size (W.alloc (.cells #[rowv r, .int .i64 1] 53)) W3 := h2.trans (h3.mono h2.size)
    have hK3 := hK.belowV h23 hK.lt
    have hok : aggOK r.2.1.length a = true := by
      rw [hlen]
      unfold validL at hv
      rw [Bool.and_eq_true] at hv
      exact List.all_eq_true.1 hv.2 a ha
    exact tellOne_any a r W.heap.size 0 1 hvr hok W3 hK3.lt (by have := hK3.cell 0; simpa using this) (by have := hK3.cell 1; simpa using this) ((hR.belowV hb).belowV h23).2)
  rw [if_pos hwh, if_pos hwh] at h
  exact h

set_option maxRecDepth 100000 in
set_option maxHeartbeats 16000000 in
theorem walk (p : Option Addr) (gs : List Ag) (c : Nat) (m : Int) (r s : RowV) (k : Int) (hgm : gs.length ≤ maxLen) (w : World) (hG : AggsIn w p gs) (hR : RowOK w r) (hrz : r.1 = none → r.2.2 = 0) (hS : RowOK w s) (hsz : s.1 = none → s.2.2 = 0) :
    Calls Tryz.prog 4 #[.slice p gs.length c, .int .i64 m, rowv r, rowv s, .int .i64 k] w fun e w' => e = .returned (.bool true) ∧ Below w.heap.size w w' := by
  have HW := Lib.hid awake5_any
  by_cases hs : 100 < gs.length
  · have hs' : (100 : Int) < (gs.length : Int) := by omega
    clear hs hR hS hG
    go_enter Tryz.func4, Tryz.ntmps4
    go_wp2_with fail
    refine (HW.out _).mono ?_
    rintro e w1 ⟨rfl, hb1⟩
    go_wp2_with fail
    go_ret
    exact ⟨rfl, hb1⟩
  have hs' : (gs.length : Int) ≤ (100 : Int) := by omega
  have hg9 : gs.length ≤ 9223372036854775807 := by unfold maxLen at hgm; omega
  have hbA : Below w.heap.size w (w.alloc (.cells #[rowv r, rowv s] 34)) := below_new _ _
  have HL := Lib.hid (Long_any (some ⟨w.heap.size, 0, none⟩) [r, s] 2 (by simp) (w.alloc (.cells #[rowv r, rowv s] 34)) (fun _ => ⟨w.heap.size, 0, rfl, by simp, fun j hj => by
    have hj2 : j = 0 ∨ j = 1 := by simp at hj; omega
    rcases hj2 with rfl | rfl
    · exact ⟨(Blk.new w 34 #[rowv r, rowv s]).cell 0, hR.1, (hR.belowV hbA).2⟩
    · exact ⟨(Blk.new w 34 #[rowv r, rowv s]).cell 1, hS.1, (hS.belowV hbA).2⟩⟩))
  have HB0 := Lib.hid hbA
  by_cases hbad : newErr gs m = 0
  case neg =>
    obtain ⟨er, her⟩ : ∃ er, er = newErr gs m := ⟨_, rfl⟩
    rw [← her] at hbad
    have HN := Lib.hid fun W (h : Below w.heap.size w W) => new_bad p gs c m er hg9 W (hG.belowV h) her.symm hbad
    have hne : (er != 0) = true := by simpa using hbad
    clear hR hS hG her hbA
    obtain ⟨rq, rx, rc⟩ := r
    obtain ⟨sq, sx, sc⟩ := s
    dsimp only [rowv] at *
    go_enter Tryz.func4, Tryz.ntmps4
    go_wp2_with fail
    refine HL.out.mono ?_
    rintro e w1 ⟨qb, rfl, rfl⟩
    cases qb with
    | true =>
      go_wp2_with fail
      refine (HW.out _).mono ?_
      rintro e w2 ⟨rfl, hb2⟩
      have HB2 := Lib.hid (HB0.out.trans (hb2.mono HB0.out.size))
      clear hb2
      go_wp2_with fail
      go_ret
      exact ⟨rfl, HB2.out⟩
    | false =>
      go_wp2_with fail
      refine (HN.out _ HB0.out).mono ?_
      rintro e w2 ⟨rfl, hb2⟩
      have HB2 := Lib.hid (HB0.out.trans (hb2.mono HB0.out.size))
      clear hb2
      go_wp2_with fail
      refine (HW.out _).mono ?_
      rintro e w4 ⟨rfl, hb4⟩
      have HB4 := Lib.hid (HB2.out.trans (hb4.mono HB2.out.size))
      clear hb4
      go_wp2_with fail
      go_ret
      exact ⟨rfl, HB4.out⟩
  have hv : validL m gs = true := by
    unfold newErr at hbad
    cases q : validL m gs with
    | true => rfl
    | false => rw [if_pos q] at hbad; omega
  have hm : 0 ≤ m ∧ m ≤ 8 := by
    unfold newErr at hbad
    rw [if_neg (by rw [hv]; decide)] at hbad
    by_cases h : m < 0 ∨ 8 < m
    · rw [if_pos h] at hbad; omega
    · omega
  obtain ⟨n, rfl⟩ : ∃ n : Nat, m = (n : Int) := Int.eq_ofNat_of_zero_le hm.1
  have hgl := validL_len hv
  have hg0 : 0 < gs.length := by omega
  have HN := Lib.hid fun W (h : Below w.heap.size w W) => newO_ok p gs c n hg9 W (hG.belowV h) hv hm.1 hm.2
  have HADD := Lib.hid fun B W (h : Below w.heap.size w W) (hA : AccO W w.heap.size B (.slice none 0 0) gs n []) => add_any w.heap.size B (.slice none 0 0) gs n 1 [] r.1 r.2.1 r.2.2 hg0 rfl hrz W h.size (hR.belowV h).2 hA
  obtain ⟨er, her⟩ : ∃ er, er = addErr n [] r.2.1 1 := ⟨_, rfl⟩
  have hva : vals ([] : List ItR) = [] := rfl
  rw [hva, ← her] at HADD
  by_cases he : er = 0
  case neg =>
    have hne : (er != 0) = true := by simpa using he
    clear hR hS hG her hbA hbad hv
    obtain ⟨rq, rx, rc⟩ := r
    obtain ⟨sq, sx, sc⟩ := s
    dsimp only [rowv] at *
    go_enter Tryz.func4, Tryz.ntmps4
    go_wp2_with fail
    refine HL.out.mono ?_
    rintro e w1 ⟨qb, rfl, rfl⟩
    cases qb with
    | true =>
      go_wp2_with fail
      refine (HW.out _).mono ?_
      rintro e w2 ⟨rfl, hb2⟩
      have HB2 := Lib.hid (HB0.out.trans (hb2.mono HB0.out.size))
      clear hb2
      go_wp2_with fail
      go_ret
      exact ⟨rfl, HB2.out⟩
    | false =>
      go_wp2_with fail
      refine (HN.out _ HB0.out).mono ?_
      rintro e w2 ⟨Bx, rfl, hBx, hAx, hb2⟩
      have HB2 := Lib.hid (HB0.out.trans (hb2.mono HB0.out.size))
      have HX2 := Lib.hid (hAx.base HB0.out.size)
      clear hb2 hAx hBx
      go_wp2_with fail
      refine (HADD.out Bx _ HB2.out HX2.out).mono ?_
      rintro e w3 ⟨rfl, v', ss', hA', _, _, hk⟩
      have HB3 := Lib.hid (HB2.out.trans (hk.toBelow HB2.out.size HX2.out.1 (fun x hx => by cases hx)))
      clear hA' hk
      go_wp2_with fail
      refine (HW.out _).mono ?_
      rintro e w4 ⟨rfl, hb4⟩
      have HB4 := Lib.hid (HB3.out.trans (hb4.mono HB3.out.size))
      clear hb4
      go_wp2_with fail
      go_ret
      exact ⟨rfl, HB4.out⟩
  case pos =>
    subst he
    obtain ⟨hav, hfit⟩ := add_first her.symm
    rw [hav] at HADD
    have hvl : validRow r.2.1 = true ∧ r.2.1.length = n := by
      unfold fitsR at hfit
      rw [Bool.and_eq_true, decide_eq_true_eq] at hfit
      exact ⟨hfit.1, by omega⟩
    obtain ⟨hvr, hlen⟩ := hvl
    have HCP := Lib.hid fun B v ss W (hA : AccO W w.heap.size B v gs n ss) (hvv : vals ss = [(r.2.1, 1)]) => copyAcc_any w.heap.size B v gs n ss hg0 hgl.2 (by rw [hvv]; exact one_valid hvr) W hA
    have HAY := Lib.hid fun lo B v ss W (hlo : lo ≤ W.heap.size) (hb : Below w.heap.size w W) (hSt : StO W lo B v gs n ss) => act_any s k hg0 W hlo hSt (hS.belowV hb) hsz
    have HBG := Lib.hid fun B v ss W (hA : AccO W w.heap.size B v gs n ss) => bagAcc_any w.heap.size B v gs n ss W hA
    have HRS := Lib.hid fun B v ss W (h : StO W w.heap.size B v gs n ss) => resO_any hv W h
    have HOF := Lib.hid fun W (hb : Below w.heap.size w W) => ofOne_any p gs c n r hv hm.2 hvr hlen W (hG.belowV hb) (hR.belowV hb) hrz
    have HV1 := Lib.hid hvr
    have HLN := Lib.hid hlen
    have hr8 : r.2.1.length ≤ 8 := by omega
    clear hR hS hG her hbA hbad hv hav hfit hvr hlen hva
    obtain ⟨rq, rx, rc⟩ := r
    obtain ⟨sq, sx, sc⟩ := s
    dsimp only [rowv] at *
    go_enter Tryz.func4, Tryz.ntmps4
    go_wp2_with fail
    refine HL.out.mono ?_
    rintro e w1 ⟨qb, rfl, rfl⟩
    cases qb with
    | true =>
      go_wp2_with fail
      refine (HW.out _).mono ?_
      rintro e w2 ⟨rfl, hb2⟩
      have HB2 := Lib.hid (HB0.out.trans (hb2.mono HB0.out.size))
      clear hb2
      go_wp2_with fail
      go_ret
      exact ⟨rfl, HB2.out⟩
    | false =>
      go_wp2_with fail
      refine (HN.out _ HB0.out).mono ?_
      rintro e w2 ⟨Bx, rfl, hBx, hAx, hb2⟩
      have HB2 := Lib.hid (HB0.out.trans (hb2.mono HB0.out.size))
      have HX2 := Lib.hid (hAx.base HB0.out.size)
      clear hb2 hAx hBx
      go_wp2_with fail
      refine (HADD.out Bx _ HB2.out HX2.out).mono ?_
      rintro e w3 ⟨rfl, v, ss, hA', hvs, _, hk⟩
      have HB3 := Lib.hid (HB2.out.trans (hk.toBelow HB2.out.size HX2.out.1 (fun x hx => by cases hx)))
      have HVS := Lib.hid hvs
      have HX3 := Lib.hid (show StO w3 w.heap.size Bx v gs n ss from ⟨hA', by rw [hvs]; exact one_valid HV1.out, by rw [hvs]; intro y hy; rw [List.mem_singleton] at hy; subst hy; exact HLN.out⟩)
      clear hA' hk hvs HX2 HN HADD
      go_wp2_with fail
      refine (HCP.out Bx v ss w3 HX3.out.1 HVS.out).mono ?_
      rintro e w4 ⟨By, vy, cc, rfl, hAy, hvy, hb4⟩
      have HB34 := Lib.hid hb4
      have HY4 := Lib.hid (show StO w4 w3.heap.size By vy gs n cc from ⟨hAy, by rw [hvy, HVS.out]; exact one_valid HV1.out, by rw [hvy, HVS.out]; intro y hy; rw [List.mem_singleton] at hy; subst hy; exact HLN.out⟩)
      have HB4 := Lib.hid (HB3.out.trans (hb4.mono HB3.out.size))
      clear hb4 hAy hvy HCP
      go_wp2_with fail
      refine (HAY.out w3.heap.size By vy cc w4 HB34.out.size HB4.out HY4.out).mono ?_
      rintro e w5 ⟨ery, vy', cc', rfl, _, _, _, _, hb5⟩
      have HB35 := Lib.hid (HB34.out.trans hb5)
      have HB5 := Lib.hid (HB3.out.trans (HB35.out.mono HB3.out.size))
      have HX5 := Lib.hid (HX3.out.belowV HB35.out)
      clear hb5 HY4 HAY HB34 HB35 HX3
      go_wp2_with fail
      refine (HBG.out Bx v ss w5 HX5.out.1).mono ?_
      rintro e w6 ⟨vb, bb, rfl, hob, hvb, hb6⟩
      obtain ⟨x5, rfl⟩ : ∃ x5, bb = [x5] := by
        have hl := congrArg List.length hvb
        rw [HVS.out, vals_len] at hl
        match bb, hl with
        | [x], _ => exact ⟨x, rfl⟩
      obtain ⟨⟨q5, y5, c5⟩, n5⟩ := x5
      have hy5 : y5 = rx := by
        rw [HVS.out] at hvb
        simp only [vals, List.map_cons, List.map_nil, itv, List.cons.injEq, Prod.mk.injEq, and_true] at hvb
        exact hvb.1
      obtain ⟨g, cap, rfl, hc1, _⟩ := own_one (show w6.ownsRow w5.heap.size 53 2 vb (0 + 1) (flatI [((q5, y5, c5), n5)]) from hob.1)
      have hO6 : w6.ownsRow w5.heap.size 53 2 (.slice (some ⟨g, 0, none⟩) 1 cap) 1 [.slice q5 y5.length c5, .int .i64 n5] := hob.1
      have hV6 : OwnsV w6 w5.heap.size (.slice q5 y5.length c5) y5 := hob.2 ((q5, y5, c5), n5) (by simp)
      have hge : w5.heap.size ≤ g := (hO6.lt g rfl).1
      have d1 := hO6.cellAt 1 (by omega)
      have f1 := hO6.frozenAt 1
      simp only [List.getElem?_cons_succ, List.getElem?_cons_zero] at d1
      have hst := hO6.stored 1 (.int .i64 77)
      have hI7 := Lib.hid hst.1
      have hV7 := Lib.hid (hV6.kept hst.2 (own_apart hO6 hV6))
      have hB7 := Lib.hid (show Below w5.heap.size w5 (w6.setCell ⟨g, 1, none⟩ (.int .i64 77)) from hb6.setCell hge _)
      have hone1 : ((1 : Int) != 1) = false := by decide
      have hy8 : y5.length ≤ 8 := by rw [hy5]; exact hr8
      clear hy5
      clear hob hvb hb6 hO6 hV6 hst HBG
      go_wp2_with fail
      generalize w6.setCell ⟨g, 1, none⟩ (.int .i64 77) = w7 at *
      clear d1 f1
      go_loopw [15] (fun s wr => ∃ (i : Nat) (LI LV : List Value), s = .int .i64 i ∧ i ≤ y5.length ∧ Hid (wr.ownsRow w5.heap.size 53 2 (.slice (some ⟨g, 0, none⟩) 1 cap) 1 LI) ∧ Hid (LI[0]? = some (.slice q5 y5.length c5)) ∧ Hid (wr.ownsRow w5.heap.size 55 3 (.slice q5 y5.length c5) y5.length LV) ∧ Hid (Below w5.heap.size w5 wr)) (fun s _ => y5.length - (RowKit.intOf s).toNat)
      case atStart => exact ⟨0, _, _, rfl, Nat.zero_le _, hI7.out, rfl, hV7.out, hB7.out⟩
      case round =>
        clear hI7 hV7 hB7
        obtain ⟨i, LI, LV, rfl, hin, HI, HI0, HV, HBw⟩ := hrel
        have c0 := HI.out.cellAt 0 (by omega)
        rw [HI0.out] at c0
        by_cases hlt : i < y5.length
        · obtain ⟨g5, cap5, he5, hBg⟩ : ∃ g5 cap5, Value.slice q5 y5.length c5 = .slice (some ⟨g5, 0, none⟩) y5.length cap5 ∧ w5.heap.size ≤ g5 := by
            rcases HV.out.2 with ⟨_, h0⟩ | ⟨g5, cap5, cur5, he5, hBg, _⟩
            · omega
            · exact ⟨g5, cap5, he5, hBg⟩
          simp only [Value.slice.injEq, true_and] at he5
          obtain ⟨rfl, rfl⟩ := he5
          have hi0 : (0 : Int) ≤ (i : Int) := by omega
          have hi1 : (i : Int) < (y5.length : Int) := by omega
          have hLl : LV.length = y5.length * 3 := HV.out.1
          obtain ⟨u0, hu0⟩ : ∃ u, LV[i * 3]? = some u := ⟨_, List.getElem?_eq_getElem (by omega)⟩
          obtain ⟨u1, hu1⟩ : ∃ u, LV[i * 3 + 1]? = some u := ⟨_, List.getElem?_eq_getElem (by omega)⟩
          obtain ⟨u2, hu2⟩ : ∃ u, LV[i * 3 + 2]? = some u := ⟨_, List.getElem?_eq_getElem (by omega)⟩
          have d0 := (HV.out.cellAt (i * 3) (by omega)).trans hu0
          have d1 := (HV.out.cellAt (i * 3 + 1) (by omega)).trans hu1
          have d2 := (HV.out.cellAt (i * 3 + 2) (by omega)).trans hu2
          have f0 := HV.out.frozenAt (i * 3)
          have f1 := HV.out.frozenAt (i * 3 + 1)
          have f2 := HV.out.frozenAt (i * 3 + 2)
          have s0 := HV.out.stored (i * 3) (.int .i64 0)
          have s1 := s0.1.stored (i * 3 + 1) (.int .i64 0)
          have s2 := s1.1.stored (i * 3 + 2) (.string ⟨#[]⟩)
          have hgr := World.grownBy.trans (World.grownBy.trans s0.2 s1.2) s2.2
          have HI8 := Lib.hid (HI.out.kept hgr (.inr fun e => apart_own HI.out HV.out (by decide) g rfl e.symm))
          have HV8 := Lib.hid s2.1
          have HB8 := Lib.hid (((HBw.out.setCell (p := ⟨g5, i * 3, none⟩) hBg (.int .i64 0)).setCell (p := ⟨g5, i * 3 + 1, none⟩) hBg (.int .i64 0)).setCell (p := ⟨g5, i * 3 + 2, none⟩) hBg (.string ⟨#[]⟩))
          clear hu0 hu1 hu2 s0 s1 s2 hgr hLl
          go_wp2_with fail
          go_roundw
          case rel => exact ⟨i + 1, _, _, by go_num, by omega, HI8.out, HI0.out, HV8.out, HB8.out⟩
          case measure => simp [RowKit.intOf] <;> omega
        · have hge2 : (y5.length : Int) ≤ (i : Int) := by omega
          have hge3 : ¬ ((i : Int) < (y5.length : Int)) := by omega
          clear hin hlt
          have HXr := Lib.hid (HX5.out.belowV HBw.out)
          have HBr := Lib.hid (HB5.out.trans (HBw.out.mono HB5.out.size))
          clear HI HV HBw HI0
          go_wp2_with fail
          refine (HRS.out Bx v ss wr HXr.out).mono ?_
          rintro e w9 ⟨va, rfl, hoa, hb9⟩
          have e1 : resVal gs [(rx, 1)] = toldV gs [(rx, 1)] := by unfold resVal; rw [if_pos (one_whole HV1.out)]
          have e2 : resErr [(rx, 1)] = 0 := by unfold resErr; rw [if_pos (one_whole HV1.out)]
          rw [HVS.out, e1] at hoa
          rw [HVS.out, e2]
          obtain ⟨pa, ca, rfl⟩ := slice_of_owns hoa
          have HB9 := Lib.hid (HBr.out.trans (hb9.mono HBr.out.size))
          have HX9 := Lib.hid (HXr.out.belowV hb9)
          have HVA := Lib.hid (valsIn_of_owns hoa)
          have HOFF := Lib.hid (HOF.out w9 HB9.out)
          clear hb9 hoa e1 e2 HOF HRS HXr HBr
          go_wp2_with fail
          refine HOFF.out.mono ?_
          rintro e w10 ⟨vb, rfl, hob, hb10⟩
          obtain ⟨pb, cb, rfl⟩ := slice_of_owns hob
          have hbn : Below w9.heap.size w9 (w9.alloc (.cells #[.slice rq rx.length rc, .int .i64 1] 53)) := below_new _ _
          have hb910 : Below w9.heap.size w9 w10 := hbn.trans (hb10.mono hbn.size)
          have HB10 := Lib.hid (HB9.out.trans (hb910.mono HB9.out.size))
          have HX10 := Lib.hid (HX9.out.belowV hb910)
          have HVA10 := Lib.hid (HVA.out.belowV hb910)
          have HVB := Lib.hid (valsIn_of_owns hob)
          have hyl : (toldV gs [(rx, 1)]).length ≤ 100 := by simp [toldV]; omega
          clear hb10 hob hbn hb910 HVA HX9 HB9 HOFF
          generalize toldV gs [(rx, 1)] = ys at hyl HVA10 HVB ⊢
          have HSR := Lib.hid (Same_any pa pb ys ca cb ys.length rfl (by omega) w10 HVA10.out HVB.out)
          clear hyl
          go_wp2_with fail
          refine HSR.out.mono ?_
          rintro e w11 ⟨rfl, hb11⟩
          have HB11 := Lib.hid (HB10.out.trans (hb11.mono HB10.out.size))
          have HX11 := Lib.hid (HX10.out.belowV hb11)
          clear hb11 HX10 HB10 HSR HVA10 HVB
          go_wp2_with fail
          refine (rowsAcc_any _ _ _ _ _ _ _ HX11.out.1).mono ?_
          rintro e w12 ⟨rfl, hb12⟩
          rw [HVS.out, one_total HV1.out]
          have HB12 := Lib.hid (HB11.out.trans (hb12.mono HB11.out.size))
          clear hb12 HX11 HB11
          go_wp2_with fail
          refine (HW.out _).mono ?_
          rintro e w13 ⟨rfl, hb13⟩
          have HB13 := Lib.hid (HB12.out.trans (hb13.mono HB12.out.size))
          clear hb13
          go_wp2_with fail
          go_ret
          exact ⟨rfl, HB13.out⟩
set_option maxRecDepth 100000 in
theorem lifted (os : Os) (started : os.Started) (H : Type) (enc : TypeId × Value → H) :
    ReturnsInHanded {} Tryz.checked os 4 .any (Rows.foldApartSpec.pre6 enc Tryz.prog Tryz.f4 Rows.foldApartRow.domain false) (Rows.foldApartSpec.post enc Tryz.prog Tryz.f4 false true false false) := by
  refine returnsInHanded_of_change (C := Tryz.checked) own started (by kernel_rfl) Tryz.func4
    (ChangeSpec.witness6 (enc := enc) (C := Tryz.checked) false ⟨#[], #[.slice none 0 0, .int .i64 0, .slice none 0 0, .slice none 0 0, .int .i64 0], []⟩ 8 (by kernel_rfl) (by kernel_rfl) (by kernel_rfl) (by kernel_rfl)) ?_
  intro W base args ds gs before hval0 hW hcnd _
  have hval : ∀ (j : Nat) t v, Tryz.f4.params[j]? = some t → args[j]? = some v → Value.okWide Tryz.prog W .any base t v := hval0
  have hW' := hW
  obtain ⟨p, q, hA0, hV, rfl, hfz, hnd⟩ := hW
  have hA : DataW.TrodAll enc Tryz.prog W 0 (fun _ => true) true Tryz.f4.params.toList args.toList ds p := hA0
  rw [Tryz.params4] at hA hval
  obtain ⟨rfl, rfl⟩ := trodVars_none hV
  have hA' := hA
  obtain ⟨v0, vs0, d0, ds0, p0, q0, hargs, rfl, rfl, h0, r0⟩ := trodAll_cons hA
  obtain ⟨v1, vs1, d1, ds1, p1, q1, rfl, rfl, rfl, h1, r1⟩ := trodAll_cons r0
  obtain ⟨v2, vs2, d2, ds2, p2, q2, rfl, rfl, rfl, h2, r2⟩ := trodAll_cons r1
  obtain ⟨v3, vs3, d3, ds3, p3, q3, rfl, rfl, rfl, h3, r3⟩ := trodAll_cons r2
  obtain ⟨v4, vs4, d4, ds4, p4, q4, rfl, rfl, rfl, h4, r4⟩ := trodAll_cons r3
  obtain ⟨rfl, rfl, rfl⟩ := trodAll_nil r4
  obtain rfl : args = #[v0, v1, v2, v3, v4] := by cases args; simp_all
  obtain ⟨a0, gs, c0, rfl, hlm0, hG⟩ := open_aggs (hval 0 _ v0 rfl rfl) h0
  obtain ⟨n, rfl⟩ := okWide_int Tryz.underlying3 (hval 1 _ v1 rfl rfl)
  obtain ⟨x2, rfl, hX2, hz2, _⟩ := open_row (hval 2 _ v2 rfl rfl) h2
  obtain ⟨x3, rfl, hX3, hz3, _⟩ := open_row (hval 3 _ v3 rfl rfl) h3
  obtain ⟨k, rfl⟩ := okWide_int Tryz.underlying3 (hval 4 _ v4 rfl rfl)
  clear hA0 hval0
  refine (walk a0 gs c0 n x2 x3 k hlm0 W hG hX2 hz2 hX3 hz3).mono fun e W' ⟨he, hg⟩ => ?_
  subst he
  exact ⟨_, rfl, _, _, _, [], _, [], hW', trodAll_mk1 (shut_bool Tryz.underlying4 true), trodAll_below laidOut hg (by decide +kernel) hA' (fun x hx => by simpa using hW'.lt x (by simpa using hx)), rfl, hg.frame _, fun h => by cases h⟩

theorem over : Rows.foldApartRow.holds Tryz.pinned (OpenSpec.ofChange Rows.foldApartSpec) :=
  OpenClaim.holds_of_wide 4 Tryz.f4 rfl rfl rfl rfl rfl rfl rfl ⟨rfl, rfl, rfl, rfl, rfl⟩ rfl rfl rfl rfl rfl (by kernel_rfl) Tryz.func4 (by kernel_rfl)
    (of_decide_eq_true (by kernel_rfl)) (by unfold Func.isWrapper; first | (rw [if_pos (by decide +kernel)]; kernel_rfl) | (rw [if_neg (by decide +kernel)]; exact ⟨rfl, rfl⟩))
    (fun os started H enc _ => lifted os started H enc)

theorem proved : Rows.FoldApartSaid :=
  over
#print axioms proved
end Go.Proofs.YtfoknllnknjccaaGreat.foldApart
