/-
  PROVED HERE: for every bound, every list of times, every list of events and every two numbers the law MarkSorts returns true: Marks, Late and Sorted of package mark answer as the document's own. Its arguments read afterwards as before.
-/
import Derived.Test.YtmnbcofonhlplaaOe
import Derived.Test.YtmnbcofonhlplaaRows
namespace Go.Proofs.Ytmnbcofonhlplaa.markSorts
open Go.ChangeShapes Go.WideShapes Go.ChangeAt Go.RowKit Go.Deep
set_option linter.unusedSimpArgs false

set_option maxRecDepth 100000 in
set_option maxHeartbeats 4000000 in
theorem walk (b x y : Int) (p q : Option Addr) (ts : List Int) (es : List EvR) (c d : Nat) (hlm : es.length ≤ maxLen) (w : World) (hX : IntsIn w p ts) (hE : EvsIn w q es) :
    Calls Try.prog 5 #[.int .i64 b, .slice p ts.length c, .slice q es.length d, .agg #[.int .i64 x, .int .i64 y]] w fun e w' => e = .returned (.bool true) ∧ Below w.heap.size w w' := by
  have hm9 : es.length ≤ 9223372036854775807 := by unfold maxLen at hlm; omega
  have hbA := below_new w (.cells #[.int .i64 x, .int .i64 y] 43)
  have HW := Lib.hid awake6_any
  have HB := Lib.hid hbA
  have KB := Lib.hid (Blk.new w 43 #[.int .i64 x, .int .i64 y])
  have HX := Lib.hid (hX.belowV hbA)
  have HE := Lib.hid (hE.belowV hbA)
  clear hbA hX hE hlm
  by_cases h5 : 500 < ts.length
  · have h5' : (500 : Int) < (ts.length : Int) := by omega
    clear h5
    go_enter Try.func5, Try.ntmps5
    go_wp2_with fail
    refine (HW.out _).mono ?_
    rintro e w1 ⟨rfl, hb1⟩
    have HB1 := Lib.hid (HB.out.trans (hb1.mono HB.out.size))
    clear hb1
    go_wp2_with fail
    go_ret
    exact ⟨rfl, HB1.out⟩
  have h5' : decide ((500 : Int) < (ts.length : Int)) = false := decide_eq_false (by omega)
  have HL := Lib.hid (longE_any q es d hm9 _ HE.out)
  obtain ⟨W1, hW1⟩ : ∃ W1, W1 = w.alloc (.cells #[.int .i64 x, .int .i64 y] 43) := ⟨_, rfl⟩
  rw [← hW1] at HB KB HX HE HL
  go_enter Try.func5, Try.ntmps5
  go_wp2_with fail
  rw [← hW1]
  clear hW1
  refine HL.out.mono ?_
  rintro e w2 ⟨ql, rfl, h500, hb2⟩
  have HB2 := Lib.hid (HB.out.trans (hb2.mono HB.out.size))
  have HX2 := Lib.hid (HX.out.belowV hb2)
  have HE2 := Lib.hid (HE.out.belowV hb2)
  have KB2 := Lib.hid (KB.out.belowV hb2 KB.out.lt)
  clear hb2 HB HX HE KB HL
  cases ql with
  | true =>
    clear h500
    go_wp2_with fail
    refine (HW.out _).mono ?_
    rintro e w3 ⟨rfl, hb3⟩
    have HB3 := Lib.hid (HB2.out.trans (hb3.mono HB2.out.size))
    clear hb3
    go_wp2_with fail
    go_ret
    exact ⟨rfl, HB3.out⟩
  | false =>
    have h500 := h500 rfl
    have HM1 := Lib.hid (mkMarks_any b p ts c w2 HX2.out)
    have hml : (marksVal b ts).length ≤ 1000 := by unfold marksVal; split <;> simp [marksL]; omega
    have HM2 := Lib.hid fun W (h : Below w2.heap.size w2 W) => rkMarks_any b p ts c W (HX2.out.belowV h)
    generalize marksVal b ts = ms at HM1 HM2 hml
    generalize marksErr b ts = er at HM1 HM2
    have hee : (er != er) = false := by simp
    go_wp2_with fail
    refine HM1.out.mono ?_
    rintro e w3 ⟨p3, c3, rfl, hi3, hb3⟩
    have HI3 := Lib.hid hi3
    have HB23 := Lib.hid hb3
    clear hi3 hb3
    go_wp2_with fail
    refine (HM2.out _ HB23.out).mono ?_
    rintro e w4 ⟨p4, c4, rfl, hi4, hb4⟩
    have HI4 := Lib.hid (show IntsIn w4 p3 ms ∧ IntsIn w4 p4 ms from ⟨HI3.out.belowV hb4, hi4⟩)
    have HB24 := Lib.hid (HB23.out.trans (hb4.mono HB23.out.size))
    clear hi4 hb4 HI3 HB23 HM1 HM2
    have K4 := KB2.out.belowV HB24.out KB2.out.lt
    have z0 : w4.cell? ⟨w.heap.size, 0, none⟩ = some (.int .i64 x) := K4.cell 0
    have z1 : w4.cell? ⟨w.heap.size, 1, none⟩ = some (.int .i64 y) := K4.cell 1
    have HF := Lib.hid (show ∀ W, Below w4.heap.size w4 W → (Below w4.heap.size w4 W ∧ W.cell? ⟨w.heap.size, 0, none⟩ = some (.int .i64 x) ∧ W.cell? ⟨w.heap.size, 1, none⟩ = some (.int .i64 y)) from fun W h => ⟨h, (h.cell (p := ⟨w.heap.size, 0, none⟩) K4.lt).trans z0, (h.cell (p := ⟨w.heap.size, 1, none⟩) K4.lt).trans z1⟩)
    have HS := Lib.hid fun W (h : Below w4.heap.size w4 W) => sameInts_any p3 p4 ms c3 c4 (by omega) W (HI4.out.1.belowV h) (HI4.out.2.belowV h)
    have hl1 := fun W => mkLate_any x y W
    have hl2 := fun W => rkLate_any x y W
    generalize decide (x < y) = lt at hl1 hl2
    have hll : (lt != lt) = false := by simp
    clear K4
    have HSO := Lib.hid fun W (h : Below w4.heap.size w4 W) => mkSorted_any b q es d hm9 W ((HE2.out.belowV HB24.out).belowV h)
    have HSR := Lib.hid fun W (h : Below w4.heap.size w4 W) => rkSorted_any b q es d hm9 W ((HE2.out.belowV HB24.out).belowV h)
    have HBX := Lib.hid fun W (h : Below w4.heap.size w4 W) => (HB2.out.trans (HB24.out.mono HB2.out.size)).trans (h.mono (Nat.le_trans HB2.out.size HB24.out.size))
    have hon : (sortOn b es).length ≤ 100000 := by
      unfold sortOn onP
      split
      · rw [List.length_map]; have := List.length_filter_le (fun x : Pl => !x.2.2) (plTo b es es.length); rw [plTo_len] at this; omega
      · simp
    have hlt : (sortLate b es).length ≤ 100000 := by
      unfold sortLate lateP
      split
      · rw [List.length_map]; have := List.length_filter_le (fun x : Pl => x.2.2) (plTo b es es.length); rw [plTo_len] at this; omega
      · simp
    generalize sortOn b es = so at HSO HSR hon
    generalize sortLate b es = sl at HSO HSR hlt
    generalize sortErr b es = se at HSO HSR
    have hse : (se == se) = true := by simp
    go_wp2_with fail
    go_region_held3 (fun w' => Below w4.heap.size w4 w' ∧ w'.cell? ⟨w.heap.size, 0, none⟩ = some (.int .i64 x) ∧ w'.cell? ⟨w.heap.size, 1, none⟩ = some (.int .i64 y)) (first | exact HF.out _ (Below.refl _ w4).drew | exact HF.out _ (Below.trans (And.left (by assumption)) (Below.mono (by assumption) (Below.size (And.left (by assumption))))) | assumption)
      (first | (go_at_call 13; refine (HS.out _ (And.left (by assumption))).mono ?_; rintro e w' ⟨rfl, hb⟩) | (go_at_call 23; refine (hl1 _).mono ?_; rintro e w' ⟨rfl, rfl⟩) | (go_at_call 24; refine (hl2 _).mono ?_; rintro e w' ⟨rfl, rfl⟩))
    all_goals go_wp2_with fail
    refine (HSO.out _ (And.left (by assumption))).mono ?_
    rintro e w6 ⟨p6, c6, p7, c7, ons, lts, rfl, i6, i7, m6, m7, hb6⟩
    have HB46 := Lib.hid (show Below w4.heap.size w4 w6 from Below.trans (And.left (by assumption)) (hb6.mono (Below.size (And.left (by assumption)))))
    have HI6 := Lib.hid (And.intro i6 (And.intro i7 (And.intro m6 m7)))
    clear i6 i7 m6 m7 hb6
    go_wp2_with fail
    refine (HSR.out _ HB46.out).mono ?_
    rintro e w7 ⟨p8, c8, p9, c9, ons2, lts2, rfl, i8, i9, m8, m9, hb7⟩
    have HB47 := Lib.hid (HB46.out.trans (hb7.mono HB46.out.size))
    have HA := Lib.hid (sameEvs_any p6 p8 ons ons2 c6 c8 (HI6.out.2.2.1.trans m8.symm) (by have := congrArg List.length HI6.out.2.2.1; simp at this; omega) w7 (HI6.out.1.belowV hb7) i8)
    have HC := Lib.hid fun W (h : Below w7.heap.size w7 W) => sameEvs_any p7 p9 lts lts2 c7 c9 (HI6.out.2.2.2.trans m9.symm) (by have := congrArg List.length HI6.out.2.2.2; simp at this; omega) W ((HI6.out.2.1.belowV hb7).belowV h) (i9.belowV h)
    clear i8 i9 m8 m9 hb7
    go_wp2_with fail
    refine HA.out.mono ?_
    rintro e w8 ⟨rfl, hb8⟩
    have HB8 := Lib.hid hb8
    clear hb8
    go_wp2_with fail
    refine (HC.out _ HB8.out).mono ?_
    rintro e w9 ⟨rfl, hb9⟩
    have HB9 := Lib.hid (HBX.out _ ((HB47.out.trans (HB8.out.mono HB47.out.size)).trans (hb9.mono (Nat.le_trans HB47.out.size HB8.out.size))))
    clear hb9
    go_wp2_with fail
    refine (HW.out _).mono ?_
    rintro e w10 ⟨rfl, hb10⟩
    have HB10 := Lib.hid (HB9.out.trans (hb10.mono HB9.out.size))
    clear hb10
    go_wp2_with fail
    go_ret
    exact ⟨rfl, HB10.out⟩

set_option maxRecDepth 100000 in
theorem lifted (os : Os) (started : os.Started) (H : Type) (enc : TypeId × Value → H) :
    ReturnsInHanded {} Try.checked os 5 .any (Rows.markSortsSpec.pre6 enc Try.prog Try.f5 Rows.markSortsRow.domain false) (Rows.markSortsSpec.post enc Try.prog Try.f5 false true false false) := by
  refine returnsInHanded_of_change (C := Try.checked) own started (by kernel_rfl) Try.func5
    (ChangeSpec.witness6 (enc := enc) (C := Try.checked) false ⟨#[], #[.int .i64 0, .slice none 0 0, .slice none 0 0, .agg #[.int .i64 0, .int .i64 0]], []⟩ 8 (by kernel_rfl) (by kernel_rfl) (by kernel_rfl) (by kernel_rfl)) ?_
  intro W base args ds gs before hval0 hW hcnd _
  have hval : ∀ (j : Nat) t v, Try.f5.params[j]? = some t → args[j]? = some v → Value.okWide Try.prog W .any base t v := hval0
  have hW' := hW
  obtain ⟨p, q, hA0, hV, rfl, hfz, hnd⟩ := hW
  have hA : DataW.TrodAll enc Try.prog W 0 (fun _ => true) true Try.f5.params.toList args.toList ds p := hA0
  rw [Try.params5] at hA hval
  obtain ⟨rfl, rfl⟩ := trodVars_none hV
  have hA' := hA
  obtain ⟨v0, vs0, d0, ds0, p0, q0, hargs, rfl, rfl, h0, r0⟩ := trodAll_cons hA
  obtain ⟨v1, vs1, d1, ds1, p1, q1, rfl, rfl, rfl, h1, r1⟩ := trodAll_cons r0
  obtain ⟨v2, vs2, d2, ds2, p2, q2, rfl, rfl, rfl, h2, r2⟩ := trodAll_cons r1
  obtain ⟨v3, vs3, d3, ds3, p3, q3, rfl, rfl, rfl, h3, r3⟩ := trodAll_cons r2
  obtain ⟨rfl, rfl, rfl⟩ := trodAll_nil r3
  obtain rfl : args = #[v0, v1, v2, v3] := by cases args; simp_all
  obtain ⟨n, rfl⟩ := okWide_int Try.underlying3 (hval 0 _ v0 rfl rfl)
  obtain ⟨a1, l1, c1, rfl, hlm1, hX1⟩ := open_times (hval 1 _ v1 rfl rfl) h1
  obtain ⟨a2, l2, c2, rfl, hlm2, hX2⟩ := open_evs (hval 2 _ v2 rfl rfl) h2
  obtain ⟨x, y, rfl⟩ := open_two (hval 3 _ v3 rfl rfl)
  clear hA0 hval0
  refine (walk n x y a1 a2 l1 l2 c1 c2 hlm2 W hX1 hX2).mono fun e W' ⟨he, hg⟩ => ?_
  subst he
  exact ⟨_, rfl, _, _, _, [], _, [], hW', trodAll_mk1 (shut_bool Try.underlying4 true), trodAll_below laidOut hg (by decide +kernel) hA' (fun x hx => by simpa using hW'.lt x (by simpa using hx)), rfl, hg.frame _, fun h => by cases h⟩

theorem over : Rows.markSortsRow.holds Try.pinned (OpenSpec.ofChange Rows.markSortsSpec) :=
  OpenClaim.holds_of_wide 5 Try.f5 rfl rfl rfl rfl rfl rfl rfl ⟨rfl, rfl, rfl, rfl, rfl⟩ rfl rfl rfl rfl rfl (by kernel_rfl) Try.func5 (by kernel_rfl)
    (of_decide_eq_true (by kernel_rfl)) (by unfold Func.isWrapper; first | (rw [if_pos (by decide +kernel)]; kernel_rfl) | (rw [if_neg (by decide +kernel)]; exact ⟨rfl, rfl⟩))
    (fun os started H enc _ => lifted os started H enc)

theorem proved : Rows.MarkSortsSaid :=
  over
#print axioms proved
end Go.Proofs.Ytmnbcofonhlplaa.markSorts
