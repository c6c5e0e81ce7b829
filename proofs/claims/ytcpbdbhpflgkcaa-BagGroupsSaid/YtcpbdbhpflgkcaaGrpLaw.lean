/-
  PROVED HERE: for every three bags (any items at all) the law BagGroups returns true: Sum of package bag is associative wherever it gives no error. Its arguments read afterwards as before.
-/
import Derived.Test.YtcpbdbhpflgkcaaRows
import Derived.Test.YtcpbdbhpflgkcaaOpenB
import Derived.Test.YtcpbdbhpflgkcaaWake
namespace Go.Proofs.Ytcpbdbhpflgkcaa.bagGroups
open Go.ChangeShapes Go.WideShapes Go.ChangeAt Go.RowKit
set_option linter.unusedVariables false

abbrev add (x y : Int) : Int := x + y
theorem comb_assoc {a b c : List It} (ha : Asc a) (hb : Asc b) (hc : Asc c) : comb (fun x y => x + y) (comb (fun x y => x + y) a b) c = comb (fun x y => x + y) a (comb (fun x y => x + y) b c) :=
  bag_ext (comb_asc _ (comb_asc _ ha hb) hc) (comb_asc _ ha (comb_asc _ hb hc)) fun r => by
    rw [comb_cnt (by simp) (comb_asc _ ha hb) hc, comb_cnt (by simp) ha hb, comb_cnt (by simp) ha (comb_asc _ hb hc), comb_cnt (by simp) hb hc]; omega
theorem combErr_zero {f : Int → Int → Int} {a b : List It} (h : combErr f a b = 0) : validBag a = true ∧ validBag b = true ∧ validBag (comb f a b) = true ∧ combVal f a b = comb f a b := by
  unfold combErr at h
  unfold combVal
  by_cases hv : validBag a = true ∧ validBag b = true
  · rw [if_pos hv] at h ⊢
    unfold toldErr at h
    unfold toldVal
    by_cases hc : validBag (comb f a b) = true
    · rw [if_pos hc]; exact ⟨hv.1, hv.2, hc, rfl⟩
    · rw [if_neg hc] at h; exact absurd h (by decide)
  · rw [if_neg hv] at h; exact absurd h (by decide)
theorem both_ways {a b c : List It} (h1 : combErr (fun x y => x + y) a b = 0) (h2 : combErr (fun x y => x + y) b c = 0) :
    combErr (fun x y => x + y) (combVal (fun x y => x + y) a b) c = combErr (fun x y => x + y) a (combVal (fun x y => x + y) b c) ∧ combVal (fun x y => x + y) (combVal (fun x y => x + y) a b) c = combVal (fun x y => x + y) a (combVal (fun x y => x + y) b c) := by
  obtain ⟨va, vb, vab, e1⟩ := combErr_zero h1
  obtain ⟨_, vc, vbc, e2⟩ := combErr_zero h2
  have e := comb_assoc (asc_of_valid va) (asc_of_valid vb) (asc_of_valid vc)
  rw [e1, e2]
  unfold combErr combVal
  rw [if_pos ⟨vab, vc⟩, if_pos ⟨va, vbc⟩, if_pos ⟨vab, vc⟩, if_pos ⟨va, vbc⟩, e]
  exact ⟨rfl, rfl⟩

set_option maxRecDepth 100000 in
set_option maxHeartbeats 4000000 in
theorem walk (x y z : BagV) (w : World) (hX : BagOK w x) (hY : BagOK w y) (hZ : BagOK w z) :
    Calls Try.prog 5 #[bagv x, bagv y, bagv z] w fun e w' => e = .returned (.bool true) ∧ Below w.heap.size w w' := by
  have hbA : Below w.heap.size w (w.alloc (.cells #[bagv x, bagv y, bagv z] 23)) := (Below.refl _ _).alloc (Nat.le_refl _) _
  have hfew := Few_any w.heap.size [x, y, z] (by simp) (w.alloc (.cells #[bagv x, bagv y, bagv z] 23)) (by simp) (fun i hi => by
    have hb := Blk.new w 23 #[bagv x, bagv y, bagv z]
    have hi3 : i = 0 ∨ i = 1 ∨ i = 2 := by simp at hi; omega
    rcases hi3 with rfl | rfl | rfl
    · exact hb.cell 0
    · exact hb.cell 1
    · exact hb.cell 2) (fun b hb => by
    simp only [List.mem_cons, List.not_mem_nil, or_false] at hb
    rcases hb with rfl | rfl | rfl
    · exact hX.belowV hbA
    · exact hY.belowV hbA
    · exact hZ.belowV hbA)
  have HF := Lib.hid hfew
  have HXYZ := Lib.hid (And.intro hX (And.intro hY hZ))
  clear hfew hX hY hZ
  obtain ⟨p, rs, c⟩ := x
  obtain ⟨q, ss, d⟩ := y
  obtain ⟨s, ts, f⟩ := z
  dsimp only [bagv] at *
  have HW := Lib.hid awake_any
  go_enter Try.func5, Try.ntmps5
  go_wp2_with fail
  refine HF.out.mono ?_
  rintro e w1 ⟨he, hb1⟩
  have hB1 : Below w.heap.size w w1 := hbA.trans (hb1.mono hbA.size)
  clear hb1 hbA
  rcases he with rfl | ⟨rfl, h60⟩
  · go_wp2_with fail
    refine (HW.out _).mono ?_
    rintro e w2 ⟨rfl, hb2⟩
    go_wp2_with fail
    go_ret
    exact ⟨rfl, hB1.trans (hb2.mono hB1.size)⟩
  · have hx6 : rs.length ≤ 60 := h60 (p, rs, c) (by simp)
    have hy6 : ss.length ≤ 60 := h60 (q, ss, d) (by simp)
    have hz6 : ts.length ≤ 60 := h60 (s, ts, f) (by simp)
    obtain ⟨⟨_, hx7, hx8⟩, ⟨_, hy7, hy8⟩, ⟨_, hz7, hz8⟩⟩ := HXYZ.out
    dsimp only at hx7 hx8 hy7 hy8 hz7 hz8
    have s1 := fun W (h : Below w.heap.size w W) => Sum_any p q rs ss c d (by omega) (by omega) hx7 hy7 W (hx8.belowV h) (hy8.belowV h)
    have s2 := fun W (h : Below w.heap.size w W) => Sum_any q s ss ts d f (by omega) (by omega) hy7 hz7 W (hy8.belowV h) (hz8.belowV h)
    have s3 := fun W (h : Below w.heap.size w W) (p1 : Option Addr) (r1 : List ItR) (c1 : Nat) (hl : r1.length ≤ 100000) (hc : r1.length ≤ c1) (hi : ItemsIn W p1 r1) => Sum_any p1 s r1 ts c1 f hl (by omega) hc hz7 W hi (hz8.belowV h)
    have s4 := fun W (h : Below w.heap.size w W) (p1 : Option Addr) (r1 : List ItR) (c1 : Nat) (hl : r1.length ≤ 100000) (hc : r1.length ≤ c1) (hi : ItemsIn W p1 r1) => Sum_any p p1 rs r1 c c1 (by omega) hl hx7 hc W (hx8.belowV h) hi
    have hbw := @both_ways (vals rs) (vals ss) (vals ts)
    have l1 := combVal_len (fun x y => x + y) (vals rs) (vals ss)
    have l2 := combVal_len (fun x y => x + y) (vals ss) (vals ts)
    generalize combErr (fun x y => x + y) (vals rs) (vals ss) = e1 at s1 hbw
    generalize combErr (fun x y => x + y) (vals ss) (vals ts) = e2 at s2 hbw
    generalize combVal (fun x y => x + y) (vals rs) (vals ss) = v1 at s1 hbw l1
    generalize combVal (fun x y => x + y) (vals ss) (vals ts) = v2 at s2 hbw l2
    have S1 := Lib.hid s1
    have S2 := Lib.hid s2
    have S3 := Lib.hid s3
    have S4 := Lib.hid s4
    have HBW := Lib.hid hbw
    clear s1 s2 s3 s4 hbw hx8 hy8 hz8 HXYZ HF h60
    go_wp2_with fail
    refine (S1.out _ hB1).mono ?_
    rintro e w2 ⟨p1, r1, c1, rfl, h1v, h1c, _, h1i, hb2⟩
    have hB2 : Below w.heap.size w w2 := hB1.trans (hb2.mono hB1.size)
    have hr1 : r1.length ≤ 100000 := by rw [← vals_len, h1v]; omega
    have H1 := Lib.hid (And.intro h1v h1i)
    clear hb2 h1v h1i
    go_wp2_with fail
    refine (S2.out _ hB2).mono ?_
    rintro e w3 ⟨p2, r2, c2, rfl, h2v, h2c, _, h2i, hb3⟩
    have hB3 : Below w.heap.size w w3 := hB2.trans (hb3.mono hB2.size)
    have hr2 : r2.length ≤ 100000 := by rw [← vals_len, h2v]; omega
    have H2 := Lib.hid (And.intro h2v h2i)
    have H1b := Lib.hid (And.intro H1.out.1 (H1.out.2.belowV hb3))
    clear hb3 h2v h2i H1
    by_cases q1 : e1 = 0
    · by_cases q2 : e2 = 0
      · have hb4 := HBW.out q1 q2
        have HB4 := Lib.hid hb4
        have f1 : (e1 != 0) = false := by rw [bne_eq_false_iff_eq]; exact q1
        have f2 : (e2 != 0) = false := by rw [bne_eq_false_iff_eq]; exact q2
        clear hb4 q1 q2
        have g3 := S3.out w3 hB3 p1 r1 c1 hr1 h1c H1b.out.2
        rw [H1b.out.1] at g3
        have G3 := Lib.hid g3
        clear g3
        go_wp2_with fail
        refine G3.out.mono ?_
        rintro e w4 ⟨p3, r3, c3, rfl, h3v, h3c, _, h3i, hb4⟩
        have hB4 : Below w.heap.size w w4 := hB3.trans (hb4.mono hB3.size)
        have g4 := S4.out w4 hB4 p2 r2 c2 hr2 h2c (H2.out.2.belowV hb4)
        rw [H2.out.1, ← HB4.out.1, ← HB4.out.2] at g4
        have G4 := Lib.hid g4
        have H3 := Lib.hid (And.intro h3v h3i)
        clear g4 h3v h3i hb4
        generalize combErr (fun x y => x + y) v1 (vals ts) = e3 at *
        go_wp2_with fail
        refine G4.out.mono ?_
        rintro e w5 ⟨p4, r4, c4, rfl, h4v, h4c, _, h4i, hb5⟩
        have hB5 : Below w.heap.size w w5 := hB4.trans (hb5.mono hB4.size)
        have hsm := SameB_any p3 p4 r3 r4 c3 c4 (H3.out.1.trans h4v.symm) (by omega) w5 (H3.out.2.belowV hb5) h4i
        have HSM := Lib.hid hsm
        clear hsm h4v h4i hb5
        go_wp2_with fail
        refine HSM.out.mono ?_
        rintro e w6 ⟨rfl, hb6⟩
        have hB6 : Below w.heap.size w w6 := hB5.trans (hb6.mono hB5.size)
        clear hb6
        go_wp2_with fail
        refine (HW.out _).mono ?_
        rintro e w7 ⟨rfl, hb7⟩
        go_wp2_with fail
        go_ret
        exact ⟨rfl, hB6.trans (hb7.mono hB6.size)⟩
      · have f1 : (e1 != 0) = false := by rw [bne_eq_false_iff_eq]; exact q1
        have f2 : (e2 != 0) = true := by rw [bne_iff_ne]; exact q2
        clear q1 q2
        go_wp2_with fail
        refine (HW.out _).mono ?_
        rintro e w7 ⟨rfl, hb7⟩
        go_wp2_with fail
        go_ret
        exact ⟨rfl, hB3.trans (hb7.mono hB3.size)⟩
    · have f1 : (e1 != 0) = true := by rw [bne_iff_ne]; exact q1
      clear q1
      go_wp2_with fail
      refine (HW.out _).mono ?_
      rintro e w7 ⟨rfl, hb7⟩
      go_wp2_with fail
      go_ret
      exact ⟨rfl, hB3.trans (hb7.mono hB3.size)⟩

set_option maxRecDepth 100000 in
theorem lifted (os : Os) (started : os.Started) (H : Type) (enc : TypeId × Value → H) :
    ReturnsInHanded {} Try.checked os 5 .any (Rows.bagGroupsSpec.pre6 enc Try.prog Try.f5 Rows.bagGroupsRow.domain false) (Rows.bagGroupsSpec.post enc Try.prog Try.f5 false true false false) := by
  refine returnsInHanded_of_change (C := Try.checked) own started (by kernel_rfl) Try.func5
    (ChangeSpec.witness6 (enc := enc) (C := Try.checked) false ⟨#[], #[.slice none 0 0, .slice none 0 0, .slice none 0 0], []⟩ 8 (by kernel_rfl) (by kernel_rfl) (by kernel_rfl) (by kernel_rfl)) ?_
  intro W base args ds gs before hval0 hW hcnd _
  have hval : ∀ (j : Nat) t v, Try.f5.params[j]? = some t → args[j]? = some v → Value.okWide Try.prog W .any base t v := hval0
  have hW' := hW
  obtain ⟨p, q, hA0, hV, rfl, hfz, hnd⟩ := hW
  have hA : DataW.TrodAll enc Try.prog W 0 (fun _ => true) true Try.f5.params.toList args.toList ds p := hA0
  rw [Try.params5] at hA hval
  obtain ⟨rfl, rfl⟩ := trodVars_none hV
  have hA' := hA
  obtain ⟨v0, vs0, d0, ds0, p0, q0, hargs, rfl, rfl, h0, r0⟩ := trodAll_cons hA
  obtain ⟨v1, vs1, d1, ds1, p1, q1, rfl, rfl, rfl, h1, r1⟩ := trodAll_cons r0
  obtain ⟨v2, vs2, d2, ds2, p2, q2, rfl, rfl, rfl, h2, r2⟩ := trodAll_cons r1
  obtain ⟨rfl, rfl, rfl⟩ := trodAll_nil r2
  obtain rfl : args = #[v0, v1, v2] := by cases args; simp_all
  obtain ⟨x, rfl, hX⟩ := open_bag (hval 0 _ v0 rfl rfl) h0
  obtain ⟨y, rfl, hY⟩ := open_bag (hval 1 _ v1 rfl rfl) h1
  obtain ⟨z, rfl, hZ⟩ := open_bag (hval 2 _ v2 rfl rfl) h2
  clear hA0 hval0
  refine (walk x y z W hX hY hZ).mono fun e W' ⟨he, hg⟩ => ?_
  subst he
  exact ⟨_, rfl, _, _, _, [], _, [], hW', trodAll_mk1 (shut_bool Try.underlying4 true), trodAll_below laidOut hg (by decide +kernel) hA' (fun x hx => by simpa using hW'.lt x (by simpa using hx)), rfl, hg.frame _, fun h => by cases h⟩

theorem over : Rows.bagGroupsRow.holds Try.pinned (OpenSpec.ofChange Rows.bagGroupsSpec) :=
  OpenClaim.holds_of_wide 5 Try.f5 rfl rfl rfl rfl rfl rfl rfl ⟨rfl, rfl, rfl, rfl, rfl⟩ rfl rfl rfl rfl rfl (by kernel_rfl) Try.func5 (by kernel_rfl)
    (of_decide_eq_true (by kernel_rfl)) (by unfold Func.isWrapper; first | (rw [if_pos (by decide +kernel)]; kernel_rfl) | (rw [if_neg (by decide +kernel)]; exact ⟨rfl, rfl⟩))
    (fun os started H enc _ => lifted os started H enc)

theorem proved : Rows.BagGroupsSaid :=
  over
#print axioms proved
end Go.Proofs.Ytcpbdbhpflgkcaa.bagGroups
