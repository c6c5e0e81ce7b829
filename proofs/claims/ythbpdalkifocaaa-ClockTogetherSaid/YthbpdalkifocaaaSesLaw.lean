/-
  PROVED HERE: for every gap, every list of times and every time (numbers of 64 bits) the law ClockSessions returns true: Sessions and Session of package clock answer as the document's own. Its arguments read afterwards as before. No condition.
-/
import Derived.Test.YthbpdalkifocaaaRows
import Derived.Test.YthbpdalkifocaaaRefSession
namespace Go.Proofs.Ythbpdalkifocaaa.clockSessions
open Go.ChangeShapes Go.WideShapes Go.ChangeAt Go.RowKit
set_option linter.unusedVariables false

theorem short_yes (n : Nat) (h : n ≤ 500) (w : World) : Calls Try.prog 6 #[.int .i64 n] w fun e w' => e = .returned (.bool true) ∧ w = w' := by
  have h' : (n : Int) ≤ 500 := by omega
  go_enter Try.func6, Try.ntmps6
  go_wp2
  go_ret
  exact ⟨rfl, rfl⟩
theorem short_no (n : Nat) (h : 500 < n) (w : World) : Calls Try.prog 6 #[.int .i64 n] w fun e w' => e = .returned (.bool false) ∧ w = w' := by
  have h' : decide ((n : Int) ≤ 500) = false := by simp; omega
  go_enter Try.func6, Try.ntmps6
  go_wp2
  go_ret
  exact ⟨rfl, rfl⟩

set_option maxRecDepth 100000 in
theorem walk_long (g t : Int) (p : Option Addr) (n cap : Nat) (h : 500 < n) (w : World) :
    Calls Try.prog 4 #[.int .i64 g, .slice p n cap, .int .i64 t] w fun e w' => e = .returned (.bool true) ∧ Below w.heap.size w w' := by
  go_enter Try.func4, Try.ntmps4
  go_wp2_with fail
  refine (short_no n h _).mono ?_
  rintro e w' ⟨rfl, rfl⟩
  go_wp2_with fail
  refine (awake_any _).mono ?_
  rintro e w1 ⟨rfl, hb⟩
  go_wp2_with fail
  go_ret
  exact ⟨rfl, hb⟩

/-- Both Sessions leave one list, and one error. -/
theorem sess_two {g : Int} {ts : List Int} {w w1 w2 : World} {e1 e2 : Ending} (h1 : SessPost w g ts e1 w1) (hb : Below w.heap.size w w1 → SessPost w1 g ts e2 w2) :
    ∃ (v1 v2 : Value) (ys : List Win) (er : Int), e1 = .returned (.tuple #[v1, .int .i64 er]) ∧ e2 = .returned (.tuple #[v2, .int .i64 er]) ∧ RowIs w2 v1 ys ∧ RowIs w2 v2 ys ∧ Below w.heap.size w w2 := by
  rcases h1 with ⟨n1, v1, rfl, r1, b1⟩ | ⟨z1, ys, s1, c1, _, v1, rfl, r1, b1⟩
  · rcases hb b1 with ⟨_, v2, rfl, r2, b2⟩ | ⟨z2, _⟩
    · exact ⟨v1, v2, [], _, rfl, rfl, rowIs_of_owns (owns_below r1 b2), rowIs_of_owns r2, b1.trans (b2.mono b1.size)⟩
    · exact absurd z2 n1
  · rcases hb b1 with ⟨n2, _⟩ | ⟨_, zs, s2, c2, _, v2, rfl, r2, b2⟩
    · exact absurd z1 n2
    · obtain rfl : ys = zs := Sep.unique s1 s2 fun p => (c1 p).trans (c2 p).symm
      exact ⟨v1, v2, ys, 0, rfl, rfl, rowIs_of_owns (owns_below r1 b2), rowIs_of_owns r2, b1.trans (b2.mono b1.size)⟩

set_option maxRecDepth 100000 in
set_option maxHeartbeats 2000000 in
theorem walk_ok (g t : Int) (p : Option Addr) (ts : List Int) (cap : Nat) (hm : ts.length ≤ 500) (w : World) (hX : IntsIn w p ts) :
    Calls Try.prog 4 #[.int .i64 g, .slice p ts.length cap, .int .i64 t] w fun e w' => e = .returned (.bool true) ∧ Below w.heap.size w w' := by
  have HX := Lib.hid hX
  clear hX
  go_enter Try.func4, Try.ntmps4
  go_wp2_with fail
  refine (short_yes ts.length hm _).mono ?_
  rintro e w' ⟨rfl, rfl⟩
  go_wp2_with fail
  refine (clkSessions_any g p cap ts _ HX.out).mono ?_
  intro e1 w1 h1
  have H1 := Lib.hid h1
  obtain ⟨v1, er, rfl, hb1⟩ : ∃ v1 er, e1 = .returned (.tuple #[v1, .int .i64 er]) ∧ Below w.heap.size w w1 := by
    rcases h1 with ⟨_, v1, rfl, _, b1⟩ | ⟨_, ys, _, _, _, v1, rfl, _, b1⟩
    · exact ⟨v1, _, rfl, b1⟩
    · exact ⟨v1, _, rfl, b1⟩
  clear h1
  go_wp2_with fail
  refine (refSessions_any g p cap ts w1 (HX.out.belowV hb1)).mono ?_
  intro e2 w2 h2
  obtain ⟨v1', v2, ys, er', q1, q2, r1, r2, hb2⟩ := sess_two H1.out (fun _ => h2)
  simp only [Ending.returned.injEq, Value.tuple.injEq, Array.mk.injEq, List.cons.injEq, Value.int.injEq, and_true, true_and] at q1
  obtain ⟨rfl, rfl⟩ := q1
  subst q2
  clear h2 H1 hb1
  go_wp2_with fail
  refine (Same_any v1 v2 ys ys w2 r1 r2).mono ?_
  rintro e w3 ⟨rfl, hd⟩
  have hb3 := hd.below w2.heap.size
  have hB3 : Below w.heap.size w w3 := hb2.trans (hb3.mono hb2.size)
  have hX3 := Lib.hid (HX.out.belowV hB3)
  clear hd hb3 hb2 r1 r2
  have hdec : decide (ys = ys) = true := decide_eq_true rfl
  go_wp2_with fail
  refine (clkSession_any g p cap ts t w3 hX3.out).mono ?_
  rintro e w4 ⟨a, b, e4, rfl, i4, hb4⟩
  have HI4 := Lib.hid i4
  have hB4 : Below w.heap.size w w4 := hB3.trans (hb4.mono hB3.size)
  clear hdec i4
  go_wp2_with fail
  have hbA : Below w4.heap.size w4 (w4.alloc (.cells #[.int .i64 a, .int .i64 b] 31)) := (Below.refl _ _).alloc (Nat.le_refl _) _
  have hX5 := (hX3.out.belowV hb4).belowV hbA
  refine (refSession_any g p cap ts t _ hX5).mono ?_
  rintro e w5 ⟨a', b', e5, rfl, i5, hb5⟩
  obtain ⟨rfl, rfl, rfl⟩ := HI4.out.unique i5
  have k1 : Blk w5 w4.heap.size 31 #[.int .i64 a, .int .i64 b] := (hb5.block w4.heap.size (by simp)).trans (Blk.new _ _ _)
  have hz : w4.heap.size < w5.heap.size := k1.lt
  have c0 := k1.cell 0
  have c1 := k1.cell 1
  simp only [List.getElem?_toArray, List.getElem?_cons_zero, List.getElem?_cons_succ] at c0 c1
  have hB5 : Below w.heap.size w w5 := hB4.trans ((hbA.trans (hb5.mono hbA.size)).mono hB4.size)
  have hq := fun W => eqlW a b a b W
  have hne : w4.heap.size ≠ w5.heap.size := by omega
  clear i5 hb5 hb4 hbA hX5 k1 hB4
  go_wp2_with fail
  refine (awake_any _).mono ?_
  rintro e w6 ⟨rfl, hb6⟩
  go_wp2_with fail
  go_ret
  have hB6 : Below w.heap.size w (w5.alloc (.cells #[.int .i64 a, .int .i64 b] 31)) := hB5.alloc hB5.size _
  exact ⟨rfl, hB6.trans (hb6.mono hB6.size)⟩

theorem walk (g t : Int) (p : Option Addr) (ts : List Int) (cap : Nat) (w : World) (hX : IntsIn w p ts) :
    Calls Try.prog 4 #[.int .i64 g, .slice p ts.length cap, .int .i64 t] w fun e w' => e = .returned (.bool true) ∧ Below w.heap.size w w' := by
  by_cases h : 500 < ts.length
  · exact walk_long g t p _ cap h w
  · exact walk_ok g t p ts cap (by omega) w hX

set_option maxRecDepth 100000 in
theorem lifted (os : Os) (started : os.Started) (H : Type) (enc : TypeId × Value → H) :
    ReturnsInHanded {} Try.checked os 4 .any (Rows.clockSessionsSpec.pre6 enc Try.prog Try.f4 Rows.clockSessionsRow.domain false) (Rows.clockSessionsSpec.post enc Try.prog Try.f4 false true false false) := by
  refine returnsInHanded_of_change (C := Try.checked) own started (by kernel_rfl) Try.func4
    (ChangeSpec.witness6 (enc := enc) (C := Try.checked) false ⟨#[], #[.int .i64 0, .slice none 0 0, .int .i64 0], []⟩ 8 (by kernel_rfl) (by kernel_rfl) (by kernel_rfl) (by kernel_rfl)) ?_
  intro W base args ds gs before hval0 hW hcnd _
  have hval : ∀ (j : Nat) t v, Try.f4.params[j]? = some t → args[j]? = some v → Value.okWide Try.prog W .any base t v := hval0
  have hW' := hW
  obtain ⟨p, q, hA0, hV, rfl, hfz, hnd⟩ := hW
  have hA : DataW.TrodAll enc Try.prog W 0 (fun _ => true) true Try.f4.params.toList args.toList ds p := hA0
  rw [Try.params4] at hA hval
  obtain ⟨rfl, rfl⟩ := trodVars_none hV
  have hA' := hA
  obtain ⟨v0, vs0, d0, ds0, p0, q0, hargs, rfl, rfl, h0, r0⟩ := trodAll_cons hA
  obtain ⟨v1, vs1, d1, ds1, p1, q1, rfl, rfl, rfl, h1, r1⟩ := trodAll_cons r0
  obtain ⟨v2, vs2, d2, ds2, p2, q2, rfl, rfl, rfl, h2, r2⟩ := trodAll_cons r1
  obtain ⟨rfl, rfl, rfl⟩ := trodAll_nil r2
  obtain rfl : args = #[v0, v1, v2] := by cases args; simp_all
  obtain ⟨g, rfl⟩ := okWide_int Try.underlying3 (hval 0 3 v0 rfl rfl)
  obtain ⟨a1, ts, c1, rfl, hm1, hP⟩ := open_times (hval 1 _ v1 rfl rfl) h1
  obtain ⟨t, rfl⟩ := okWide_int Try.underlying3 (hval 2 3 v2 rfl rfl)
  clear hA0 hval0
  refine (walk g t a1 ts c1 W hP).mono fun e W' ⟨he, hg⟩ => ?_
  subst he
  exact ⟨_, rfl, _, _, _, [], _, [], hW', trodAll_mk1 (shut_bool Try.underlying4 true), trodAll_below laidOut hg (by decide +kernel) hA' (fun x hx => by simpa using hW'.lt x (by simpa using hx)), rfl, hg.frame _, fun h => by cases h⟩

theorem over : Rows.clockSessionsRow.holds Try.pinned (OpenSpec.ofChange Rows.clockSessionsSpec) :=
  OpenClaim.holds_of_wide 4 Try.f4 rfl rfl rfl rfl rfl rfl rfl ⟨rfl, rfl, rfl, rfl, rfl⟩ rfl rfl rfl rfl rfl (by kernel_rfl) Try.func4 (by kernel_rfl)
    (of_decide_eq_true (by kernel_rfl)) (by unfold Func.isWrapper; first | (rw [if_pos (by decide +kernel)]; kernel_rfl) | (rw [if_neg (by decide +kernel)]; exact ⟨rfl, rfl⟩))
    (fun os started H enc _ => lifted os started H enc)

theorem proved : Rows.ClockSessionsSaid :=
  over
end Go.Proofs.Ythbpdalkifocaaa.clockSessions
