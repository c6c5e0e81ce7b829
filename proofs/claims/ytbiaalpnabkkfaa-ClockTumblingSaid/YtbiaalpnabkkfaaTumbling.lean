/-
  PROVED HERE: for every size, shift and time (whole numbers of 64 bits) the law ClockTumbling returns true: clock.Windows answers the same list and the same error for a tumbling spec and for the sliding one whose step is its size; its arguments read afterwards as before. No condition.
-/
import Derived.Test.YtbiaalpnabkkfaaRows
import Derived.Test.YtbiaalpnabkkfaaAwake
import Derived.Test.YtbiaalpnabkkfaaLift
namespace Go.Proofs.Ytbiaalpnabkkfaa.clockTumbling
open Go.ChangeShapes Go.WideShapes Go.ChangeAt Go.RowKit
set_option linter.unusedVariables false

theorem same_spec (sz sh : Int) : specOK 1 sz 0 0 sh = specOK 2 sz sz 0 sh := by
  rw [Bool.eq_iff_iff, specOK_iff, specOK_iff]; unfold specP; omega
theorem same_err (sz sh t : Int) : windowsErr 1 sz 0 0 sh t = windowsErr 2 sz sz 0 sh t := by
  unfold windowsErr; rw [same_spec]
theorem same_list (sz sh t : Int) : windowsOf 1 sz 0 0 sh t = windowsOf 2 sz sz 0 sh t := by
  unfold windowsOf; rw [same_err]; rfl

theorem walk (a0 : Int) (a1 : Int) (a2 : Int) (w0 : (Lit.int .i64 a0).wf = true) (w1 : (Lit.int .i64 a1).wf = true) (w2 : (Lit.int .i64 a2).wf = true) (w : World) :
    Calls Try.prog 5 #[.int .i64 a0, .int .i64 a1, .int .i64 a2] w fun e w' => e = .returned (.bool true) ∧ Below w.heap.size w w' := by
  have h1 := fun W => Windows_any 1 a0 0 0 a1 a2 W
  have h2 := fun W => Windows_any 2 a0 a0 0 a1 a2 W
  rw [same_err, same_list] at h1
  have H1 := Lib.hid h1
  have H2 := Lib.hid h2
  clear h1 h2
  generalize windowsErr 2 a0 a0 0 a1 a2 = er at *
  generalize windowsOf 2 a0 a0 0 a1 a2 = xs at *
  go_enter Try.func5, Try.ntmps5
  go_wp2_with fail
  refine (H1.out _).mono ?_
  rintro e u1 ⟨v1, rfl, hr1, hb1⟩
  go_wp2_with fail
  refine (H2.out _).mono ?_
  rintro e u2 ⟨v2, rfl, hr2, hb2⟩
  go_wp2_with fail
  have hr1' := owns_below hr1 hb2
  refine (Same_any v1 v2 xs xs u2 (rowIs_of_owns hr1') (rowIs_of_owns hr2)).mono ?_
  rintro e u3 ⟨rfl, hd⟩
  have hb3 := hd.below u2.heap.size
  clear hd
  go_wp2_with fail
  refine (awake_any u3).mono ?_
  rintro e u4 ⟨rfl, hb4⟩
  go_wp2_with fail
  go_ret
  refine ⟨rfl, ?_⟩
  have s1 := hb1.size
  have s2 := hb2.size
  have s3 := hb3.size
  exact hb1.trans ((hb2.mono (by omega)).trans ((hb3.mono (by omega)).trans (hb4.mono (by omega))))

set_option maxRecDepth 100000 in
theorem lifted (os : Os) (started : os.Started) (H : Type) (enc : TypeId × Value → H) :
    ReturnsInHanded {} Try.checked os 5 .any (Rows.clockTumblingSpec.pre6 enc Try.prog Try.f5 Rows.clockTumblingRow.domain false) (Rows.clockTumblingSpec.post enc Try.prog Try.f5 false true false false) := by
  refine returnsInHanded_of_change (C := Try.checked) own started (by kernel_rfl) Try.func5
    (ChangeSpec.witness6 (enc := enc) (C := Try.checked) false ⟨#[], #[.int .i64 0, .int .i64 0, .int .i64 0], []⟩ 8 (by kernel_rfl) (by kernel_rfl) (by kernel_rfl) (by kernel_rfl)) ?_
  intro W base args ds gs before hval0 hW hcnd _
  have hval : ∀ (j : Nat) t v, Try.f5.params[j]? = some t → args[j]? = some v → Value.okWide Try.prog W .any base t v := hval0
  have hW' := hW
  obtain ⟨p, q, hA0, hV, rfl, hfz, hnd⟩ := hW
  have hA : DataW.TrodAll enc Try.prog W 0 (fun _ => true) true Try.f5.params.toList args.toList ds p := hA0
  rw [Try.params5] at hA hval
  obtain ⟨v0, vs0, d0, ds0, p0, q0, hargs, rfl, rfl, h0, r0⟩ := trodAll_cons hA
  obtain ⟨v1, vs1, d1, ds1, p1, q1, rfl, rfl, rfl, h1, r1⟩ := trodAll_cons r0
  obtain ⟨v2, vs2, d2, ds2, p2, q2, rfl, rfl, rfl, h2, r2⟩ := trodAll_cons r1
  obtain ⟨rfl, rfl, rfl⟩ := trodAll_nil r2
  obtain rfl : args = #[v0, v1, v2] := by cases args; simp_all
  obtain ⟨rfl, rfl⟩ := trodVars_none hV
  obtain ⟨a0, rfl, rfl, rfl, w0⟩ := open_int Try.underlying3 (hval 0 3 v0 rfl rfl) h0
  obtain ⟨a1, rfl, rfl, rfl, w1⟩ := open_int Try.underlying3 (hval 1 3 v1 rfl rfl) h1
  obtain ⟨a2, rfl, rfl, rfl, w2⟩ := open_int Try.underlying3 (hval 2 3 v2 rfl rfl) h2
  clear hA0 hval0
  simp only [List.append_nil] at hW'
  refine (walk a0 a1 a2 w0 w1 w2 W).mono fun e W' ⟨he, hg⟩ => ?_
  subst he
  exact ⟨_, rfl, _, _, _, [], _, [], hW', trodAll_mk1 (shut_bool Try.underlying4 true), trodAll_below laidOut hg (by decide +kernel) hA (fun x hx => by simp at hx), rfl, hg.frame _, fun h => by cases h⟩

theorem over : Rows.clockTumblingRow.holds Try.pinned (OpenSpec.ofChange Rows.clockTumblingSpec) :=
  OpenClaim.holds_of_wide 5 Try.f5 rfl rfl rfl rfl rfl rfl rfl ⟨rfl, rfl, rfl, rfl, rfl⟩ rfl rfl rfl rfl rfl (by kernel_rfl) Try.func5 (by kernel_rfl)
    (of_decide_eq_true (by kernel_rfl)) (by unfold Func.isWrapper; first | (rw [if_pos (by decide +kernel)]; kernel_rfl) | (rw [if_neg (by decide +kernel)]; exact ⟨rfl, rfl⟩))
    (fun os started H enc _ => lifted os started H enc)

theorem proved : Rows.ClockTumblingSaid :=
  over
end Go.Proofs.Ytbiaalpnabkkfaa.clockTumbling
