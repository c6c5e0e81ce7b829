/-
  PROVED HERE: for every number of inputs and every list of calls the law MarkMeets returns true: NewMeet and all methods of a meet of package mark answer as the document's own, in whatever order they are called, and its mark never goes back. Its arguments read afterwards as before.
-/
import Derived.Test.YtmnbcofonhlplaaDoN
import Derived.Test.YtmnbcofonhlplaaTu
import Derived.Test.YtmnbcofonhlplaaRows
namespace Go.Proofs.Ytmnbcofonhlplaa.markMeets
open Go.ChangeShapes Go.WideShapes Go.ChangeAt Go.RowKit Go.Deep Go.Lib
set_option linter.unusedSimpArgs false

set_option maxRecDepth 100000 in
set_option maxHeartbeats 4000000 in
theorem walk (n : Int) (p : Option Addr) (l : List TurnR) (c : Nat) (w : World) (hX : TurnsIn w p l) :
    Calls Try.prog 3 #[.int .i64 n, .slice p l.length c] w fun e w' => e = .returned (.bool true) ∧ Below w.heap.size w w' := by
  have HW := Lib.hid awake6_any
  by_cases h3 : 300 < l.length
  · have h3' : (300 : Int) < (l.length : Int) := by omega
    clear h3 hX
    go_enter Try.func3, Try.ntmps3
    go_wp2_with fail
    refine (HW.out _).mono ?_
    rintro e w1 ⟨rfl, hb1⟩
    have HB1 := Lib.hid hb1
    clear hb1
    go_wp2_with fail
    go_ret
    exact ⟨rfl, HB1.out⟩
  have h3' : (l.length : Int) ≤ (300 : Int) := by omega
  have HX := Lib.hid hX
  clear hX
  cases hn : inR n 1 8 with
  | false =>
    have HN := Lib.hid fun W => mkNew_bad n hn W
    have HR := Lib.hid fun W => rkNew_bad n hn W
    clear h3 hn
    go_enter Try.func3, Try.ntmps3
    go_wp2_with fail
    refine (HN.out _).mono ?_
    rintro e w1 ⟨rfl, rfl⟩
    go_wp2_with fail
    refine (HR.out _).mono ?_
    rintro e w1 ⟨rfl, rfl⟩
    go_wp2_with fail
    go_loopw [9] (fun s wr => ∃ (i : Nat), s = .int .i64 i ∧ i ≤ l.length ∧ Hid (Below w.heap.size w wr)) (fun s _ => l.length - (RowKit.intOf s).toNat)
    case atStart => exact ⟨0, rfl, Nat.zero_le _, Below.refl _ _⟩
    case round =>
      obtain ⟨i, rfl, hin, HB⟩ := hrel
      by_cases hlt : i < l.length
      · obtain ⟨bk, off, rfl, hbk, hra⟩ := HX.out (by omega)
        obtain ⟨c0, c1, c2⟩ := hra i hlt
        have d0 := (HB.out.cell (p := ⟨bk, off + i * 3, none⟩) hbk).trans c0
        have d1 := (HB.out.cell (p := ⟨bk, off + i * 3 + 1, none⟩) hbk).trans c1
        have d2 := (HB.out.cell (p := ⟨bk, off + i * 3 + 2, none⟩) hbk).trans c2
        have hi0 : (0 : Int) ≤ (i : Int) := by omega
        have hi1 : (i : Int) < (l.length : Int) := by omega
        have HC1 := Lib.hid fun W (h : Below w.heap.size w W) => (h.cell (p := ⟨bk, off + i * 3 + 1, none⟩) hbk).trans c1
        have HLT := Lib.hid hlt
        clear hra c0 c1 c2
        generalize l[i]?.getD tu0 = t at d0 d1 d2 HC1
        obtain ⟨kd, j, m⟩ := t
        dsimp only at d0 d1 d2 HC1
        go_wp2_with fail
        refine (mkMark_nil _).mono ?_
        rintro e w1 ⟨rfl, rfl⟩
        go_wp2_with fail
        refine (do_nil kd j m _).mono ?_
        rintro e w2 ⟨rfl, hb2⟩
        have HB2 := Lib.hid (HB.out.trans (hb2.mono HB.out.size))
        clear hb2 d0 d1 d2
        go_wp2_with fail
        refine (mkMark_nil _).mono ?_
        rintro e w3 ⟨rfl, rfl⟩
        go_wp2_with fail
        refine (rkMark_nil _).mono ?_
        rintro e w3 ⟨rfl, rfl⟩
        go_wp2_with fail
        refine (mkMark_nil _).mono ?_
        rintro e w3 ⟨rfl, rfl⟩
        go_wp2_with fail
        refine (mkInputs_nil _).mono ?_
        rintro e w3 ⟨rfl, rfl⟩
        go_wp2_with fail
        refine (rkInputs_nil _).mono ?_
        rintro e w3 ⟨rfl, rfl⟩
        have HS := Lib.hid (sameInts_any none none [] 0 0 (by simp) w2 (fun h => absurd h (by simp)) (fun h => absurd h (by simp)))
        go_wp2_with fail
        refine HS.out.mono ?_
        rintro e w4 ⟨rfl, hb4⟩
        have HB4 := Lib.hid (HB2.out.trans (hb4.mono HB2.out.size))
        clear hb4
        have d1 := HC1.out w4 HB4.out
        have n1 := fun W => mkIsIdle_nil j W
        have n2 := fun W => rkIsIdle_nil j W
        go_wp2_with fail
        go_quiet (first | (go_at_call 16; exact quiet_eq (n1 _)) | (go_at_call 17; exact quiet_eq (n2 _)))
        go_wp2_with fail
        go_roundw
        case rel => exact ⟨i + 1, by go_num, by have := HLT.out; omega, below_drewN HB4.out _⟩
        case measure => have := HLT.out; simp [RowKit.intOf]; omega
      · have hge : l.length ≤ i := by omega
        go_wp2_with fail
        refine (HW.out _).mono ?_
        rintro e w2 ⟨rfl, hb2⟩
        have HB2 := Lib.hid (HB.out.trans (hb2.mono HB.out.size))
        clear hb2
        go_wp2_with fail
        go_ret
        exact ⟨rfl, HB2.out⟩
  | true =>
    have hnr := inR_iff.1 hn
    obtain ⟨k, rfl⟩ : ∃ k : Nat, n = (k : Int) := Int.eq_ofNat_of_zero_le (by omega)
    have HN := Lib.hid fun W => mkNew_ok k (by omega) (by omega) W
    have HR := Lib.hid fun W => rkNew_ok k (by omega) (by omega) W
    clear h3 hn hnr
    go_enter Try.func3, Try.ntmps3
    go_wp2_with fail
    refine (HN.out _).mono ?_
    rintro e w1 ⟨B, I, rfl, hM1, hb1⟩
    have HM1 := Lib.hid hM1
    have HB1 := Lib.hid hb1
    clear hM1 hb1 HN
    go_wp2_with fail
    refine (HR.out _).mono ?_
    rintro e w2 ⟨B', g, c', rfl, hM2, hb2⟩
    have HM2 := Lib.hid (show Both w2 w.heap.size B I B' g c' (List.replicate k in0) (-1000000000000) from ⟨HM1.out.belowV hb2, hM2.base HB1.out.size⟩)
    have HB2 := Lib.hid (HB1.out.trans (hb2.mono HB1.out.size))
    clear hM2 hb2 HR HM1 HB1
    go_wp2_with fail
    go_loopw [9] (fun s wr => ∃ (i : Nat) (xs : List Inp) (a : Int), s = .int .i64 i ∧ i ≤ l.length ∧ Hid (Both wr w.heap.size B I B' g c' xs a) ∧ Hid (Below w.heap.size w wr)) (fun s _ => l.length - (RowKit.intOf s).toNat)
    case atStart => exact ⟨0, _, _, rfl, Nat.zero_le _, HM2.out, HB2.out⟩
    case round =>
      clear HM2 HB2
      obtain ⟨i, xs, a, rfl, hin, HM, HB⟩ := hrel
      by_cases hlt : i < l.length
      · obtain ⟨bk, off, rfl, hbk, hra⟩ := HX.out (by omega)
        obtain ⟨c0, c1, c2⟩ := hra i hlt
        have d0 := (HB.out.cell (p := ⟨bk, off + i * 3, none⟩) hbk).trans c0
        have d1 := (HB.out.cell (p := ⟨bk, off + i * 3 + 1, none⟩) hbk).trans c1
        have d2 := (HB.out.cell (p := ⟨bk, off + i * 3 + 2, none⟩) hbk).trans c2
        have hi0 : (0 : Int) ≤ (i : Int) := by omega
        have hi1 : (i : Int) < (l.length : Int) := by omega
        have HC1 := Lib.hid fun W (h : Below w.heap.size w W) => (h.cell (p := ⟨bk, off + i * 3 + 1, none⟩) hbk).trans c1
        have HLT := Lib.hid hlt
        clear hra c0 c1 c2
        generalize l[i]?.getD tu0 = t at d0 d1 d2 HC1
        obtain ⟨kd, j, m⟩ := t
        dsimp only at d0 d1 d2 HC1
        have HD := Lib.hid (do_any kd j m wr HB.out.size HM.out)
        have hup := turn_up kd j m xs a
        unfold DoPost at HD
        generalize turnXs kd j m xs = ys at HD
        generalize turnAt kd j m xs a = b at HD hup
        have hdn : decide (b < a) = false := decide_eq_false (by omega)
        have hbb : (b != b) = false := by simp
        clear hup
        go_wp2_with fail
        refine (mkMark_any wr HM.out.1).mono ?_
        rintro e w1 ⟨rfl, rfl⟩
        go_wp2_with fail
        refine HD.out.mono ?_
        rintro e w2 ⟨rfl, hm2, hb2⟩
        have HM2 := Lib.hid hm2
        have HB2 := Lib.hid (HB.out.trans hb2)
        clear hb2 hm2 d0 d1 d2 HM HB HD
        go_wp2_with fail
        refine (mkMark_any w2 HM2.out.1).mono ?_
        rintro e w3 ⟨rfl, rfl⟩
        go_wp2_with fail
        refine (rkMark_any w2 HM2.out.2).mono ?_
        rintro e w3 ⟨rfl, rfl⟩
        go_wp2_with fail
        refine (mkMark_any w2 HM2.out.1).mono ?_
        rintro e w3 ⟨rfl, rfl⟩
        go_wp2_with fail
        refine (mkInputs_any w2 HM2.out.1).mono ?_
        rintro e w3 ⟨q1, s1, rfl, hi3, hb3⟩
        have HM3 := Lib.hid (HM2.out.belowV hb3)
        have HB3 := Lib.hid (HB2.out.trans (hb3.mono HB2.out.size))
        have HI3 := Lib.hid hi3
        clear hi3 hb3 HM2 HB2
        go_wp2_with fail
        refine (rkInputs_any w3 HM3.out.2).mono ?_
        rintro e w4 ⟨q2, s2, rfl, hi4, hb4⟩
        have HM4 := Lib.hid (HM3.out.belowV hb4)
        have HB4 := Lib.hid (HB3.out.trans (hb4.mono HB3.out.size))
        have HS := Lib.hid (sameInts_any q1 q2 (marksM ys) s1 s2 (by have := HM3.out.1.len; simp [marksM]; omega) w4 (HI3.out.belowV hb4) hi4)
        clear hi4 hb4 HM3 HB3 HI3
        generalize marksM ys = ms at HS ⊢
        go_wp2_with fail
        refine HS.out.mono ?_
        rintro e w5 ⟨rfl, hb5⟩
        have HB5 := Lib.hid (HB4.out.trans (hb5.mono HB4.out.size))
        have HM5 := Lib.hid (HM4.out.belowV hb5)
        clear hb5 HM4 HB4 HS
        have d1 := HC1.out w5 HB5.out
        have HI1 := Lib.hid fun nq => mkIsIdle_any j (w5.drewN nq) (HM5.out.1.belowV (below_drewN (Below.refl _ w5) nq))
        have HI2 := Lib.hid fun nq => rkIsIdle_any j (w5.drewN nq) (HM5.out.2.belowV (below_drewN (Below.refl _ w5) nq))
        generalize idleM ys j = il at HI1 HI2
        have hil : (il != il) = false := by simp
        go_wp2_with fail
        go_quiet (first | (go_at_call 16; exact quiet_eq (HI1.out _)) | (go_at_call 17; exact quiet_eq (HI2.out _)))
        go_wp2_with fail
        go_roundw
        case rel => exact ⟨i + 1, ys, b, by go_num, by have := HLT.out; omega, HM5.out.belowV (below_drewN (Below.refl _ w5) _), below_drewN HB5.out _⟩
        case measure => have := HLT.out; simp [RowKit.intOf]; omega
      · have hge : l.length ≤ i := by omega
        clear HM
        go_wp2_with fail
        refine (HW.out _).mono ?_
        rintro e w2 ⟨rfl, hb2⟩
        have HB2 := Lib.hid (HB.out.trans (hb2.mono HB.out.size))
        clear hb2
        go_wp2_with fail
        go_ret
        exact ⟨rfl, HB2.out⟩

set_option maxRecDepth 100000 in
theorem lifted (os : Os) (started : os.Started) (H : Type) (enc : TypeId × Value → H) :
    ReturnsInHanded {} Try.checked os 3 .any (Rows.markMeetsSpec.pre6 enc Try.prog Try.f3 Rows.markMeetsRow.domain false) (Rows.markMeetsSpec.post enc Try.prog Try.f3 false true false false) := by
  refine returnsInHanded_of_change (C := Try.checked) own started (by kernel_rfl) Try.func3
    (ChangeSpec.witness6 (enc := enc) (C := Try.checked) false ⟨#[], #[.int .i64 0, .slice none 0 0], []⟩ 8 (by kernel_rfl) (by kernel_rfl) (by kernel_rfl) (by kernel_rfl)) ?_
  intro W base args ds gs before hval0 hW hcnd _
  have hval : ∀ (j : Nat) t v, Try.f3.params[j]? = some t → args[j]? = some v → Value.okWide Try.prog W .any base t v := hval0
  have hW' := hW
  obtain ⟨p, q, hA0, hV, rfl, hfz, hnd⟩ := hW
  have hA : DataW.TrodAll enc Try.prog W 0 (fun _ => true) true Try.f3.params.toList args.toList ds p := hA0
  rw [Try.params3] at hA hval
  obtain ⟨rfl, rfl⟩ := trodVars_none hV
  have hA' := hA
  obtain ⟨v0, vs0, d0, ds0, p0, q0, hargs, rfl, rfl, h0, r0⟩ := trodAll_cons hA
  obtain ⟨v1, vs1, d1, ds1, p1, q1, rfl, rfl, rfl, h1, r1⟩ := trodAll_cons r0
  obtain ⟨rfl, rfl, rfl⟩ := trodAll_nil r1
  obtain rfl : args = #[v0, v1] := by cases args; simp_all
  obtain ⟨n, rfl⟩ := okWide_int Try.underlying3 (hval 0 _ v0 rfl rfl)
  obtain ⟨a1, l1, c1, rfl, hlm1, hX1⟩ := open_turns (hval 1 _ v1 rfl rfl) h1
  clear hA0 hval0
  refine (walk n a1 l1 c1 W hX1).mono fun e W' ⟨he, hg⟩ => ?_
  subst he
  exact ⟨_, rfl, _, _, _, [], _, [], hW', trodAll_mk1 (shut_bool Try.underlying4 true), trodAll_below laidOut hg (by decide +kernel) hA' (fun x hx => by simpa using hW'.lt x (by simpa using hx)), rfl, hg.frame _, fun h => by cases h⟩

theorem over : Rows.markMeetsRow.holds Try.pinned (OpenSpec.ofChange Rows.markMeetsSpec) :=
  OpenClaim.holds_of_wide 3 Try.f3 rfl rfl rfl rfl rfl rfl rfl ⟨rfl, rfl, rfl, rfl, rfl⟩ rfl rfl rfl rfl rfl (by kernel_rfl) Try.func3 (by kernel_rfl)
    (of_decide_eq_true (by kernel_rfl)) (by unfold Func.isWrapper; first | (rw [if_pos (by decide +kernel)]; kernel_rfl) | (rw [if_neg (by decide +kernel)]; exact ⟨rfl, rfl⟩))
    (fun os started H enc _ => lifted os started H enc)

theorem proved : Rows.MarkMeetsSaid :=
  over
#print axioms proved
end Go.Proofs.Ytmnbcofonhlplaa.markMeets
