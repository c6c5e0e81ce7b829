/-
  PROVED HERE: for every number of inputs and every list of calls the law MarkLeast returns true: as long as no input is idle a meet's mark is the least of its inputs' marks. Its arguments read afterwards as before.
-/
import Derived.Test.YtmnbcofonhlplaaMlM
import Derived.Test.YtmnbcofonhlplaaTu
import Derived.Test.YtmnbcofonhlplaaRows
namespace Go.Proofs.Ytmnbcofonhlplaa.markLeast
open Go.ChangeShapes Go.WideShapes Go.ChangeAt Go.RowKit Go.Deep Go.Lib
set_option linter.unusedSimpArgs false

def InsK (w : World) (k : Nat) (ms : List Int) (e : Ending) (w' : World) : Prop := ∃ p c, e = .returned (.slice p k c) ∧ IntsIn w' p ms ∧ Below w.heap.size w w'
theorem inputsK {lo B I : Nat} {xs : List Inp} {at_ : Int} (w : World) (h : MeetP w lo B I xs at_) {k : Nat} (hk : xs.length = k) :
    Calls Try.prog 14 #[.pointer (some ⟨B, 0, none⟩)] w (InsK w k (marksM xs)) := by
  refine (mkInputs_any w h).mono ?_
  rintro e w' ⟨p, c, rfl, hi, hb⟩
  exact ⟨p, c, by simp [marksM, hk], hi, hb⟩
theorem toLow {w w' : World} {lo B I : Nat} {xs : List Inp} {at_ : Int} (hk : Keep2 w w' B (some I)) (hm : MeetP w' lo B I xs at_) (hlo : lo ≤ w.heap.size) : Below lo w w' :=
  hk.toBelow hlo hm.loB (fun k e => by cases e; exact hm.loI)

set_option maxRecDepth 100000 in
set_option maxHeartbeats 4000000 in
theorem walk (n : Int) (p : Option Addr) (l : List TurnR) (c : Nat) (_hl : l.length ≤ maxLen) (w : World) (hX : TurnsIn w p l) :
    Calls Try.prog 4 #[.int .i64 n, .slice p l.length c] w fun e w' => e = .returned (.bool true) ∧ Below w.heap.size w w' := by
  have HW := Lib.hid awake6_any
  by_cases h3 : 300 < l.length
  · have h3' : (300 : Int) < (l.length : Int) := by omega
    clear h3 hX
    go_enter Try.func4, Try.ntmps4
    go_wp2_with fail
    refine (HW.out _).mono ?_
    rintro e w1 ⟨rfl, hb1⟩
    have HB1 := Lib.hid hb1
    clear hb1
    go_wp2_with fail
    go_ret
    exact ⟨rfl, HB1.out⟩
  have h3' : (l.length : Int) ≤ (300 : Int) := by omega
  cases hn : inR n 1 8 with
  | false =>
    have HN := Lib.hid (mkNew_bad n hn w)
    clear h3 hX hn
    go_enter Try.func4, Try.ntmps4
    go_wp2_with fail
    refine HN.out.mono ?_
    rintro e w1 ⟨rfl, rfl⟩
    go_wp2_with fail
    refine (HW.out _).mono ?_
    rintro e w1 ⟨rfl, hb1⟩
    have HB1 := Lib.hid hb1
    clear hb1
    go_wp2_with fail
    go_ret
    exact ⟨rfl, HB1.out⟩
  | true =>
    have hnr := inR_iff.1 hn
    obtain ⟨k, rfl⟩ : ∃ k : Nat, n = (k : Int) := Int.eq_ofNat_of_zero_le (by omega)
    have HN := Lib.hid (mkNew_ok k (by omega) (by omega) w)
    have HX := Lib.hid hX
    have hk1 : 1 ≤ k := by omega
    have hk8 : k ≤ 8 := by omega
    clear h3 hX hn hnr
    go_enter Try.func4, Try.ntmps4
    go_wp2_with fail
    refine HN.out.mono ?_
    rintro e w1 ⟨B, I, rfl, hM1, hb1⟩
    have HM1 := Lib.hid hM1
    have HB1 := Lib.hid hb1
    clear hM1 hb1 HN
    go_wp2_with fail
    go_loopw [7] (fun s wr => ∃ (i : Nat) (xs : List Inp) (a : Int), s = .int .i64 i ∧ i ≤ l.length ∧ Hid (xs.length = k) ∧ Hid (Even xs a) ∧ Hid (MeetP wr w.heap.size B I xs a) ∧ Hid (Below w.heap.size w wr)) (fun s _ => l.length - (RowKit.intOf s).toNat)
    case atStart =>
      refine ⟨0, _, _, rfl, Nat.zero_le _, ?_, ?_, HM1.out, HB1.out⟩
      · exact List.length_replicate
      · have hb : busyAll (List.replicate k in0) := fun x hx => by rw [List.eq_of_mem_replicate hx]
        refine ⟨hb, ?_⟩
        obtain ⟨y, hy, e⟩ := least_mem hb (by simp; omega)
        rw [← e, List.eq_of_mem_replicate hy]
    case round =>
      clear HM1 HB1
      obtain ⟨i, xs, a, rfl, hin, HK, HE, HM, HB⟩ := hrel
      by_cases hlt : i < l.length
      · obtain ⟨bk, off, rfl, hbk, hra⟩ := HX.out (by omega)
        obtain ⟨c0, c1, c2⟩ := hra i hlt
        have d0 := (HB.out.cell (p := ⟨bk, off + i * 3, none⟩) hbk).trans c0
        have d1 := (HB.out.cell (p := ⟨bk, off + i * 3 + 1, none⟩) hbk).trans c1
        have d2 := (HB.out.cell (p := ⟨bk, off + i * 3 + 2, none⟩) hbk).trans c2
        have hi0 : (0 : Int) ≤ (i : Int) := by omega
        have hi1 : (i : Int) < (l.length : Int) := by omega
        clear hra c0 c1 c2
        have HLT := Lib.hid hlt
        generalize l[i]?.getD tu0 = t at d0 d1 d2
        obtain ⟨kd, j, m⟩ := t
        dsimp only at d0 d1 d2
        by_cases h3 : kd = 3
        · subst h3
          have HC := Lib.hid (mkClose_any j wr HM.out)
          have HE2 := Lib.hid (even_close HE.out HM.out.marks j)
          have HK2 := Lib.hid ((chgXs_len 3 xs j).trans HK.out)
          generalize chgXs 3 xs j = ys at HC HE2 HK2
          generalize chgAt 3 xs j a = b at HC HE2
          generalize chgErr xs j = er at HC
          clear HE HK
          go_wp2_with fail
          refine HC.out.mono ?_
          rintro e w2 ⟨rfl, hm2, hk2⟩
          have HB2 := Lib.hid (HB.out.trans ((toLow hk2 hm2 HB.out.size).mono (Nat.le_refl _)))
          have HM2 := Lib.hid hm2
          clear hm2 hk2 HM HB HC
          have HI := Lib.hid (inputsK w2 HM2.out HK2.out)
          go_wp2_with fail
          refine HI.out.mono ?_
          rintro e w3 ⟨q, d, rfl, hi3, hb3⟩
          have HM3 := Lib.hid (HM2.out.belowV hb3)
          have HB3 := Lib.hid (HB2.out.trans (hb3.mono HB2.out.size))
          have hml : (marksM ys).length = k := by simp [marksM, HK2.out]
          obtain ⟨b', off', rfl, hb', hms⟩ := hi3 (by omega)
          have z0 : w3.cell? ⟨b', off', none⟩ = some (.int .i64 ((marksM ys)[0]?.getD 0)) := by simpa using hms 0 (by omega)
          have HM0 := Lib.hid (show (marksM ys)[0]?.getD 0 ∈ marksM ys from by rw [List.getElem?_eq_getElem (by omega)]; exact List.getElem_mem _)
          have HMS := Lib.hid hms
          have HML := Lib.hid hml
          have HLI := Lib.hid (fun (x : Int) (h1 : x ∈ marksM ys) h2 => (least_is HE2.out.1 (by have := HK2.out; omega) (a := x) h1 h2).trans HE2.out.2.symm)
          have HMK := Lib.hid (mkMark_any w3 HM3.out)
          have hk0 : (0 : Int) < (k : Int) := by omega
          clear hi3 hb3 hms hml hb' HM2 HB2 HI
          generalize marksM ys = ms at z0 HM0 HMS HML HLI
          generalize ms[0]?.getD 0 = x0 at z0 HM0
          go_wp2_with fail
          go_loopw [9, 10] (fun s t wr2 => ∃ (jj : Nat) (x : Int), s = .int .i64 x ∧ t = .int .i64 jj ∧ jj ≤ k ∧ Hid (x ∈ ms) ∧ Hid (∀ i', i' < jj → x ≤ ms[i']?.getD 0) ∧ wr2 = w3) (fun _ t _ => k - (RowKit.intOf t).toNat)
          case atStart => exact ⟨0, x0, rfl, rfl, Nat.zero_le _, HM0.out, (fun i' h => by omega), rfl⟩
          case round =>
            obtain ⟨jj, x, rfl, rfl, hjk, HXM, HXL, rfl⟩ := hrel
            by_cases hjl : jj < k
            · have cz := HMS.out jj (by rw [HML.out]; exact hjl)
              have hj0 : (0 : Int) ≤ (jj : Int) := by omega
              have hj1 : (jj : Int) < (k : Int) := by omega
              have HXM2 := Lib.hid (show min x (ms[jj]?.getD 0) ∈ ms from by
                rcases Int.le_total x (ms[jj]?.getD 0) with h | h
                · rw [Int.min_eq_left h]; exact HXM.out
                · rw [Int.min_eq_right h, List.getElem?_eq_getElem (by rw [HML.out]; exact hjl)]; exact List.getElem_mem _)
              have HXL2 := Lib.hid (show ∀ i', i' < jj + 1 → min x (ms[jj]?.getD 0) ≤ ms[i']?.getD 0 from fun i' hi' => by
                by_cases e : i' = jj
                · rw [e]; omega
                · have := HXL.out i' (by omega); omega)
              have HJL := Lib.hid hjl
              generalize ms[jj]?.getD 0 = y at cz HXM2 HXL2
              go_wp2_with fail
              go_roundw
              case rel => exact ⟨jj + 1, min x y, rfl, by go_num, by have := HJL.out; omega, HXM2.out, HXL2.out, trivial⟩
              case measure => have := HJL.out; simp [RowKit.intOf]; omega
            · have hge : k ≤ jj := by omega
              have hxe : x = b := HLI.out x HXM.out fun i' hi' => HXL.out i' (by rw [HML.out] at hi'; omega)
              obtain rfl := hxe
              go_wp2_with fail
              refine HMK.out.mono ?_
              rintro e w4 ⟨rfl, rfl⟩
              go_wp2_with fail
              go_roundw
              case rel => exact ⟨i + 1, ys, _, by go_num, by have := HLT.out; omega, HK2.out, HE2.out, HM3.out, HB3.out⟩
              case measure => have := HLT.out; simp [RowKit.intOf]; omega
        · have h3b : (kd == 3) = false := by simpa using h3
          have HC := Lib.hid (mkSet_any j m wr.drew (HM.out.belowV (Below.refl _ wr).drew))
          have HE2 := Lib.hid (even_set HE.out j m)
          have HK2 := Lib.hid ((setXs_len xs j m).trans HK.out)
          generalize setXs xs j m = ys at HC HE2 HK2
          generalize setAt xs j m a = b at HC HE2
          generalize setErr xs j m = er at HC
          clear HE HK h3
          go_wp2_with fail
          go_still_tail 11, (by kernel_rfl)
          change wpList _ _ _ _ _ wr.drew
          go_wp2_with fail
          refine HC.out.mono ?_
          rintro e w2 ⟨rfl, hm2, hk2⟩
          have HB2 := Lib.hid (HB.out.trans ((Below.refl _ wr).drew.trans (toLow hk2 hm2 HB.out.size) |>.mono (Nat.le_refl _)))
          have HM2 := Lib.hid hm2
          clear hm2 hk2 HM HB HC
          have HI := Lib.hid (inputsK w2 HM2.out HK2.out)
          go_wp2_with fail
          refine HI.out.mono ?_
          rintro e w3 ⟨q, d, rfl, hi3, hb3⟩
          have HM3 := Lib.hid (HM2.out.belowV hb3)
          have HB3 := Lib.hid (HB2.out.trans (hb3.mono HB2.out.size))
          have hml : (marksM ys).length = k := by simp [marksM, HK2.out]
          obtain ⟨b', off', rfl, hb', hms⟩ := hi3 (by omega)
          have z0 : w3.cell? ⟨b', off', none⟩ = some (.int .i64 ((marksM ys)[0]?.getD 0)) := by simpa using hms 0 (by omega)
          have HM0 := Lib.hid (show (marksM ys)[0]?.getD 0 ∈ marksM ys from by rw [List.getElem?_eq_getElem (by omega)]; exact List.getElem_mem _)
          have HMS := Lib.hid hms
          have HML := Lib.hid hml
          have HLI := Lib.hid (fun (x : Int) (h1 : x ∈ marksM ys) h2 => (least_is HE2.out.1 (by have := HK2.out; omega) (a := x) h1 h2).trans HE2.out.2.symm)
          have HMK := Lib.hid (mkMark_any w3 HM3.out)
          have hk0 : (0 : Int) < (k : Int) := by omega
          clear hi3 hb3 hms hml hb' HM2 HB2 HI
          generalize marksM ys = ms at z0 HM0 HMS HML HLI
          generalize ms[0]?.getD 0 = x0 at z0 HM0
          go_wp2_with fail
          go_loopw [9, 10] (fun s t wr2 => ∃ (jj : Nat) (x : Int), s = .int .i64 x ∧ t = .int .i64 jj ∧ jj ≤ k ∧ Hid (x ∈ ms) ∧ Hid (∀ i', i' < jj → x ≤ ms[i']?.getD 0) ∧ wr2 = w3) (fun _ t _ => k - (RowKit.intOf t).toNat)
          case atStart => exact ⟨0, x0, rfl, rfl, Nat.zero_le _, HM0.out, (fun i' h => by omega), rfl⟩
          case round =>
            obtain ⟨jj, x, rfl, rfl, hjk, HXM, HXL, rfl⟩ := hrel
            by_cases hjl : jj < k
            · have cz := HMS.out jj (by rw [HML.out]; exact hjl)
              have hj0 : (0 : Int) ≤ (jj : Int) := by omega
              have hj1 : (jj : Int) < (k : Int) := by omega
              have HXM2 := Lib.hid (show min x (ms[jj]?.getD 0) ∈ ms from by
                rcases Int.le_total x (ms[jj]?.getD 0) with h | h
                · rw [Int.min_eq_left h]; exact HXM.out
                · rw [Int.min_eq_right h, List.getElem?_eq_getElem (by rw [HML.out]; exact hjl)]; exact List.getElem_mem _)
              have HXL2 := Lib.hid (show ∀ i', i' < jj + 1 → min x (ms[jj]?.getD 0) ≤ ms[i']?.getD 0 from fun i' hi' => by
                by_cases e : i' = jj
                · rw [e]; omega
                · have := HXL.out i' (by omega); omega)
              have HJL := Lib.hid hjl
              generalize ms[jj]?.getD 0 = y at cz HXM2 HXL2
              go_wp2_with fail
              go_roundw
              case rel => exact ⟨jj + 1, min x y, rfl, by go_num, by have := HJL.out; omega, HXM2.out, HXL2.out, trivial⟩
              case measure => have := HJL.out; simp [RowKit.intOf]; omega
            · have hge : k ≤ jj := by omega
              have hxe : x = b := HLI.out x HXM.out fun i' hi' => HXL.out i' (by rw [HML.out] at hi'; omega)
              obtain rfl := hxe
              go_wp2_with fail
              refine HMK.out.mono ?_
              rintro e w4 ⟨rfl, rfl⟩
              go_wp2_with fail
              go_roundw
              case rel => exact ⟨i + 1, ys, _, by go_num, by have := HLT.out; omega, HK2.out, HE2.out, HM3.out, HB3.out⟩
              case measure => have := HLT.out; simp [RowKit.intOf]; omega
      · have hge : l.length ≤ i := by omega
        clear HK HE HM
        go_wp2_with fail
        refine (HW.out _).mono ?_
        rintro e w2 ⟨rfl, hb2⟩
        have HB2 := Lib.hid (HB.out.trans (hb2.mono HB.out.size))
        clear hb2
        go_wp2_with fail
        go_ret
        exact ⟨rfl, HB2.out⟩

set_option maxRecDepth 100000 in
theorem lifted (os : Os) (started : os.Started) (H : Type) (enc : TypeId × Value → H) :
    ReturnsInHanded {} Try.checked os 4 .any (Rows.markLeastSpec.pre6 enc Try.prog Try.f4 Rows.markLeastRow.domain false) (Rows.markLeastSpec.post enc Try.prog Try.f4 false true false false) := by
  refine returnsInHanded_of_change (C := Try.checked) own started (by kernel_rfl) Try.func4
    (ChangeSpec.witness6 (enc := enc) (C := Try.checked) false ⟨#[], #[.int .i64 0, .slice none 0 0], []⟩ 8 (by kernel_rfl) (by kernel_rfl) (by kernel_rfl) (by kernel_rfl)) ?_
  intro W base args ds gs before hval0 hW hcnd _
  have hval : ∀ (j : Nat) t v, Try.f4.params[j]? = some t → args[j]? = some v → Value.okWide Try.prog W .any base t v := hval0
  have hW' := hW
  obtain ⟨p, q, hA0, hV, rfl, hfz, hnd⟩ := hW
  have hA : DataW.TrodAll enc Try.prog W 0 (fun _ => true) true Try.f4.params.toList args.toList ds p := hA0
  rw [Try.params4] at hA hval
  obtain ⟨rfl, rfl⟩ := trodVars_none hV
  have hA' := hA
  obtain ⟨v0, vs0, d0, ds0, p0, q0, hargs, rfl, rfl, h0, r0⟩ := trodAll_cons hA
  obtain ⟨v1, vs1, d1, ds1, p1, q1, rfl, rfl, rfl, h1, r1⟩ := trodAll_cons r0
  obtain ⟨rfl, rfl, rfl⟩ := trodAll_nil r1
  obtain rfl : args = #[v0, v1] := by cases args; simp_all
  obtain ⟨n, rfl⟩ := okWide_int Try.underlying3 (hval 0 _ v0 rfl rfl)
  obtain ⟨a1, l1, c1, rfl, hlm1, hX1⟩ := open_turns (hval 1 _ v1 rfl rfl) h1
  clear hA0 hval0
  refine (walk n a1 l1 c1 hlm1 W hX1).mono fun e W' ⟨he, hg⟩ => ?_
  subst he
  exact ⟨_, rfl, _, _, _, [], _, [], hW', trodAll_mk1 (shut_bool Try.underlying4 true), trodAll_below laidOut hg (by decide +kernel) hA' (fun x hx => by simpa using hW'.lt x (by simpa using hx)), rfl, hg.frame _, fun h => by cases h⟩

theorem over : Rows.markLeastRow.holds Try.pinned (OpenSpec.ofChange Rows.markLeastSpec) :=
  OpenClaim.holds_of_wide 4 Try.f4 rfl rfl rfl rfl rfl rfl rfl ⟨rfl, rfl, rfl, rfl, rfl⟩ rfl rfl rfl rfl rfl (by kernel_rfl) Try.func4 (by kernel_rfl)
    (of_decide_eq_true (by kernel_rfl)) (by unfold Func.isWrapper; first | (rw [if_pos (by decide +kernel)]; kernel_rfl) | (rw [if_neg (by decide +kernel)]; exact ⟨rfl, rfl⟩))
    (fun os started H enc _ => lifted os started H enc)

theorem proved : Rows.MarkLeastSaid :=
  over
#print axioms proved
end Go.Proofs.Ytmnbcofonhlplaa.markLeast
