/-
  MarkGauges: what its own walk leaves.
-/
import Derived.Test.YtmnbcofonhlplaaDoorPg
import Derived.Test.YtmnbcofonhlplaaDoorAc
namespace Go.Proofs.YtmnbcofonhlplaaDoor.markGauges
open Go.ChangeShapes Go.WideShapes Go.ChangeAt Go.RowKit Go.Deep Go.Lib
set_option linter.unusedSimpArgs false

/-- What holds of a gauge that is there. -/
def GI (b m : Int) (q : Bool) : Prop := markR m ∧ (q = true → m = 1000000000001) ∧ (q = false → m ≤ 1000000000000 - b + 1)
theorem GI.start {b : Int} (hb : boundR b) : GI b (-1000000000000) false := by
  unfold boundR at hb
  exact ⟨by unfold markR; omega, fun h => (by cases h), fun _ => by omega⟩
theorem GI.see {b m t : Int} {q : Bool} (hb : boundR b) (h : GI b m q) : GI b (seeMark b m t q) q := by
  refine ⟨see_range hb h.1, fun hq => ?_, fun hq => ?_⟩
  · subst hq
    have : seeMark b m t true = m := by
      unfold seeMark seeErr
      cases timeR t <;> simp
    rw [this]; exact h.2.1 rfl
  · subst hq
    have h1 := h.2.2 rfl
    unfold seeMark seeErr
    cases ht : timeR t with
    | false => simpa using h1
    | true =>
      have := inR_iff.1 ht
      simp only [markStep]
      unfold boundR at hb
      simp
      omega
theorem GI.close {b : Int} : GI b 1000000000001 true := ⟨by unfold markR; omega, fun _ => rfl, fun h => by cases h⟩
theorem see_up {b m t : Int} {q : Bool} : m ≤ seeMark b m t q := by
  unfold seeMark markStep
  split <;> omega
theorem late_true {t m : Int} {q : Bool} (h : seeErr t q = 0) : seeLate t m q = decide (t < m) := by
  unfold seeLate; rw [h]; simp

set_option maxRecDepth 100000 in
set_option maxHeartbeats 4000000 in
theorem walk (b : Int) (p : Option Addr) (l : List ActR) (c : Nat) (w : World) (hX : ActsIn w p l) (hE : Env w.heap.size w) :
    Calls Tryd.prog 3 #[.int .i64 b, .slice p l.length c] w fun e w' => e = .returned (.bool true) ∧ Below w.heap.size w w' := by
  have HW := Lib.hid awake6_any
  by_cases h3 : 300 < l.length
  · have h3' : (300 : Int) < (l.length : Int) := by omega
    clear h3 hX hE
    go_enter Tryd.func3, Tryd.ntmps3
    go_wp2_with fail
    refine (HW.out _).mono ?_
    rintro e w1 ⟨rfl, hb1⟩
    have HB1 := Lib.hid hb1
    clear hb1
    go_wp2_with fail
    go_ret
    exact ⟨rfl, HB1.out⟩
  have h3' : (l.length : Int) ≤ (300 : Int) := by omega
  have HX := Lib.hid hX
  have HE := Lib.hid hE
  clear hX hE
  cases hn : inR b 0 1000000000 with
  | false =>
    have HN := Lib.hid fun W => mkGa_bad b hn W
    have HR := Lib.hid fun W => rkGa_bad b hn W
    clear h3 hn
    go_enter Tryd.func3, Tryd.ntmps3
    go_wp2_with fail
    refine (HN.out _).mono ?_
    rintro e w1 ⟨rfl, rfl⟩
    go_wp2_with fail
    refine (HR.out _).mono ?_
    rintro e w1 ⟨rfl, rfl⟩
    clear HN HR
    go_wp2_with fail
    go_loopw [5, 9] (fun x s wr => ∃ (i : Nat), x = .pointer none ∧ s = .int .i64 i ∧ i ≤ l.length ∧ Hid (Below w.heap.size w wr)) (fun _ s _ => l.length - (RowKit.intOf s).toNat)
    case atStart => exact ⟨0, rfl, rfl, Nat.zero_le _, Below.refl _ _⟩
    case round =>
      obtain ⟨i, rfl, rfl, hin, HB⟩ := hrel
      by_cases hlt : i < l.length
      · obtain ⟨bk, off, rfl, hbk, hra⟩ := HX.out (by omega)
        obtain ⟨c0, c1⟩ := hra i hlt
        have d0 := (HB.out.cell (p := ⟨bk, off + i * 2, none⟩) hbk).trans c0
        have d1 := (HB.out.cell (p := ⟨bk, off + i * 2 + 1, none⟩) hbk).trans c1
        have hi0 : (0 : Int) ≤ (i : Int) := by omega
        have hi1 : (i : Int) < (l.length : Int) := by omega
        have HLT := Lib.hid hlt
        clear hra c0 c1
        generalize l[i]?.getD ac0 = t at d0 d1
        obtain ⟨kd, tm⟩ := t
        dsimp only at d0 d1
        by_cases k0 : kd = 0
        · subst k0
          go_wp2_with fail
          refine (gaMark_nil _).mono ?_
          rintro e w3 ⟨rfl, rfl⟩
          go_wp2_with fail
          refine (gaSee_nil tm _).mono ?_
          rintro e w3 ⟨rfl, rfl⟩
          go_wp2_with fail
          refine (grSee_nil tm _).mono ?_
          rintro e w3 ⟨rfl, rfl⟩
          have HB3 := HB
          go_wp2_with fail
          refine (gaMark_nil _).mono ?_
          rintro e w4 ⟨rfl, rfl⟩
          go_wp2_with fail
          refine (grMark_nil _).mono ?_
          rintro e w4 ⟨rfl, rfl⟩
          go_wp2_with fail
          refine (gaClosed_nil _).mono ?_
          rintro e w4 ⟨rfl, rfl⟩
          go_wp2_with fail
          refine (grClosed_nil _).mono ?_
          rintro e w4 ⟨rfl, rfl⟩
          go_wp2_with fail
          refine (gaMark_nil _).mono ?_
          rintro e w4 ⟨rfl, rfl⟩
          go_wp2_with fail
          go_roundw
          case rel => exact ⟨i + 1, rfl, by go_num, by have := HLT.out; omega, HB3.out⟩
          case measure => have := HLT.out; simp [RowKit.intOf]; omega
        by_cases k1 : kd = 1
        · subst k1
          clear k0
          go_wp2_with fail
          refine (gaMark_nil _).mono ?_
          rintro e w3 ⟨rfl, rfl⟩
          go_wp2_with fail
          refine (gaClose_nil _).mono ?_
          rintro e w3 ⟨rfl, rfl⟩
          go_wp2_with fail
          refine (grClose_nil _).mono ?_
          rintro e w3 ⟨rfl, rfl⟩
          have HB3 := HB
          go_wp2_with fail
          refine (gaMark_nil _).mono ?_
          rintro e w4 ⟨rfl, rfl⟩
          go_wp2_with fail
          refine (grMark_nil _).mono ?_
          rintro e w4 ⟨rfl, rfl⟩
          go_wp2_with fail
          refine (gaClosed_nil _).mono ?_
          rintro e w4 ⟨rfl, rfl⟩
          go_wp2_with fail
          refine (grClosed_nil _).mono ?_
          rintro e w4 ⟨rfl, rfl⟩
          go_wp2_with fail
          refine (gaMark_nil _).mono ?_
          rintro e w4 ⟨rfl, rfl⟩
          go_wp2_with fail
          go_roundw
          case rel => exact ⟨i + 1, rfl, by go_num, by have := HLT.out; omega, HB3.out⟩
          case measure => have := HLT.out; simp [RowKit.intOf]; omega
        by_cases k2 : kd = 2
        · subst k2
          clear k0 k1
          have HP := Lib.hid (parse_nil wr ((HE.out.on HB.out).up HB.out.size))
          go_wp2_with fail
          refine (gaMark_nil _).mono ?_
          rintro e w3 ⟨rfl, rfl⟩
          go_wp2_with fail
          refine (gaText_nil _).mono ?_
          rintro e w3 ⟨rfl, rfl⟩
          go_wp2_with fail
          refine (grText_nil _).mono ?_
          rintro e w3 ⟨rfl, rfl⟩
          go_wp2_with fail
          refine HP.out.mono ?_
          rintro e w3 ⟨rfl, hb3⟩
          have HB3 := Lib.hid (HB.out.trans (hb3.mono HB.out.size))
          clear hb3 HB HP d0 d1
          go_wp2_with fail
          refine (gaMark_nil w3).mono ?_
          rintro e w4 ⟨rfl, rfl⟩
          go_wp2_with fail
          refine (grMark_nil w3).mono ?_
          rintro e w4 ⟨rfl, rfl⟩
          go_wp2_with fail
          refine (gaClosed_nil w3).mono ?_
          rintro e w4 ⟨rfl, rfl⟩
          go_wp2_with fail
          refine (grClosed_nil w3).mono ?_
          rintro e w4 ⟨rfl, rfl⟩
          go_wp2_with fail
          refine (gaMark_nil w3).mono ?_
          rintro e w4 ⟨rfl, rfl⟩
          go_wp2_with fail
          go_roundw
          case rel => exact ⟨i + 1, rfl, by go_num, by have := HLT.out; omega, HB3.out⟩
          case measure => have := HLT.out; simp [RowKit.intOf]; omega
        · have z0 : (kd == 0) = false := by rw [beq_eq_false_iff_ne]; exact k0
          have z1 : (kd == 1) = false := by rw [beq_eq_false_iff_ne]; exact k1
          have z2 : (kd == 2) = false := by rw [beq_eq_false_iff_ne]; exact k2
          clear k0 k1 k2
          go_wp2_with fail
          refine (gaMark_nil _).mono ?_
          rintro e w3 ⟨rfl, rfl⟩
          have HB3 := HB
          go_wp2_with fail
          refine (gaMark_nil _).mono ?_
          rintro e w4 ⟨rfl, rfl⟩
          go_wp2_with fail
          refine (grMark_nil _).mono ?_
          rintro e w4 ⟨rfl, rfl⟩
          go_wp2_with fail
          refine (gaClosed_nil _).mono ?_
          rintro e w4 ⟨rfl, rfl⟩
          go_wp2_with fail
          refine (grClosed_nil _).mono ?_
          rintro e w4 ⟨rfl, rfl⟩
          go_wp2_with fail
          refine (gaMark_nil _).mono ?_
          rintro e w4 ⟨rfl, rfl⟩
          go_wp2_with fail
          go_roundw
          case rel => exact ⟨i + 1, rfl, by go_num, by have := HLT.out; omega, HB3.out⟩
          case measure => have := HLT.out; simp [RowKit.intOf]; omega
      · have hge : l.length ≤ i := by omega
        go_wp2_with fail
        refine (HW.out _).mono ?_
        rintro e w2 ⟨rfl, hb2⟩
        have HB2 := Lib.hid (HB.out.trans (hb2.mono HB.out.size))
        clear hb2
        go_wp2_with fail
        go_ret
        exact ⟨rfl, HB2.out⟩
  | true =>
    have hb : boundR b := inR_iff.1 hn
    have HBR := Lib.hid hb
    have HN := Lib.hid fun W => mkGa_ok b hn W
    have HR := Lib.hid fun W => rkGa_ok b hn W
    clear h3 hn hb
    go_enter Tryd.func3, Tryd.ntmps3
    go_wp2_with fail
    refine (HN.out _).mono ?_
    rintro e w1 ⟨B0, rfl, hBe, hG1, hb1⟩
    have HG1 := Lib.hid hG1
    have HB1 := Lib.hid hb1
    have HS1 := Lib.hid (show w.heap.size ≤ B0 by omega)
    clear hG1 hb1 HN hBe
    go_wp2_with fail
    refine (HR.out _).mono ?_
    rintro e w2 ⟨C, rfl, hCe, hG2, hb2⟩
    have HG2 := Lib.hid (show GaP w2 B0 b (-1000000000000) false from HG1.out.belowV hb2 HG1.out.lt)
    have HR2 := Lib.hid hG2
    have HSC := Lib.hid (show w.heap.size ≤ C by have := HB1.out.size; omega)
    have HB2 := Lib.hid (HB1.out.trans (hb2.mono HB1.out.size))
    clear hG2 hb2 HR HG1 HB1 hCe
    go_wp2_with fail
    go_loopw [5, 9] (fun x s wr => ∃ (i B : Nat) (m : Int) (q : Bool), x = .pointer (some ⟨B, 0, none⟩) ∧ s = .int .i64 i ∧ i ≤ l.length ∧ Hid (GI b m q) ∧ Hid (GaP wr B b m q) ∧ Hid (GaR wr C b m q) ∧ Hid (w.heap.size ≤ B) ∧ Hid (Below w.heap.size w wr)) (fun _ s _ => l.length - (RowKit.intOf s).toNat)
    case atStart => exact ⟨0, B0, _, _, rfl, rfl, Nat.zero_le _, GI.start HBR.out, HG2.out, HR2.out, HS1.out, HB2.out⟩
    case round =>
      clear HG2 HR2 HB2 HS1
      obtain ⟨i, B, m, q, rfl, rfl, hin, HI, HG, HR, HS, HB⟩ := hrel
      by_cases hlt : i < l.length
      · obtain ⟨bk, off, rfl, hbk, hra⟩ := HX.out (by omega)
        obtain ⟨c0, c1⟩ := hra i hlt
        have d0 := (HB.out.cell (p := ⟨bk, off + i * 2, none⟩) hbk).trans c0
        have d1 := (HB.out.cell (p := ⟨bk, off + i * 2 + 1, none⟩) hbk).trans c1
        have hi0 : (0 : Int) ≤ (i : Int) := by omega
        have hi1 : (i : Int) < (l.length : Int) := by omega
        have HC1 := Lib.hid fun W (h : Below w.heap.size w W) => (h.cell (p := ⟨bk, off + i * 2 + 1, none⟩) hbk).trans c1
        have HLT := Lib.hid hlt
        clear hra c0 c1
        generalize l[i]?.getD ac0 = t at d0 d1 HC1
        obtain ⟨kd, tm⟩ := t
        dsimp only at d0 d1 HC1
        have HM := Lib.hid (gaMark_any B b m q HI.out.1 wr HG.out)
        have HNE := Lib.hid (show B ≠ C from blk_ne HG.out HR.out (by decide))
        by_cases k0 : kd = 0
        · subst k0
          have HS1 := Lib.hid (gaSee_any B b m tm q HBR.out HI.out.1 wr HG.out)
          have HS2 := Lib.hid fun (u : World) (g : Grew wr B u) => grSee_any C b m tm q HBR.out u (show GaR u C b m q from HR.out.keepG g (by intro e; exact HNE.out (Option.some.inj e).symm))
          have HI3 := Lib.hid (GI.see (t := tm) HBR.out HI.out)
          have hup : m ≤ seeMark b m tm q := see_up
          have hlate := fun h => late_true (t := tm) (m := m) (q := q) h
          unfold SeeP at HS1
          unfold SeeR at HS2
          generalize seeMark b m tm q = m' at HS1 HS2 HI3 hup
          generalize seeLate tm m q = lt at HS1 HS2 hlate
          generalize seeErr tm q = er at HS1 HS2 hlate
          have HU := Lib.hid hup
          have HL := Lib.hid hlate
          clear hup hlate
          go_wp2_with fail
          refine HM.out.mono ?_
          rintro e w1 ⟨rfl, rfl⟩
          go_wp2_with fail
          refine HS1.out.mono ?_
          rintro e w2 ⟨rfl, hG2, g2⟩
          have HB2 := Lib.hid (HB.out.trans (g2.toBelow HS.out HB.out.size))
          have HG2 := Lib.hid hG2
          have HSS := Lib.hid (HS2.out w2 g2)
          have d1' := HC1.out w2 HB2.out
          clear hG2 g2 HS1 HS2 d0 d1
          go_wp2_with fail
          refine HSS.out.mono ?_
          rintro e w3 ⟨rfl, hR3, g3⟩
          have HB3 := Lib.hid (HB2.out.trans (g3.toBelow HSC.out HB2.out.size))
          have HG3 := Lib.hid (show GaP w3 B b m' q from HG2.out.keepG g3 (by intro e; exact HNE.out (Option.some.inj e)))
          have HR3 := Lib.hid hR3
          have HS3 := HS
          have d1' := HC1.out w3 HB3.out
          have b1 : (lt != lt) = false := by simp
          have b2 : (er != er) = false := by simp
          have b3 : (m' != m') = false := by simp
          have b4 : (q != q) = false := by simp
          have b5 : decide (m' < m) = false := decide_eq_false (by have := HU.out; omega)
          clear hR3 g3 HSS HG2 HB2 HG HR HB HI HM
          by_cases he : er = 0
          · have hl := HL.out he
            subst he
            have b6 : (lt != decide (tm < m)) = false := by rw [hl]; simp
            have HLa := Lib.hid (mkLate_any tm m w3)
            rw [← hl] at HLa
            clear hl HL b6
            go_wp2_with fail
            refine HLa.out.mono ?_
            rintro e w4 ⟨rfl, rfl⟩
            go_wp2_with fail
            refine (gaMark_any B b m' q HI3.out.1 w3 HG3.out).mono ?_
            rintro e w4 ⟨rfl, rfl⟩
            go_wp2_with fail
            refine (grMark_any C b m' q w3 HR3.out).mono ?_
            rintro e w4 ⟨rfl, rfl⟩
            go_wp2_with fail
            refine (gaClosed_any B b m' q w3 HG3.out).mono ?_
            rintro e w4 ⟨rfl, rfl⟩
            go_wp2_with fail
            refine (grClosed_any C b m' q w3 HR3.out).mono ?_
            rintro e w4 ⟨rfl, rfl⟩
            go_wp2_with fail
            refine (gaMark_any B b m' q HI3.out.1 w3 HG3.out).mono ?_
            rintro e w4 ⟨rfl, rfl⟩
            go_wp2_with fail
            go_roundw
            case rel => exact ⟨i + 1, B, m', q, rfl, by go_num, by have := HLT.out; omega, HI3.out, HG3.out, HR3.out, HS3.out, HB3.out⟩
            case measure => have := HLT.out; simp [RowKit.intOf]; omega
          · have b6 : (er == 0) = false := by rw [beq_eq_false_iff_ne]; exact he
            clear he HL
            go_wp2_with fail
            refine (gaMark_any B b m' q HI3.out.1 w3 HG3.out).mono ?_
            rintro e w4 ⟨rfl, rfl⟩
            go_wp2_with fail
            refine (grMark_any C b m' q w3 HR3.out).mono ?_
            rintro e w4 ⟨rfl, rfl⟩
            go_wp2_with fail
            refine (gaClosed_any B b m' q w3 HG3.out).mono ?_
            rintro e w4 ⟨rfl, rfl⟩
            go_wp2_with fail
            refine (grClosed_any C b m' q w3 HR3.out).mono ?_
            rintro e w4 ⟨rfl, rfl⟩
            go_wp2_with fail
            refine (gaMark_any B b m' q HI3.out.1 w3 HG3.out).mono ?_
            rintro e w4 ⟨rfl, rfl⟩
            go_wp2_with fail
            go_roundw
            case rel => exact ⟨i + 1, B, m', q, rfl, by go_num, by have := HLT.out; omega, HI3.out, HG3.out, HR3.out, HS3.out, HB3.out⟩
            case measure => have := HLT.out; simp [RowKit.intOf]; omega
        by_cases k1 : kd = 1
        · subst k1
          clear k0
          have HC := Lib.hid (gaClose_any B b m q HI.out.1 wr HG.out)
          have HC2 := Lib.hid fun (u : World) (g : Grew wr B u) => grClose_any C b m q u (show GaR u C b m q from HR.out.keepG g (by intro e; exact HNE.out (Option.some.inj e).symm))
          have HI3 := Lib.hid (GI.close (b := b))
          have b5 : decide (1000000000001 < m) = false := decide_eq_false (by have := HI.out.1; unfold markR at this; omega)
          go_wp2_with fail
          refine HM.out.mono ?_
          rintro e w1 ⟨rfl, rfl⟩
          go_wp2_with fail
          refine HC.out.mono ?_
          rintro e w2 ⟨rfl, hG2, g2⟩
          have HB2 := Lib.hid (HB.out.trans (g2.toBelow HS.out HB.out.size))
          have HG2 := Lib.hid hG2
          have HSS := Lib.hid (HC2.out w2 g2)
          clear hG2 g2 HC HC2 d0 d1
          go_wp2_with fail
          refine HSS.out.mono ?_
          rintro e w3 ⟨rfl, hR3, g3⟩
          have HB3 := Lib.hid (HB2.out.trans (g3.toBelow HSC.out HB2.out.size))
          have HG3 := Lib.hid (show GaP w3 B b 1000000000001 true from HG2.out.keepG g3 (by intro e; exact HNE.out (Option.some.inj e)))
          have HR3 := Lib.hid hR3
          have HS3 := HS
          clear hR3 g3 HSS HG2 HB2 HG HR HB HI HM
          go_wp2_with fail
          refine (gaMark_any B b 1000000000001 true HI3.out.1 w3 HG3.out).mono ?_
          rintro e w4 ⟨rfl, rfl⟩
          go_wp2_with fail
          refine (grMark_any C b 1000000000001 true w3 HR3.out).mono ?_
          rintro e w4 ⟨rfl, rfl⟩
          go_wp2_with fail
          refine (gaClosed_any B b 1000000000001 true w3 HG3.out).mono ?_
          rintro e w4 ⟨rfl, rfl⟩
          go_wp2_with fail
          refine (grClosed_any C b 1000000000001 true w3 HR3.out).mono ?_
          rintro e w4 ⟨rfl, rfl⟩
          go_wp2_with fail
          refine (gaMark_any B b 1000000000001 true HI3.out.1 w3 HG3.out).mono ?_
          rintro e w4 ⟨rfl, rfl⟩
          go_wp2_with fail
          go_roundw
          case rel => exact ⟨i + 1, B, 1000000000001, true, rfl, by go_num, by have := HLT.out; omega, HI3.out, HG3.out, HR3.out, HS3.out, HB3.out⟩
          case measure => have := HLT.out; simp [RowKit.intOf]; omega
        by_cases k2 : kd = 2
        · subst k2
          clear k0 k1
          have HT1 := Lib.hid (gaText_any B b m q HBR.out HI.out.1 wr HG.out ((HE.out.on HB.out).up HB.out.size).tab)
          have HT2 := Lib.hid fun (u : World) (g : Below wr.heap.size wr u) => grText_any C b m q HBR.out HI.out.1 u (show GaR u C b m q from HR.out.belowV g HR.out.lt) ((HE.out.on (HB.out.trans (g.mono HB.out.size))).up (HB.out.trans (g.mono HB.out.size)).size).tab
          have HP := Lib.hid fun (u : World) (g : Below w.heap.size w u) => parse_text b m q HBR.out HI.out.1 HI.out.2.1 HI.out.2.2 u ((HE.out.on g).up g.size)
          have HI3 := HI
          have b3 : (m != m) = false := by simp
          have b4 : (q != q) = false := by simp
          have b5 : decide (m < m) = false := decide_eq_false (by omega)
          unfold TextPost at HT1 HT2
          generalize (⟨(gText b m q).toArray⟩ : ByteArray) = s at HT1 HT2 HP
          go_wp2_with fail
          refine HM.out.mono ?_
          rintro e w1 ⟨rfl, rfl⟩
          go_wp2_with fail
          refine HT1.out.mono ?_
          rintro e w1 ⟨rfl, k1⟩
          have HT2 := Lib.hid (HT2.out w1 k1)
          have HK1 := Lib.hid k1
          clear k1 HT1
          go_wp2_with fail
          refine HT2.out.mono ?_
          rintro e w2 ⟨rfl, k2⟩
          have HK2 := Lib.hid (HK1.out.trans (k2.mono HK1.out.size))
          have HB2 := Lib.hid (HB.out.trans (HK2.out.mono HB.out.size))
          have HP := Lib.hid (HP.out w2 HB2.out)
          clear k2 HT2 HK1 d0 d1
          go_wp2_with fail
          refine HP.out.mono ?_
          rintro e w3 ⟨B2, rfl, hs2, hG3, k3⟩
          have HG3 := Lib.hid hG3
          have HR3 := Lib.hid (show GaR w3 C b m q from (HR.out.belowV HK2.out HR.out.lt).belowV k3 (Nat.lt_of_lt_of_le HR.out.lt HK2.out.size))
          have HS3 := Lib.hid (show w.heap.size ≤ B2 by have := HB2.out.size; omega)
          have HB3 := Lib.hid (HB2.out.trans (k3.mono HB2.out.size))
          clear hG3 hs2 k3 HP HB2 HK2 HG HR HB HI HM HNE HS
          go_wp2_with fail
          refine (gaMark_any B2 b m q HI3.out.1 w3 HG3.out).mono ?_
          rintro e w4 ⟨rfl, rfl⟩
          go_wp2_with fail
          refine (grMark_any C b m q w3 HR3.out).mono ?_
          rintro e w4 ⟨rfl, rfl⟩
          go_wp2_with fail
          refine (gaClosed_any B2 b m q w3 HG3.out).mono ?_
          rintro e w4 ⟨rfl, rfl⟩
          go_wp2_with fail
          refine (grClosed_any C b m q w3 HR3.out).mono ?_
          rintro e w4 ⟨rfl, rfl⟩
          go_wp2_with fail
          refine (gaMark_any B2 b m q HI3.out.1 w3 HG3.out).mono ?_
          rintro e w4 ⟨rfl, rfl⟩
          go_wp2_with fail
          go_roundw
          case rel => exact ⟨i + 1, B2, m, q, rfl, by go_num, by have := HLT.out; omega, HI3.out, HG3.out, HR3.out, HS3.out, HB3.out⟩
          case measure => have := HLT.out; simp [RowKit.intOf]; omega
        · have z0 : (kd == 0) = false := by rw [beq_eq_false_iff_ne]; exact k0
          have z1 : (kd == 1) = false := by rw [beq_eq_false_iff_ne]; exact k1
          have z2 : (kd == 2) = false := by rw [beq_eq_false_iff_ne]; exact k2
          have b3 : (m != m) = false := by simp
          have b4 : (q != q) = false := by simp
          have b5 : decide (m < m) = false := decide_eq_false (by omega)
          clear k0 k1 k2
          go_wp2_with fail
          refine HM.out.mono ?_
          rintro e w3 ⟨rfl, rfl⟩
          have HI3 := HI; have HG3 := HG; have HR3 := HR; have HS3 := HS; have HB3 := HB
          go_wp2_with fail
          refine (gaMark_any B b m q HI3.out.1 _ HG3.out).mono ?_
          rintro e w4 ⟨rfl, rfl⟩
          go_wp2_with fail
          refine (grMark_any C b m q _ HR3.out).mono ?_
          rintro e w4 ⟨rfl, rfl⟩
          go_wp2_with fail
          refine (gaClosed_any B b m q _ HG3.out).mono ?_
          rintro e w4 ⟨rfl, rfl⟩
          go_wp2_with fail
          refine (grClosed_any C b m q _ HR3.out).mono ?_
          rintro e w4 ⟨rfl, rfl⟩
          go_wp2_with fail
          refine (gaMark_any B b m q HI3.out.1 _ HG3.out).mono ?_
          rintro e w4 ⟨rfl, rfl⟩
          go_wp2_with fail
          go_roundw
          case rel => exact ⟨i + 1, B, m, q, rfl, by go_num, by have := HLT.out; omega, HI3.out, HG3.out, HR3.out, HS3.out, HB3.out⟩
          case measure => have := HLT.out; simp [RowKit.intOf]; omega
      · have hge : l.length ≤ i := by omega
        clear HG HR HI HS
        go_wp2_with fail
        refine (HW.out _).mono ?_
        rintro e w2 ⟨rfl, hb2⟩
        have HB2 := Lib.hid (HB.out.trans (hb2.mono HB.out.size))
        clear hb2
        go_wp2_with fail
        go_ret
        exact ⟨rfl, HB2.out⟩
end Go.Proofs.YtmnbcofonhlplaaDoor.markGauges
