/-
  MarkReads: what its own walk leaves.
-/
import Derived.Test.YtmnbcofonhlplaaDoorPd
import Derived.Test.YtmnbcofonhlplaaDoorAc
namespace Go.Proofs.YtmnbcofonhlplaaDoor.markReads
open Go.ChangeShapes Go.WideShapes Go.ChangeAt Go.RowKit Go.Deep Go.Lib
set_option linter.unusedSimpArgs false

theorem parse_long (s : ByteArray) (h : (65536 : Int) < (s.size : Int)) (w : World) : Calls Tryd.prog 16 #[.string s] w fun e w' => e = .returned (.tuple #[.pointer none, .int .i64 3]) ∧ w = w' := by
  go_enter Tryd.func16, Tryd.ntmps16
  go_wp2_with fail
  go_ret2
  exact ⟨rfl, rfl⟩
theorem refParse_long (s : ByteArray) (h : (65536 : Int) < (s.size : Int)) (w : World) : Calls Tryd.prog 20 #[.string s] w fun e w' => e = .returned (.tuple #[.pointer none, .int .i64 3]) ∧ w = w' := by
  go_enter Tryd.func20, Tryd.ntmps20
  go_wp2_with fail
  go_ret2
  exact ⟨rfl, rfl⟩

set_option maxRecDepth 100000 in
set_option maxHeartbeats 4000000 in
theorem walk (s : ByteArray) (t : Int) (w : World) (hE : EnvR w.heap.size w) :
    Calls Tryd.prog 4 #[.string s, .int .i64 t] w fun e w' => e = .returned (.bool true) ∧ Below w.heap.size w w' := by
  have HW := Lib.hid awake6_any
  by_cases h3 : 131072 < s.size
  · have h3' : (131072 : Int) < (s.size : Int) := by omega
    clear h3 hE
    go_enter Tryd.func4, Tryd.ntmps4
    go_wp2_with fail
    refine (HW.out _).mono ?_
    rintro e w1 ⟨rfl, hb1⟩
    have HB1 := Lib.hid hb1
    clear hb1
    go_wp2_with fail
    go_ret
    exact ⟨rfl, HB1.out⟩
  have h3' : (s.size : Int) ≤ (131072 : Int) := by omega
  clear h3
  by_cases h4 : 65536 < s.size
  · have h4' : (65536 : Int) < (s.size : Int) := by omega
    have HP := Lib.hid fun W => parse_long s h4' W
    have HR := Lib.hid fun W => refParse_long s h4' W
    clear h4 h4' hE
    go_enter Tryd.func4, Tryd.ntmps4
    go_wp2_with fail
    refine (HP.out _).mono ?_
    rintro e w1 ⟨rfl, rfl⟩
    go_wp2_with fail
    refine (HR.out _).mono ?_
    rintro e w1 ⟨rfl, rfl⟩
    go_wp2_with fail
    refine (HW.out _).mono ?_
    rintro e w1 ⟨rfl, hb1⟩
    have HB1 := Lib.hid hb1
    clear hb1
    go_wp2_with fail
    go_ret
    exact ⟨rfl, HB1.out⟩
  by_cases hG : IsG s.data.toList
  · obtain ⟨b, m, q, hb, hj, he⟩ := hG
    obtain ⟨sv, hsv⟩ : ∃ sv, sv = (⟨(gText b m q).toArray⟩ : ByteArray) := ⟨_, rfl⟩
    have hss : s = sv := by rw [hsv]; exact bytes_inj he
    subst hss
    have HBR := Lib.hid hb
    have HJ := Lib.hid hj
    have hP := parse_text b m q hb hj.1 hj.2.1 hj.2.2 w hE.env
    rw [← hsv] at hP
    have HP := Lib.hid hP
    have hR := fun (u : World) (k : Below w.heap.size w u) => refParse_text b m q hb hj u ((hE.on k).up k.size).env
    rw [← hsv] at hR
    have HR := Lib.hid hR
    have hT := fun (B : Nat) (u : World) (g : GaP u B b m q) (k : Below w.heap.size w u) => gaText_any B b m q hb hj.1 u g ((hE.on k).up k.size).env.tab
    unfold TextPost at hT
    rw [← hsv] at hT
    have HT := Lib.hid hT
    have b3 : (m != m) = false := by simp
    have b4 : (q != q) = false := by simp
    clear h4 hb hj he hsv hE hP hR hT
    go_enter Tryd.func4, Tryd.ntmps4
    go_wp2_with fail
    refine HP.out.mono ?_
    rintro e w1 ⟨B, rfl, hB, hG1, k1⟩
    have HG1 := Lib.hid hG1
    have HK1 := Lib.hid k1
    have HSB := Lib.hid hB
    clear hG1 k1 hB HP
    go_wp2_with fail
    refine (HR.out _ HK1.out).mono ?_
    rintro e w2 ⟨C, rfl, hC, hG2, k2⟩
    have HG2 := Lib.hid (show GaP w2 B b m q from HG1.out.belowV k2 HG1.out.lt)
    have HR2 := Lib.hid hG2
    have HK2 := Lib.hid (HK1.out.trans (k2.mono HK1.out.size))
    have HSC := Lib.hid (show w.heap.size ≤ C by have := HK1.out.size; omega)
    have HT2 := Lib.hid (HT.out B w2 HG2.out HK2.out)
    clear hG2 k2 hC HR HG1 HK1 HT
    go_wp2_with fail
    refine HT2.out.mono ?_
    rintro e w3 ⟨rfl, k3⟩
    have HG3 := Lib.hid (show GaP w3 B b m q from HG2.out.belowV k3 HG2.out.lt)
    have HR3 := Lib.hid (show GaR w3 C b m q from HR2.out.belowV k3 HR2.out.lt)
    have HK3 := Lib.hid (HK2.out.trans (k3.mono HK2.out.size))
    clear k3 HG2 HR2 HK2 HT2
    have HNE := Lib.hid (show B ≠ C from blk_ne HG3.out HR3.out (by decide))
    have HS1 := Lib.hid (gaSee_any B b m t q HBR.out HJ.out.1 w3 HG3.out)
    have HS2 := Lib.hid fun (u : World) (g : Grew w3 B u) => grSee_any C b m t q HBR.out u (show GaR u C b m q from HR3.out.keepG g (by intro e; exact HNE.out (Option.some.inj e).symm))
    have HM := Lib.hid (see_range (t := t) (q := q) HBR.out HJ.out.1)
    unfold SeeP at HS1
    unfold SeeR at HS2
    generalize seeMark b m t q = m' at HS1 HS2 HM
    generalize seeLate t m q = lt at HS1 HS2
    generalize seeErr t q = er at HS1 HS2
    go_wp2_with fail
    refine (gaMark_any B b m q HJ.out.1 w3 HG3.out).mono ?_
    rintro e w4 ⟨rfl, rfl⟩
    go_wp2_with fail
    refine (grMark_any C b m q w3 HR3.out).mono ?_
    rintro e w4 ⟨rfl, rfl⟩
    go_wp2_with fail
    refine (gaClosed_any B b m q w3 HG3.out).mono ?_
    rintro e w4 ⟨rfl, rfl⟩
    go_wp2_with fail
    refine (grClosed_any C b m q w3 HR3.out).mono ?_
    rintro e w4 ⟨rfl, rfl⟩
    go_wp2_with fail
    refine HS1.out.mono ?_
    rintro e w4 ⟨rfl, hG4, g4⟩
    have HG4 := Lib.hid hG4
    have HK4 := Lib.hid (HK3.out.trans (g4.toBelow HSB.out HK3.out.size))
    have HSS := Lib.hid (HS2.out w4 g4)
    clear hG4 g4 HS1 HS2 b3 b4
    go_wp2_with fail
    refine HSS.out.mono ?_
    rintro e w5 ⟨rfl, hR5, g5⟩
    have HK5 := Lib.hid (HK4.out.trans (g5.toBelow HSC.out HK4.out.size))
    have HG5 := Lib.hid (show GaP w5 B b m' q from HG4.out.keepG g5 (by intro e; exact HNE.out (Option.some.inj e)))
    have HR5 := Lib.hid hR5
    have b1 : (lt == lt) = true := by simp
    have b2 : (er == er) = true := by simp
    have b5 : (m' == m') = true := by simp
    clear hR5 g5 HSS HG4 HK4
    go_wp2_with fail
    refine (gaMark_any B b m' q HM.out w5 HG5.out).mono ?_
    rintro e w6 ⟨rfl, rfl⟩
    go_wp2_with fail
    refine (grMark_any C b m' q w5 HR5.out).mono ?_
    rintro e w6 ⟨rfl, rfl⟩
    go_wp2_with fail
    refine (HW.out _).mono ?_
    rintro e w6 ⟨rfl, hb6⟩
    have HB6 := Lib.hid (HK5.out.trans (hb6.mono HK5.out.size))
    clear hb6
    go_wp2_with fail
    go_ret
    exact ⟨rfl, HB6.out⟩
  · have HP := Lib.hid (parse_not s (by omega) hG w hE)
    have HR := Lib.hid fun (u : World) (k : Below w.heap.size w u) => refParse_not s (by omega) hG u ((hE.on k).up k.size).env
    unfold NotPost at HP HR
    clear h4 hG hE
    go_enter Tryd.func4, Tryd.ntmps4
    go_wp2_with fail
    refine HP.out.mono ?_
    rintro e w1 ⟨rfl, k1⟩
    have HR1 := Lib.hid (HR.out _ k1)
    have HK1 := Lib.hid k1
    clear k1 HP HR
    go_wp2_with fail
    refine HR1.out.mono ?_
    rintro e w2 ⟨rfl, k2⟩
    have HK2 := Lib.hid (HK1.out.trans (k2.mono HK1.out.size))
    clear k2 HK1 HR1
    go_wp2_with fail
    refine (HW.out _).mono ?_
    rintro e w3 ⟨rfl, hb3⟩
    have HB3 := Lib.hid (HK2.out.trans (hb3.mono HK2.out.size))
    clear hb3
    go_wp2_with fail
    go_ret
    exact ⟨rfl, HB3.out⟩
end Go.Proofs.YtmnbcofonhlplaaDoor.markReads
