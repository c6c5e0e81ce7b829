/-
  Parse of the document's own rows: the walk.
-/
import Derived.Test.YtledgnolmiecfaaGreatDoorRy
import Derived.Test.YtledgnolmiecfaaGreatDoorRz
namespace Go.Proofs.YtledgnolmiecfaaGreatDoor
open Go.RowKit Go.Lib
set_option linter.unusedSimpArgs false
set_option linter.unusedVariables false

def RpPost (s : ByteArray) (w : World) (e : Ending) (w' : World) : Prop :=
  (∃ xs v, validRow xs = true ∧ textR xs = s.data.toList ∧ e = .returned (.tuple #[v, .int .i64 0]) ∧ OwnsV w' w.heap.size v xs ∧ Below w.heap.size w w') ∨
  (¬ IsRow s.data.toList ∧ e = .returned (.tuple #[.slice none 0 0, .int .i64 2]) ∧ Below w.heap.size w w')
theorem validVs_snoc {xs : List Val} {x0 x1 : Int} {x2 : ByteArray} (h : validVs xs = true) (hx : validV x0 x1 x2 = true) : validVs (xs ++ [(x0, x1, x2)]) = true := by
  unfold validVs at h ⊢
  rw [List.all_append, h, List.all_cons]
  simpa using hx

set_option maxRecDepth 100000 in
set_option maxHeartbeats 4000000 in
theorem refParse_any (s : ByteArray) (hs : s.size ≤ 65536) (hp : 0 < s.size) (w : World) (hT : Tab w.heap.size w) :
    Calls Tryz.prog 29 #[.string s] w (RpPost s w) := by
  obtain ⟨i0, hi, hz0, hz1, hz2⟩ := info_parts infoV
  have hne : s.data.toList ≠ [] := fun e => by
    have h1 : s.data.toList.length = s.size := by simp
    rw [e] at h1
    simp only [List.length_nil] at h1
    omega
  have y1 : ¬ s.toList = [] := by rw [ByteArray.toList_eq]; exact hne
  have y2 : s.toList.isEmpty = false := by simpa using y1
  have g1 : (s.size : Int) ≤ 65536 := by omega
  have g2 : ¬ (65536 : Int) < (s.size : Int) := by omega
  have HQ0 := Lib.hid (readR_start hne)
  have HVA := Lib.hid fun W (k : Below w.heap.size w W) i (hi : i ≤ s.size) => refValue_any s (by omega) i hi W (hT.up k k.size)
  have HS := Lib.hid (And.intro hs hp)
  clear hne hT
  go_enter Tryz.func29, Tryz.ntmps29
  go_wp2_with fail
  go_loopw [4, 5] (fun o t wr => ∃ (xs : List Val) (cap : Nat) (q : Option Addr) (i : Nat), o = .slice q xs.length cap ∧ t = .int .i64 i ∧ i ≤ s.size ∧ xs.length ≤ 8 ∧ Hid (validVs xs = true) ∧ Hid (OwnsV wr w.heap.size o xs) ∧ Hid (ReadR s.data.toList xs (s.data.toList.drop i)) ∧ Hid (Below w.heap.size w wr)) (fun o _ _ => 8 - lenOf o)
  case atStart => exact ⟨[], 0, none, 0, rfl, rfl, Nat.zero_le _, Nat.zero_le _, rfl, World.ownsRow_nil _ _ _ _, HQ0.out, Below.refl _ _⟩
  case round =>
    clear HQ0 y1 y2
    obtain ⟨xs, cap, q, i, rfl, rfl, hi', h8, HVS, HO, HQ, HB⟩ := hrel
    have HC := Lib.hid (HVA.out wr HB.out i hi')
    have hsz := HB.out.size
    clear HVA
    go_wp2_with fail
    refine HC.out.mono ?_
    rintro e w2 ⟨x0, x1, x2, j, rfl, k2, hv⟩
    have HR := Lib.hid hv
    have HB2 := Lib.hid (HB.out.trans (k2.mono hsz))
    have HO2 := Lib.hid (World.ownsRow.alloc (owns_below HO.out k2) (.cells #[.int .i64 x0, .int .i64 x1, .string x2] 40))
    have hs2 : w.heap.size ≤ w2.heap.size := Nat.le_trans hsz k2.size
    have HB3 := Lib.hid (HB2.out.alloc hs2 (.cells #[.int .i64 x0, .int .i64 x1, .string x2] 40))
    have HV3 := Lib.hid (show Blk (w2.alloc (.cells #[.int .i64 x0, .int .i64 x1, .string x2] 40)) w2.heap.size 40 #[.int .i64 x0, .int .i64 x1, .string x2] from Blk.new _ _ _)
    have hs3 : (w2.alloc (.cells #[.int .i64 x0, .int .i64 x1, .string x2] 40)).heap.size = w2.heap.size + 1 := by simp
    clear k2 HC HO HB hv HB2
    generalize hw3 : w2.alloc (.cells #[.int .i64 x0, .int .i64 x1, .string x2] 40) = w3 at HB3 HO2 HV3 hs3
    have d0 := HV3.out.cell 0
    have d1 := HV3.out.cell 1
    have d2 := HV3.out.cell 2
    simp only [List.getElem?_toArray, List.getElem?_cons_zero, List.getElem?_cons_succ] at d0 d1 d2
    rcases HR.out with ⟨rfl, hn⟩ | ⟨k, rfl, hik, hks, hu, hn⟩
    · have HX := Lib.hid (readR_none HQ.out hn)
      clear hn HR HQ HO2 HV3
      go_wp2_with fail
      go_ret2
      exact .inr ⟨HX.out, rfl, HB3.out⟩
    · have jn : ¬ (k : Int) < 0 := by omega
      have HVV := Lib.hid (fun W => refVV_b x0 x1 x2 W)
      have HU := Lib.hid hu
      have HN := Lib.hid hn
      have HK := Lib.hid (And.intro hik hks)
      clear hn hu HR
      cases hvx : validV x0 x1 x2 with
      | false =>
        rw [hvx] at HVV
        have HX := Lib.hid (readR_bad HQ.out HN.out (.inl hvx))
        clear hvx HQ HO2 HN HU
        go_wp2_with fail
        refine (HVV.out _).mono ?_
        rintro e w4 ⟨rfl, k4⟩
        have HB4 := Lib.hid (HB3.out.trans (k4.mono HB3.out.size))
        clear k4
        go_wp2_with fail
        go_ret2
        exact .inr ⟨HX.out, rfl, HB4.out⟩
      | true =>
        rw [hvx] at HVV
        have HVX := Lib.hid hvx
        clear hvx
        by_cases hlt : xs.length = 8
        · have HX := Lib.hid (readR_bad HQ.out HN.out (.inr (.inl hlt)))
          have e8 : ((xs.length : Int) == 8) = true := by rw [beq_iff_eq]; omega
          clear HQ HO2 HN HU
          go_wp2_with fail
          refine (HVV.out _).mono ?_
          rintro e w4 ⟨rfl, k4⟩
          have HB4 := Lib.hid (HB3.out.trans (k4.mono HB3.out.size))
          clear k4
          go_wp2_with fail
          go_ret2
          exact .inr ⟨HX.out, rfl, HB4.out⟩
        · have e8 : ((xs.length : Int) == 8) = false := by rw [beq_eq_false_iff_ne]; omega
          have HLT := Lib.hid (show xs.length < 8 by omega)
          go_wp2_with fail
          refine (HVV.out _).mono ?_
          rintro e w4 ⟨rfl, k4⟩
          have HB4 := Lib.hid (HB3.out.trans (k4.mono HB3.out.size))
          have HV4 := HV3.out.belowV k4 (by omega)
          have hO4 := owns_below HO2.out k4
          have hs4 : w.heap.size ≤ w4.heap.size := HB4.out.size
          have c0 := HV4.cell 0
          have c1 := HV4.cell 1
          have c2 := HV4.cell 2
          simp only [List.getElem?_toArray, List.getElem?_cons_zero, List.getElem?_cons_succ] at c0 c1 c2
          clear k4 HV4 HV3 HO2
          by_cases hke : k = s.size
          · have e1 : ((k : Int) == (s.size : Int)) = true := by rw [beq_iff_eq]; omega
            have HX := Lib.hid (readR_end HQ.out (x := (x0, x1, x2)) (by rw [HU.out, hke]; congr 1; exact List.drop_eq_nil_of_le (by simp)))
            have HVR := Lib.hid (show validRow (xs ++ [(x0, x1, x2)]) = true by unfold validRow; rw [validVs_snoc HVS.out HVX.out, Bool.and_true, decide_eq_true_iff, List.length_append]; have := HLT.out; simp; omega)
            clear HQ HN HU HVV
            have hkn : (k : Int) = (s.size : Int) := by omega
            go_wp2_with (at_builtin; refine wpList_append_own _ rfl _ _ 36 rfl w.heap.size 40 i0 (.agg #[.int .i64 0, .int .i64 0, .string ⟨#[]⟩]) 3 32 Tryz.underlying36 hi hz0 hz1 hz2 rfl (by decide) _ _ _ rfl (World.ownsRow.alloc hO4 _) ⟨w4.heap.size, 0, none⟩ 1 1 [.int .i64 x0, .int .i64 x1, .string x2] rfl rfl (cells_newR _ _ _) (by simp [Value.oneCell']) (by have := HLT.out; unfold maxLen; omega) (by have := HLT.out; omega) (by simp <;> omega) ?_; intro v' w5 hown' hgrow _; have HF := Lib.hid (show w5.ownsRow w.heap.size 40 3 v' (xs.length + 1) (flatV (xs ++ [(x0, x1, x2)])) ∧ Below w.heap.size w4 w5 from ⟨by rw [flatV_app]; simpa [flatV, cellsV] using hown', ((Below.refl w.heap.size w4).alloc hs4 (.cells #[.int .i64 x0, .int .i64 x1, .string x2] 40)).grown hgrow (by simp; omega) (fun k e => (World.ownsRow.lt hO4 k e).1)⟩); clear hown' hgrow)
            obtain ⟨q', cap', hv'⟩ := slice_of_owns HF.out.1
            subst hv'
            have HB5 := Lib.hid (HB4.out.trans HF.out.2)
            clear hO4
            go_wp2_with fail
            go_ret2
            exact .inl ⟨xs ++ [(x0, x1, x2)], _, HVR.out, by rw [textR_tail]; exact HX.out.symm, rfl, by have := HF.out.1; unfold OwnsV; rw [List.length_append]; exact this, HB5.out⟩
          · have e1 : ((k : Int) == (s.size : Int)) = false := by rw [beq_eq_false_iff_ne]; omega
            have hkl : k < s.size := by omega
            have k0 : (0 : Int) ≤ (k : Int) := by omega
            have k1 : (k : Int) < (s.size : Int) := by omega
            have hkn : ¬ (k : Int) = (s.size : Int) := by omega
            by_cases h44 : s[k].toNat = 44
            · have e44 : ((s[k].toNat : Int) == 44) = true := by rw [h44]; rfl
              have n44 : ((s[k].toNat : Int) != 44) = false := by rw [h44]; rfl
              have hdk : s.data.toList.drop k = 44 :: s.data.toList.drop (k + 1) := by rw [drop_at hkl, u8_of h44]; rfl
              have HX := Lib.hid (readR_next HQ.out (x := (x0, x1, x2)) (by rw [HU.out]; exact congrArg _ hdk) (fun y0 y1 y2 r hv hr h => by rw [← hdk]; exact HN.out y0 y1 y2 r hv hr h))
              have HVR := Lib.hid (validVs_snoc HVS.out HVX.out)
              have HKL := Lib.hid hkl
              clear HQ HN HU HVV h44 hdk hke
              go_wp2_with (at_builtin; refine wpList_append_own _ rfl _ _ 36 rfl w.heap.size 40 i0 (.agg #[.int .i64 0, .int .i64 0, .string ⟨#[]⟩]) 3 32 Tryz.underlying36 hi hz0 hz1 hz2 rfl (by decide) _ _ _ rfl (World.ownsRow.alloc hO4 _) ⟨w4.heap.size, 0, none⟩ 1 1 [.int .i64 x0, .int .i64 x1, .string x2] rfl rfl (cells_newR _ _ _) (by simp [Value.oneCell']) (by have := HLT.out; unfold maxLen; omega) (by have := HLT.out; omega) (by simp <;> omega) ?_; intro v' w5 hown' hgrow _; have HF := Lib.hid (show w5.ownsRow w.heap.size 40 3 v' (xs.length + 1) (flatV (xs ++ [(x0, x1, x2)])) ∧ Below w.heap.size w4 w5 from ⟨by rw [flatV_app]; simpa [flatV, cellsV] using hown', ((Below.refl w.heap.size w4).alloc hs4 (.cells #[.int .i64 x0, .int .i64 x1, .string x2] 40)).grown hgrow (by simp; omega) (fun k e => (World.ownsRow.lt hO4 k e).1)⟩); clear hown' hgrow)
              obtain ⟨q', cap', hv'⟩ := slice_of_owns HF.out.1
              subst hv'
              have HB5 := Lib.hid (HB4.out.trans HF.out.2)
              clear hO4
              go_wp2_with fail
              go_roundw
              case rel => exact ⟨xs ++ [(x0, x1, x2)], cap', q', k + 1, by simp, by have := HKL.out; have := HS.out.1; go_num, HKL.out, by have := HLT.out; simp; omega, HVR.out, Lib.hid (by unfold OwnsV; rw [List.length_append]; exact HF.out.1), HX.out, HB5.out⟩
              case measure => have := HLT.out; simp [lenOf]; omega
            · have e44 : ((s[k].toNat : Int) == 44) = false := by rw [beq_eq_false_iff_ne]; omega
              have n44 : ((s[k].toNat : Int) != 44) = true := by rw [bne_iff_ne]; omega
              have HX := Lib.hid (readR_bad HQ.out HN.out (.inr (.inr ⟨by rw [drop_at hkl]; simp, by rw [head_drop hkl]; intro h; exact h44 (by rw [Option.some.inj h]; rfl)⟩)))
              clear HQ HN HU HVV h44 hke
              go_wp2_with (at_builtin; refine wpList_append_own _ rfl _ _ 36 rfl w.heap.size 40 i0 (.agg #[.int .i64 0, .int .i64 0, .string ⟨#[]⟩]) 3 32 Tryz.underlying36 hi hz0 hz1 hz2 rfl (by decide) _ _ _ rfl (World.ownsRow.alloc hO4 _) ⟨w4.heap.size, 0, none⟩ 1 1 [.int .i64 x0, .int .i64 x1, .string x2] rfl rfl (cells_newR _ _ _) (by simp [Value.oneCell']) (by have := HLT.out; unfold maxLen; omega) (by have := HLT.out; omega) (by simp <;> omega) ?_; intro v' w5 hown' hgrow _; have HF := Lib.hid (show w5.ownsRow w.heap.size 40 3 v' (xs.length + 1) (flatV (xs ++ [(x0, x1, x2)])) ∧ Below w.heap.size w4 w5 from ⟨by rw [flatV_app]; simpa [flatV, cellsV] using hown', ((Below.refl w.heap.size w4).alloc hs4 (.cells #[.int .i64 x0, .int .i64 x1, .string x2] 40)).grown hgrow (by simp; omega) (fun k e => (World.ownsRow.lt hO4 k e).1)⟩); clear hown' hgrow)
              obtain ⟨q', cap', hv'⟩ := slice_of_owns HF.out.1
              subst hv'
              have HB5 := Lib.hid (HB4.out.trans HF.out.2)
              clear hO4
              go_wp2_with fail
              go_ret2
              exact .inr ⟨HX.out, rfl, HB5.out⟩
end Go.Proofs.YtledgnolmiecfaaGreatDoor
