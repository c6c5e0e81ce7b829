/-
  The reader of package row at any text: value.
-/
import Derived.Test.YtmjobnakaamlpaaDoorRq
namespace Go.Proofs.YtmjobnakaamlpaaDoor
open Go.RowKit Go.Lib
set_option linter.unusedSimpArgs false
set_option linter.unusedVariables false
attribute [local go_sem] run_store_funcR

set_option maxRecDepth 100000 in
set_option maxHeartbeats 4000000 in
theorem value_any (R B : Nat) (t : List UInt8) (hl : t.length ≤ 70000) (w : World) (h : Rdr w R t) (hE : Env B w) (hB : B ≤ R) :
    Calls Tryd.prog 27 #[.pointer (some ⟨R, 0, none⟩)] w (ValPost w R t.length) := by
  have hRl : R < w.heap.size := Blk.lt h
  have H0 := Lib.hid fun W t' (h : Rdr W R t') (hl : t'.length ≤ 70000) (k : Below B w W) => null_val R t' W h
  have H1 := Lib.hid fun W t' (h : Rdr W R t') (hl : t'.length ≤ 70000) (k : Below B w W) => number_any R B t' hl W h (hE.on k) hB
  have H2 := Lib.hid fun W t' (h : Rdr W R t') (hl : t'.length ≤ 70000) (k : Below B w W) => quoted_any R B t' hl W h (hE.on k) hB
  have hb1 : Below w.heap.size w (w.alloc (.cells #[.int .i64 0, .int .i64 0, .string ⟨#[]⟩] 37)) := (Below.refl _ _).alloc (Nat.le_refl _) _
  have HR1 := Lib.hid (h.belowV hb1)
  have HK1 := Lib.hid (show Blk (w.alloc (.cells #[.int .i64 0, .int .i64 0, .string ⟨#[]⟩] 37)) w.heap.size 37 #[.int .i64 0, .int .i64 0, .string ⟨#[]⟩] from Blk.new _ _ _)
  have HG1 := Lib.hid (grew_below R hb1)
  have hs1 : (w.alloc (.cells #[.int .i64 0, .int .i64 0, .string ⟨#[]⟩] 37)).heap.size = w.heap.size + 1 := by simp
  have HN2 := Lib.hid (Blk.newAt (w.alloc (.cells #[.int .i64 0, .int .i64 0, .string ⟨#[]⟩] 37)) 62 #[.nilFunc, .nilFunc, .nilFunc] hs1)
  have n0 := HN2.out.cell 0
  have n1 := HN2.out.cell 1
  have n2 := HN2.out.cell 2
  have m0 := HN2.out.froz 0
  have m1 := HN2.out.froz 1
  have m2 := HN2.out.froz 2
  simp only [List.getElem?_toArray, List.getElem?_cons_zero, List.getElem?_cons_succ] at n0 n1 n2
  have HS := Lib.hid (show Rdr ((w.alloc (.cells #[.int .i64 0, .int .i64 0, .string ⟨#[]⟩] 37)).alloc (.cells #[.func (.func 33) #[] #[], .func (.func 34) #[] #[], .func (.func 35) #[] #[]] 62)) R t ∧ Grew w R ((w.alloc (.cells #[.int .i64 0, .int .i64 0, .string ⟨#[]⟩] 37)).alloc (.cells #[.func (.func 33) #[] #[], .func (.func 34) #[] #[], .func (.func 35) #[] #[]] 62)) ∧ Blk ((w.alloc (.cells #[.int .i64 0, .int .i64 0, .string ⟨#[]⟩] 37)).alloc (.cells #[.func (.func 33) #[] #[], .func (.func 34) #[] #[], .func (.func 35) #[] #[]] 62)) w.heap.size 37 #[.int .i64 0, .int .i64 0, .string ⟨#[]⟩] ∧ w.heap.size + 1 ≤ ((w.alloc (.cells #[.int .i64 0, .int .i64 0, .string ⟨#[]⟩] 37)).alloc (.cells #[.func (.func 33) #[] #[], .func (.func 34) #[] #[], .func (.func 35) #[] #[]] 62)).heap.size from
    ⟨Blk.allocG HR1.out _, HG1.out.and (grew_below R ((Below.refl _ _).alloc (Nat.le_refl _) _)), Blk.allocG HK1.out _, by simp⟩)
  have HLL := Lib.hid hl
  clear h hb1 hs1 hE hl
  generalize HTE : t.length = T at HLL ⊢
  go_enter Tryd.func27, Tryd.ntmps27
  go_wp2_with fail
  go_loopw [11] (fun a wr => ∃ (i : Nat) (t' : List UInt8), a = .int .i64 i ∧ i ≤ 3 ∧ Hid (Rdr wr R t') ∧ Hid (t'.length ≤ T ∧ T ≤ 70000) ∧ Hid (Grew w R wr) ∧ Hid (Blk wr w.heap.size 37 #[.int .i64 0, .int .i64 0, .string ⟨#[]⟩]) ∧ w.heap.size + 1 ≤ wr.heap.size) (fun a _ => 3 - (RowKit.intOf a).toNat)
  case atStart =>
    exact ⟨0, t, rfl, Nat.zero_le _, HS.out.1, Lib.hid ⟨Nat.le_of_eq HTE, HLL.out⟩, HS.out.2.1, HS.out.2.2.1, HS.out.2.2.2⟩
  case round =>
    clear HR1 HK1 HG1 HS HN2 n0 n1 n2 m0 m1 m2 HTE HLL
    obtain ⟨i, t', rfl, hi, HR, HTL, HG, HK, hsz⟩ := hrel
    have HBW := Lib.hid (HG.out.low hB (by omega))
    have hcase : i = 0 ∨ i = 1 ∨ i = 2 ∨ i = 3 := by omega
    rcases hcase with rfl | rfl | rfl | rfl
    · skip
      have HC := Lib.hid (H0.out wr t' HR.out (by have := HTL.out; omega) HBW.out)
      have hix := index_0
      clear HBW
      go_wp2_with fail
      refine HC.out.mono ?_
      rintro e w2 ⟨x0, x1, x2, b, t2, rfl, r2, l2, l3, k2⟩
      have HR2 := Lib.hid (Blk.allocG r2 (.cells #[.int .i64 x0, .int .i64 x1, .string x2] 37))
      have HG2 := Lib.hid ((HG.out.and k2).and (grew_below R ((Below.refl _ w2).alloc (Nat.le_refl _) (.cells #[.int .i64 x0, .int .i64 x1, .string x2] 37))))
      have HK2 := Lib.hid ((HK.out.keepG k2 (by simp only [ne_eq, Option.some.injEq]; omega)).allocG (.cells #[.int .i64 x0, .int .i64 x1, .string x2] 37))
      have HV2 := Lib.hid (show Blk (w2.alloc (.cells #[.int .i64 x0, .int .i64 x1, .string x2] 37)) w2.heap.size 37 #[.int .i64 x0, .int .i64 x1, .string x2] from Blk.new _ _ _)
      have hs2 : w.heap.size + 1 ≤ w2.heap.size := by have := k2.size; omega
      have HL2 := Lib.hid (And.intro l2 l3)
      clear r2 k2 HC HR HG HK l2 l3
      cases b with
      | false =>
        go_wp2_with fail
        go_roundw
        case rel => exact ⟨0 + 1, t2, by go_num, by omega, HR2.out, Lib.hid (by have := HTL.out; have := HL2.out.1; omega), HG2.out, HK2.out, by simp; omega⟩
        case measure => simp [RowKit.intOf]
      | true =>
        have hs3 : (w2.alloc (.cells #[.int .i64 x0, .int .i64 x1, .string x2] 37)).heap.size = w2.heap.size + 1 := by simp
        generalize hw3 : w2.alloc (.cells #[.int .i64 x0, .int .i64 x1, .string x2] 37) = w3 at HR2 HG2 HK2 HV2 hs3
        have c0 := HK2.out.cell 0
        have c1 := HK2.out.cell 1
        have c2 := HK2.out.cell 2
        have f0 := HK2.out.froz 0
        have f1 := HK2.out.froz 1
        have f2 := HK2.out.froz 2
        simp only [List.getElem?_toArray, List.getElem?_cons_zero, List.getElem?_cons_succ] at c0 c1 c2
        have d0 := HV2.out.cell 0
        have d1 := HV2.out.cell 1
        have d2 := HV2.out.cell 2
        simp only [List.getElem?_toArray, List.getElem?_cons_zero, List.getElem?_cons_succ] at d0 d1 d2
        have HF := Lib.hid (show Rdr (((w3.setCell ⟨w.heap.size, 0, none⟩ (.int .i64 x0)).setCell ⟨w.heap.size, 1, none⟩ (.int .i64 x1)).setCell ⟨w.heap.size, 2, none⟩ (.string x2)) R t2 ∧ Grew w R (((w3.setCell ⟨w.heap.size, 0, none⟩ (.int .i64 x0)).setCell ⟨w.heap.size, 1, none⟩ (.int .i64 x1)).setCell ⟨w.heap.size, 2, none⟩ (.string x2)) ∧ Blk (((w3.setCell ⟨w.heap.size, 0, none⟩ (.int .i64 x0)).setCell ⟨w.heap.size, 1, none⟩ (.int .i64 x1)).setCell ⟨w.heap.size, 2, none⟩ (.string x2)) w.heap.size 37 #[.int .i64 x0, .int .i64 x1, .string x2] from
          ⟨Blk.setOther (Blk.setOther (Blk.setOther HR2.out (by omega) _) (by omega) _) (by omega) _, grew_low HG2.out (((Below.refl w.heap.size w3).setCell (p := ⟨w.heap.size, 0, none⟩) (Nat.le_refl _) _).setCell (p := ⟨w.heap.size, 1, none⟩) (Nat.le_refl _) _ |>.setCell (p := ⟨w.heap.size, 2, none⟩) (Nat.le_refl _) _) (Nat.le_refl _), ((HK2.out.setG 0 _).setG 1 _).setG 2 _⟩)
        clear hs3
        go_wp2_with fail
        have r0 := HF.out.2.2.cell 0
        have r1 := HF.out.2.2.cell 1
        have r2 := HF.out.2.2.cell 2
        simp only [List.getElem?_toArray, List.getElem?_cons_zero, List.getElem?_cons_succ] at r0 r1 r2
        refine bodyPost_ret (v := .tuple #[.agg #[.int .i64 x0, .int .i64 x1, .string x2], .bool true]) (by simp [results, Tryd.f27, go_sem, r0, r1, r2]) rfl ?_
        exact ⟨x0, x1, x2, true, t2, rfl, HF.out.1, by have := HTL.out; have := HL2.out.1; omega, fun _ => by have := HTL.out; have := HL2.out.2 trivial; omega, HF.out.2.1⟩
    · skip
      have HC := Lib.hid (H1.out wr t' HR.out (by have := HTL.out; omega) HBW.out)
      have hix := index_1
      clear HBW
      go_wp2_with fail
      refine HC.out.mono ?_
      rintro e w2 ⟨x0, x1, x2, b, t2, rfl, r2, l2, l3, k2⟩
      have HR2 := Lib.hid (Blk.allocG r2 (.cells #[.int .i64 x0, .int .i64 x1, .string x2] 37))
      have HG2 := Lib.hid ((HG.out.and k2).and (grew_below R ((Below.refl _ w2).alloc (Nat.le_refl _) (.cells #[.int .i64 x0, .int .i64 x1, .string x2] 37))))
      have HK2 := Lib.hid ((HK.out.keepG k2 (by simp only [ne_eq, Option.some.injEq]; omega)).allocG (.cells #[.int .i64 x0, .int .i64 x1, .string x2] 37))
      have HV2 := Lib.hid (show Blk (w2.alloc (.cells #[.int .i64 x0, .int .i64 x1, .string x2] 37)) w2.heap.size 37 #[.int .i64 x0, .int .i64 x1, .string x2] from Blk.new _ _ _)
      have hs2 : w.heap.size + 1 ≤ w2.heap.size := by have := k2.size; omega
      have HL2 := Lib.hid (And.intro l2 l3)
      clear r2 k2 HC HR HG HK l2 l3
      cases b with
      | false =>
        go_wp2_with fail
        go_roundw
        case rel => exact ⟨1 + 1, t2, by go_num, by omega, HR2.out, Lib.hid (by have := HTL.out; have := HL2.out.1; omega), HG2.out, HK2.out, by simp; omega⟩
        case measure => simp [RowKit.intOf]
      | true =>
        have hs3 : (w2.alloc (.cells #[.int .i64 x0, .int .i64 x1, .string x2] 37)).heap.size = w2.heap.size + 1 := by simp
        generalize hw3 : w2.alloc (.cells #[.int .i64 x0, .int .i64 x1, .string x2] 37) = w3 at HR2 HG2 HK2 HV2 hs3
        have c0 := HK2.out.cell 0
        have c1 := HK2.out.cell 1
        have c2 := HK2.out.cell 2
        have f0 := HK2.out.froz 0
        have f1 := HK2.out.froz 1
        have f2 := HK2.out.froz 2
        simp only [List.getElem?_toArray, List.getElem?_cons_zero, List.getElem?_cons_succ] at c0 c1 c2
        have d0 := HV2.out.cell 0
        have d1 := HV2.out.cell 1
        have d2 := HV2.out.cell 2
        simp only [List.getElem?_toArray, List.getElem?_cons_zero, List.getElem?_cons_succ] at d0 d1 d2
        have HF := Lib.hid (show Rdr (((w3.setCell ⟨w.heap.size, 0, none⟩ (.int .i64 x0)).setCell ⟨w.heap.size, 1, none⟩ (.int .i64 x1)).setCell ⟨w.heap.size, 2, none⟩ (.string x2)) R t2 ∧ Grew w R (((w3.setCell ⟨w.heap.size, 0, none⟩ (.int .i64 x0)).setCell ⟨w.heap.size, 1, none⟩ (.int .i64 x1)).setCell ⟨w.heap.size, 2, none⟩ (.string x2)) ∧ Blk (((w3.setCell ⟨w.heap.size, 0, none⟩ (.int .i64 x0)).setCell ⟨w.heap.size, 1, none⟩ (.int .i64 x1)).setCell ⟨w.heap.size, 2, none⟩ (.string x2)) w.heap.size 37 #[.int .i64 x0, .int .i64 x1, .string x2] from
          ⟨Blk.setOther (Blk.setOther (Blk.setOther HR2.out (by omega) _) (by omega) _) (by omega) _, grew_low HG2.out (((Below.refl w.heap.size w3).setCell (p := ⟨w.heap.size, 0, none⟩) (Nat.le_refl _) _).setCell (p := ⟨w.heap.size, 1, none⟩) (Nat.le_refl _) _ |>.setCell (p := ⟨w.heap.size, 2, none⟩) (Nat.le_refl _) _) (Nat.le_refl _), ((HK2.out.setG 0 _).setG 1 _).setG 2 _⟩)
        clear hs3
        go_wp2_with fail
        have r0 := HF.out.2.2.cell 0
        have r1 := HF.out.2.2.cell 1
        have r2 := HF.out.2.2.cell 2
        simp only [List.getElem?_toArray, List.getElem?_cons_zero, List.getElem?_cons_succ] at r0 r1 r2
        refine bodyPost_ret (v := .tuple #[.agg #[.int .i64 x0, .int .i64 x1, .string x2], .bool true]) (by simp [results, Tryd.f27, go_sem, r0, r1, r2]) rfl ?_
        exact ⟨x0, x1, x2, true, t2, rfl, HF.out.1, by have := HTL.out; have := HL2.out.1; omega, fun _ => by have := HTL.out; have := HL2.out.2 trivial; omega, HF.out.2.1⟩
    · skip
      have HC := Lib.hid (H2.out wr t' HR.out (by have := HTL.out; omega) HBW.out)
      have hix := index_2
      clear HBW
      go_wp2_with fail
      refine HC.out.mono ?_
      rintro e w2 ⟨x0, x1, x2, b, t2, rfl, r2, l2, l3, k2⟩
      have HR2 := Lib.hid (Blk.allocG r2 (.cells #[.int .i64 x0, .int .i64 x1, .string x2] 37))
      have HG2 := Lib.hid ((HG.out.and k2).and (grew_below R ((Below.refl _ w2).alloc (Nat.le_refl _) (.cells #[.int .i64 x0, .int .i64 x1, .string x2] 37))))
      have HK2 := Lib.hid ((HK.out.keepG k2 (by simp only [ne_eq, Option.some.injEq]; omega)).allocG (.cells #[.int .i64 x0, .int .i64 x1, .string x2] 37))
      have HV2 := Lib.hid (show Blk (w2.alloc (.cells #[.int .i64 x0, .int .i64 x1, .string x2] 37)) w2.heap.size 37 #[.int .i64 x0, .int .i64 x1, .string x2] from Blk.new _ _ _)
      have hs2 : w.heap.size + 1 ≤ w2.heap.size := by have := k2.size; omega
      have HL2 := Lib.hid (And.intro l2 l3)
      clear r2 k2 HC HR HG HK l2 l3
      cases b with
      | false =>
        go_wp2_with fail
        go_roundw
        case rel => exact ⟨2 + 1, t2, by go_num, by omega, HR2.out, Lib.hid (by have := HTL.out; have := HL2.out.1; omega), HG2.out, HK2.out, by simp; omega⟩
        case measure => simp [RowKit.intOf]
      | true =>
        have hs3 : (w2.alloc (.cells #[.int .i64 x0, .int .i64 x1, .string x2] 37)).heap.size = w2.heap.size + 1 := by simp
        generalize hw3 : w2.alloc (.cells #[.int .i64 x0, .int .i64 x1, .string x2] 37) = w3 at HR2 HG2 HK2 HV2 hs3
        have c0 := HK2.out.cell 0
        have c1 := HK2.out.cell 1
        have c2 := HK2.out.cell 2
        have f0 := HK2.out.froz 0
        have f1 := HK2.out.froz 1
        have f2 := HK2.out.froz 2
        simp only [List.getElem?_toArray, List.getElem?_cons_zero, List.getElem?_cons_succ] at c0 c1 c2
        have d0 := HV2.out.cell 0
        have d1 := HV2.out.cell 1
        have d2 := HV2.out.cell 2
        simp only [List.getElem?_toArray, List.getElem?_cons_zero, List.getElem?_cons_succ] at d0 d1 d2
        have HF := Lib.hid (show Rdr (((w3.setCell ⟨w.heap.size, 0, none⟩ (.int .i64 x0)).setCell ⟨w.heap.size, 1, none⟩ (.int .i64 x1)).setCell ⟨w.heap.size, 2, none⟩ (.string x2)) R t2 ∧ Grew w R (((w3.setCell ⟨w.heap.size, 0, none⟩ (.int .i64 x0)).setCell ⟨w.heap.size, 1, none⟩ (.int .i64 x1)).setCell ⟨w.heap.size, 2, none⟩ (.string x2)) ∧ Blk (((w3.setCell ⟨w.heap.size, 0, none⟩ (.int .i64 x0)).setCell ⟨w.heap.size, 1, none⟩ (.int .i64 x1)).setCell ⟨w.heap.size, 2, none⟩ (.string x2)) w.heap.size 37 #[.int .i64 x0, .int .i64 x1, .string x2] from
          ⟨Blk.setOther (Blk.setOther (Blk.setOther HR2.out (by omega) _) (by omega) _) (by omega) _, grew_low HG2.out (((Below.refl w.heap.size w3).setCell (p := ⟨w.heap.size, 0, none⟩) (Nat.le_refl _) _).setCell (p := ⟨w.heap.size, 1, none⟩) (Nat.le_refl _) _ |>.setCell (p := ⟨w.heap.size, 2, none⟩) (Nat.le_refl _) _) (Nat.le_refl _), ((HK2.out.setG 0 _).setG 1 _).setG 2 _⟩)
        clear hs3
        go_wp2_with fail
        have r0 := HF.out.2.2.cell 0
        have r1 := HF.out.2.2.cell 1
        have r2 := HF.out.2.2.cell 2
        simp only [List.getElem?_toArray, List.getElem?_cons_zero, List.getElem?_cons_succ] at r0 r1 r2
        refine bodyPost_ret (v := .tuple #[.agg #[.int .i64 x0, .int .i64 x1, .string x2], .bool true]) (by simp [results, Tryd.f27, go_sem, r0, r1, r2]) rfl ?_
        exact ⟨x0, x1, x2, true, t2, rfl, HF.out.1, by have := HTL.out; have := HL2.out.1; omega, fun _ => by have := HTL.out; have := HL2.out.2 trivial; omega, HF.out.2.1⟩
    · clear HBW
      have c0 := HK.out.cell 0
      have c1 := HK.out.cell 1
      have c2 := HK.out.cell 2
      have f0 := HK.out.froz 0
      have f1 := HK.out.froz 1
      have f2 := HK.out.froz 2
      simp only [List.getElem?_toArray, List.getElem?_cons_zero, List.getElem?_cons_succ] at c0 c1 c2
      have HF := Lib.hid (show Rdr (((wr.setCell ⟨w.heap.size, 0, none⟩ (.int .i64 0)).setCell ⟨w.heap.size, 1, none⟩ (.int .i64 0)).setCell ⟨w.heap.size, 2, none⟩ (.string ⟨#[]⟩)) R t' ∧ Grew w R (((wr.setCell ⟨w.heap.size, 0, none⟩ (.int .i64 0)).setCell ⟨w.heap.size, 1, none⟩ (.int .i64 0)).setCell ⟨w.heap.size, 2, none⟩ (.string ⟨#[]⟩)) ∧ Blk (((wr.setCell ⟨w.heap.size, 0, none⟩ (.int .i64 0)).setCell ⟨w.heap.size, 1, none⟩ (.int .i64 0)).setCell ⟨w.heap.size, 2, none⟩ (.string ⟨#[]⟩)) w.heap.size 37 #[.int .i64 0, .int .i64 0, .string ⟨#[]⟩] from
        ⟨Blk.setOther (Blk.setOther (Blk.setOther HR.out (by omega) _) (by omega) _) (by omega) _, grew_low HG.out (((Below.refl w.heap.size wr).setCell (p := ⟨w.heap.size, 0, none⟩) (Nat.le_refl _) _).setCell (p := ⟨w.heap.size, 1, none⟩) (Nat.le_refl _) _ |>.setCell (p := ⟨w.heap.size, 2, none⟩) (Nat.le_refl _) _) (Nat.le_refl _), ((HK.out.setG 0 _).setG 1 _).setG 2 _⟩)
      go_wp2_with fail
      have r0 := HF.out.2.2.cell 0
      have r1 := HF.out.2.2.cell 1
      have r2 := HF.out.2.2.cell 2
      simp only [List.getElem?_toArray, List.getElem?_cons_zero, List.getElem?_cons_succ] at r0 r1 r2
      refine bodyPost_ret (v := .tuple #[.agg #[.int .i64 0, .int .i64 0, .string ⟨#[]⟩], .bool false]) (by simp [results, Tryd.f27, go_sem, r0, r1, r2]) rfl ?_
      exact ⟨0, 0, ⟨#[]⟩, false, t', rfl, HF.out.1, HTL.out.1, fun h => (by cases h), HF.out.2.1⟩
end Go.Proofs.YtmjobnakaamlpaaDoor
