/-
  Format of the document's own clock, as a contract.
-/
import Derived.Test.YtakekegghpgeaaaDoorFm
namespace Go.Proofs.YtakekegghpgeaaaDoor
open Go.RowKit Go.Lib
set_option linter.unusedSimpArgs false

theorem three_bytes (p : List UInt8) (a b : Int) : (⟨p.toArray⟩ : ByteArray) ++ ⟨(Lib.itoa a).toArray⟩ ++ ⟨#[32]⟩ ++ ⟨(Lib.itoa b).toArray⟩ = ⟨(p ++ (Lib.itoa a ++ 32 :: Lib.itoa b)).toArray⟩ := by
  rw [ByteArray.mk_append_mk, ByteArray.mk_append_mk, ByteArray.mk_append_mk]
  simp
theorem four_bytes (p : List UInt8) (a b c : Int) : (⟨p.toArray⟩ : ByteArray) ++ ⟨(Lib.itoa a).toArray⟩ ++ ⟨#[32]⟩ ++ ⟨(Lib.itoa b).toArray⟩ ++ ⟨#[32]⟩ ++ ⟨(Lib.itoa c).toArray⟩ = ⟨(p ++ (Lib.itoa a ++ 32 :: (Lib.itoa b ++ 32 :: Lib.itoa c))).toArray⟩ := by
  rw [ByteArray.mk_append_mk, ByteArray.mk_append_mk, ByteArray.mk_append_mk, ByteArray.mk_append_mk, ByteArray.mk_append_mk]
  simp
theorem two_bytes (p : List UInt8) (a : Int) : (⟨p.toArray⟩ : ByteArray) ++ ⟨(Lib.itoa a).toArray⟩ = ⟨(p ++ Lib.itoa a).toArray⟩ := by
  rw [ByteArray.mk_append_mk]

set_option maxRecDepth 100000 in
set_option maxHeartbeats 2000000 in
theorem refFormat_any (k sz st g sh : Int) (w : World) (hT : Tab w.heap.size w) :
    Calls Tryd.prog 6 #[.agg #[.int .i64 k, .int .i64 sz, .int .i64 st, .int .i64 g, .int .i64 sh]] w (FmtPost w (fmtT k sz st g sh)) := by
  have HV := Lib.hid fun W => refValidSpec_any k sz st g sh W
  have hS : SpB (w.alloc (.cells #[.int .i64 k, .int .i64 sz, .int .i64 st, .int .i64 g, .int .i64 sh] 23)) w.heap.size k sz st g sh := heap_alloc_new w _
  have hB := below_new w (.cells #[.int .i64 k, .int .i64 sz, .int .i64 st, .int .i64 g, .int .i64 sh] 23)
  have HS := Lib.hid hS
  have HB := Lib.hid hB
  have HT := Lib.hid hT
  unfold fmtT
  cases hok : specOK k sz st g sh with
  | false =>
    rw [hok] at HV
    rw [if_neg (by decide)]
    clear hS hB hT hok
    go_enter Tryd.func6, Tryd.ntmps6
    go_wp2_with fail
    refine (HV.out _).mono ?_
    rintro e w1 ⟨rfl, k1⟩
    have HB1 := Lib.hid (HB.out.trans (k1.mono HB.out.size))
    clear k1
    go_wp2_with fail
    go_ret
    exact ⟨rfl, HB1.out⟩
  | true =>
    have hp := (specOK_iff k sz st g sh).1 hok
    rw [hok] at HV
    rw [if_pos rfl]
    clear hS hB hT hok
    rcases hp with ⟨rfl, hp⟩ | ⟨rfl, hp⟩ | ⟨rfl, hp⟩ | ⟨rfl, hp⟩
    · have lsz := Lib.itoa_length_le sz (by omega) (by omega)
      have lsh := Lib.itoa_length_le sh (by omega) (by omega)
      have HIsz := Lib.hid fun (u : World) (q : Below w.heap.size w u) => itoa_any sz (by omega) (by omega) w.heap.size u (HT.out.on q)
      have HIsh := Lib.hid fun (u : World) (q : Below w.heap.size w u) => itoa_any sh (by omega) (by omega) w.heap.size u (HT.out.on q)
      have m0 : ¬ 9223372036854775807 < 9 + (Lib.itoa sz).length := by omega
      have m1 : ¬ 9223372036854775807 < 9 + (Lib.itoa sz).length + 1 := by omega
      have m2 : ¬ 9223372036854775807 < 9 + (Lib.itoa sz).length + 1 + (Lib.itoa sh).length := by omega
      clear hp
      go_enter Tryd.func6, Tryd.ntmps6
      go_wp2_with fail
      refine (HV.out _).mono ?_
      rintro e w1 ⟨rfl, k1⟩
      have hB1 := HB.out.trans (k1.mono HB.out.size)
      have HS1 := Lib.hid (HS.out.belowV k1 HS.out.lt)
      have c0 := HS1.out.cell 0
      have c1 := HS1.out.cell 1
      have c2 := HS1.out.cell 2
      have c3 := HS1.out.cell 3
      have c4 := HS1.out.cell 4
      simp only [List.getElem?_toArray, List.getElem?_cons_zero, List.getElem?_cons_succ] at c0 c1 c2 c3 c4
      clear k1
      have HC := Lib.hid (show ∀ u : World, Below w1.heap.size w1 u → (Below w1.heap.size w1 u ∧ u.cell? ⟨w.heap.size, 1, none⟩ = some (.int .i64 sz) ∧ u.cell? ⟨w.heap.size, 4, none⟩ = some (.int .i64 sh)) from fun u q => ⟨q, (q.cell (p := ⟨w.heap.size, 1, none⟩) HS1.out.lt).trans c1, (q.cell (p := ⟨w.heap.size, 4, none⟩) HS1.out.lt).trans c4⟩)
      have HK := Lib.hid (show ∀ (u v : World), Below w1.heap.size w1 u → Below u.heap.size u v → Below w1.heap.size w1 v from fun u v h1 h2 => h1.trans (h2.mono h1.size))
      have HJsz := Lib.hid fun (u : World) (q : Below w1.heap.size w1 u) => HIsz.out u (hB1.trans (q.mono hB1.size))
      have HJsh := Lib.hid fun (u : World) (q : Below w1.heap.size w1 u) => HIsh.out u (hB1.trans (q.mono hB1.size))
      have HB1 := Lib.hid hB1
      have hWr : Below w1.heap.size w1 w1 := Below.refl _ _
      clear HIsz HIsh hB1 c1 c4 HV HS HB HT
      go_wp2_with fail
      go_region_held3 (fun u => Below w1.heap.size w1 u ∧ u.cell? ⟨w.heap.size, 1, none⟩ = some (.int .i64 sz) ∧ u.cell? ⟨w.heap.size, 4, none⟩ = some (.int .i64 sh)) (first | exact HC.out _ (HK.out _ _ (by assumption) (by assumption)) | exact HC.out _ (HK.out _ _ (And.left (by assumption)) (by assumption)) | exact HC.out _ (Below.drew (by assumption)) | exact HC.out _ (Below.drew (And.left (by assumption))) | assumption)
          (first
            | (go_at_call 13; refine (HJsz.out _ (And.left (by assumption))).mono ?_; rintro e w' ⟨rfl, hb⟩)
            | (go_at_call 13; refine (HJsh.out _ (And.left (by assumption))).mono ?_; rintro e w' ⟨rfl, hb⟩))
      all_goals
        have hBv : Below w1.heap.size w1 w' := And.left (by assumption)
        have HF := Lib.hid (HB1.out.trans (hBv.mono HB1.out.size))
        clear HC HK hBv
        go_wp2_with fail
        go_ret
        exact ⟨congrArg (fun s => Ending.returned (.string s)) ((three_bytes [116, 117, 109, 98, 108, 105, 110, 103, 32] sz sh).trans (by simp [specT, nameT, numsT, joinT])), HF.out⟩
    · have lsz := Lib.itoa_length_le sz (by omega) (by omega)
      have lst := Lib.itoa_length_le st (by omega) (by omega)
      have lsh := Lib.itoa_length_le sh (by omega) (by omega)
      have HIsz := Lib.hid fun (u : World) (q : Below w.heap.size w u) => itoa_any sz (by omega) (by omega) w.heap.size u (HT.out.on q)
      have HIst := Lib.hid fun (u : World) (q : Below w.heap.size w u) => itoa_any st (by omega) (by omega) w.heap.size u (HT.out.on q)
      have HIsh := Lib.hid fun (u : World) (q : Below w.heap.size w u) => itoa_any sh (by omega) (by omega) w.heap.size u (HT.out.on q)
      have m0 : ¬ 9223372036854775807 < 8 + (Lib.itoa sz).length := by omega
      have m1 : ¬ 9223372036854775807 < 8 + (Lib.itoa sz).length + 1 := by omega
      have m2 : ¬ 9223372036854775807 < 8 + (Lib.itoa sz).length + 1 + (Lib.itoa st).length := by omega
      have m3 : ¬ 9223372036854775807 < 8 + (Lib.itoa sz).length + 1 + (Lib.itoa st).length + 1 := by omega
      have m4 : ¬ 9223372036854775807 < 8 + (Lib.itoa sz).length + 1 + (Lib.itoa st).length + 1 + (Lib.itoa sh).length := by omega
      clear hp
      go_enter Tryd.func6, Tryd.ntmps6
      go_wp2_with fail
      refine (HV.out _).mono ?_
      rintro e w1 ⟨rfl, k1⟩
      have hB1 := HB.out.trans (k1.mono HB.out.size)
      have HS1 := Lib.hid (HS.out.belowV k1 HS.out.lt)
      have c0 := HS1.out.cell 0
      have c1 := HS1.out.cell 1
      have c2 := HS1.out.cell 2
      have c3 := HS1.out.cell 3
      have c4 := HS1.out.cell 4
      simp only [List.getElem?_toArray, List.getElem?_cons_zero, List.getElem?_cons_succ] at c0 c1 c2 c3 c4
      clear k1
      have HC := Lib.hid (show ∀ u : World, Below w1.heap.size w1 u → (Below w1.heap.size w1 u ∧ u.cell? ⟨w.heap.size, 1, none⟩ = some (.int .i64 sz) ∧ u.cell? ⟨w.heap.size, 2, none⟩ = some (.int .i64 st) ∧ u.cell? ⟨w.heap.size, 4, none⟩ = some (.int .i64 sh)) from fun u q => ⟨q, (q.cell (p := ⟨w.heap.size, 1, none⟩) HS1.out.lt).trans c1, (q.cell (p := ⟨w.heap.size, 2, none⟩) HS1.out.lt).trans c2, (q.cell (p := ⟨w.heap.size, 4, none⟩) HS1.out.lt).trans c4⟩)
      have HK := Lib.hid (show ∀ (u v : World), Below w1.heap.size w1 u → Below u.heap.size u v → Below w1.heap.size w1 v from fun u v h1 h2 => h1.trans (h2.mono h1.size))
      have HJsz := Lib.hid fun (u : World) (q : Below w1.heap.size w1 u) => HIsz.out u (hB1.trans (q.mono hB1.size))
      have HJst := Lib.hid fun (u : World) (q : Below w1.heap.size w1 u) => HIst.out u (hB1.trans (q.mono hB1.size))
      have HJsh := Lib.hid fun (u : World) (q : Below w1.heap.size w1 u) => HIsh.out u (hB1.trans (q.mono hB1.size))
      have HB1 := Lib.hid hB1
      have hWr : Below w1.heap.size w1 w1 := Below.refl _ _
      clear HIsz HIst HIsh hB1 c1 c2 c4 HV HS HB HT
      go_wp2_with fail
      go_region_held3 (fun u => Below w1.heap.size w1 u ∧ u.cell? ⟨w.heap.size, 1, none⟩ = some (.int .i64 sz) ∧ u.cell? ⟨w.heap.size, 2, none⟩ = some (.int .i64 st) ∧ u.cell? ⟨w.heap.size, 4, none⟩ = some (.int .i64 sh)) (first | exact HC.out _ (HK.out _ _ (by assumption) (by assumption)) | exact HC.out _ (HK.out _ _ (And.left (by assumption)) (by assumption)) | exact HC.out _ (Below.drew (by assumption)) | exact HC.out _ (Below.drew (And.left (by assumption))) | assumption)
          (first
            | (go_at_call 13; refine (HJsz.out _ (And.left (by assumption))).mono ?_; rintro e w' ⟨rfl, hb⟩)
            | (go_at_call 13; refine (HJst.out _ (And.left (by assumption))).mono ?_; rintro e w' ⟨rfl, hb⟩)
            | (go_at_call 13; refine (HJsh.out _ (And.left (by assumption))).mono ?_; rintro e w' ⟨rfl, hb⟩))
      all_goals
        have hBv : Below w1.heap.size w1 w' := And.left (by assumption)
        have HF := Lib.hid (HB1.out.trans (hBv.mono HB1.out.size))
        clear HC HK hBv
        go_wp2_with fail
        go_ret
        exact ⟨congrArg (fun s => Ending.returned (.string s)) ((four_bytes [115, 108, 105, 100, 105, 110, 103, 32] sz st sh).trans (by simp [specT, nameT, numsT, joinT])), HF.out⟩
    · have lg := Lib.itoa_length_le g (by omega) (by omega)
      have HIg := Lib.hid fun (u : World) (q : Below w.heap.size w u) => itoa_any g (by omega) (by omega) w.heap.size u (HT.out.on q)
      have m0 : ¬ 9223372036854775807 < 8 + (Lib.itoa g).length := by omega
      clear hp
      go_enter Tryd.func6, Tryd.ntmps6
      go_wp2_with fail
      refine (HV.out _).mono ?_
      rintro e w1 ⟨rfl, k1⟩
      have hB1 := HB.out.trans (k1.mono HB.out.size)
      have HS1 := Lib.hid (HS.out.belowV k1 HS.out.lt)
      have c0 := HS1.out.cell 0
      have c1 := HS1.out.cell 1
      have c2 := HS1.out.cell 2
      have c3 := HS1.out.cell 3
      have c4 := HS1.out.cell 4
      simp only [List.getElem?_toArray, List.getElem?_cons_zero, List.getElem?_cons_succ] at c0 c1 c2 c3 c4
      clear k1
      have HJ := Lib.hid (HIg.out w1 hB1)
      have HB1 := Lib.hid hB1
      clear HIg hB1 HV HS HB HT HS1
      go_wp2_with fail
      refine HJ.out.mono ?_
      rintro e w2 ⟨rfl, k2⟩
      have HF := Lib.hid (HB1.out.trans (k2.mono HB1.out.size))
      clear k2
      go_wp2_with fail
      go_ret
      exact ⟨congrArg (fun s => Ending.returned (.string s)) ((two_bytes [115, 101, 115, 115, 105, 111, 110, 32] g).trans (by simp [specT, nameT, numsT, joinT])), HF.out⟩
    · clear hp
      go_enter Tryd.func6, Tryd.ntmps6
      go_wp2_with fail
      refine (HV.out _).mono ?_
      rintro e w1 ⟨rfl, k1⟩
      have hB1 := HB.out.trans (k1.mono HB.out.size)
      have HS1 := Lib.hid (HS.out.belowV k1 HS.out.lt)
      have c0 := HS1.out.cell 0
      have c1 := HS1.out.cell 1
      have c2 := HS1.out.cell 2
      have c3 := HS1.out.cell 3
      have c4 := HS1.out.cell 4
      simp only [List.getElem?_toArray, List.getElem?_cons_zero, List.getElem?_cons_succ] at c0 c1 c2 c3 c4
      clear k1
      have HB1 := Lib.hid hB1
      clear hB1 HV HS HB HT HS1
      go_wp2_with fail
      go_ret
      exact ⟨rfl, HB1.out⟩
end Go.Proofs.YtakekegghpgeaaaDoor
