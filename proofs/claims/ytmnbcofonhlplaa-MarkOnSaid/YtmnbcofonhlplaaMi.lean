/-
  NewMeet, Inputs, IsIdle of package mark, as contracts.
-/
import Derived.Test.YtmnbcofonhlplaaMr
import Derived.Test.YtmnbcofonhlplaaInt6
namespace Go.Proofs.Ytmnbcofonhlplaa
open Go.RowKit Go.Lib
set_option linter.unusedSimpArgs false

theorem infoIn : (Try.prog.info? 69).map (fun i => (i.zero, i.size, i.bytes)) = some (some (.agg #[.int .i64 0, .bool false, .bool false]), 3, 16) := by kernel_rfl
theorem infoN : (Try.prog.info? 3).map (fun i => (i.zero, i.size, i.bytes)) = some (some (.int .i64 0), 1, 8) := by kernel_rfl
theorem make_ins (n : Nat) (h : n ≤ 1000000) (W : World) :
    (Instr.makeSlice 58 (.int .i64 (n : Int)) (.int .i64 (n : Int))).run Try.prog W = .ok (.slice (some ⟨W.heap.size, 0, none⟩) n n) (W.alloc (.cells (madeCells #[.int .i64 0, .bool false, .bool false] (n * 3)) 69)) := by
  obtain ⟨i0, hi, hz0, hz1, hz2⟩ := info_parts infoIn
  have hr := run_make W 58 69 i0 _ Try.underlying58 hi hz0 .i64 .i64 (n : Int) (n : Int) (by omega) (Int.le_refl _) (by rw [hz2]; omega) (by omega)
  rw [hz1, Int.toNat_natCast] at hr
  exact hr
theorem make_ints (n : Nat) (h : n ≤ 1000000) (W : World) :
    (Instr.makeSlice 36 (.int .i64 (n : Int)) (.int .i64 (n : Int))).run Try.prog W = .ok (.slice (some ⟨W.heap.size, 0, none⟩) n n) (W.alloc (.cells (madeCells #[.int .i64 0] (n * 1)) 3)) := by
  obtain ⟨i0, hi, hz0, hz1, hz2⟩ := info_parts infoN
  have hr := run_make W 36 3 i0 _ Try.underlying36 hi hz0 .i64 .i64 (n : Int) (n : Int) (by omega) (Int.le_refl _) (by rw [hz2]; omega) (by omega)
  rw [hz1, Int.toNat_natCast] at hr
  exact hr
theorem made_zero (n : Nat) : madeCells #[Value.int .i64 0] (n * 1) = (flatN (List.replicate n 0)).toArray := by
  apply Array.ext
  · simp [madeCells, flatN]
  · intro i h1 h2
    simp [madeCells, flatN, Nat.mod_one]
theorem made_ins (n : Nat) (h : n ≤ 8) : madeCells #[Value.int .i64 0, .bool false, .bool false] (n * 3) = (flatP (List.replicate n in0)).toArray := by
  match n, h with
  | 0, _ | 1, _ | 2, _ | 3, _ | 4, _ | 5, _ | 6, _ | 7, _ | 8, _ => show _ = _; kernel_rfl

def NewPost (w : World) (k : Nat) (e : Ending) (w' : World) : Prop := ∃ B I, e = .returned (.tuple #[.pointer (some ⟨B, 0, none⟩), .int .i64 0]) ∧ MeetP w' w.heap.size B I (List.replicate k in0) (-1000000000000) ∧ Below w.heap.size w w'
set_option maxRecDepth 100000 in
theorem mkNew_bad (n : Int) (h : inR n 1 8 = false) (w : World) : Calls Try.prog 8 #[.int .i64 n] w fun e w' => e = .returned (.tuple #[.pointer none, .int .i64 7]) ∧ w = w' := by
  have hw := mkWithin_any n 1 8 w
  rw [h] at hw
  go_enter Try.func8, Try.ntmps8
  go_wp2_with fail
  refine hw.mono ?_
  rintro e w1 ⟨rfl, rfl⟩
  go_wp2_with fail
  go_ret2
  exact ⟨rfl, rfl⟩
set_option maxRecDepth 100000 in
theorem mkNew_ok (k : Nat) (h1 : 1 ≤ k) (h8 : k ≤ 8) (w : World) : Calls Try.prog 8 #[.int .i64 (k : Int)] w (NewPost w k) := by
  have hw := mkWithin_any (k : Int) 1 8 w
  rw [show inR (k : Int) 1 8 = true from inR_iff.2 (by omega)] at hw
  have hmk := make_ins k (by omega)
  rw [made_ins k h8] at hmk
  go_enter Try.func8, Try.ntmps8
  go_wp2_with fail
  refine hw.mono ?_
  rintro e w1 ⟨rfl, rfl⟩
  go_wp2_with fail
  go_ret2
  have hl : (List.replicate k in0).length = k := by simp
  have hmr : ∀ x ∈ List.replicate k in0, markR x.1 := fun x hx => by
    rw [List.eq_of_mem_replicate hx]; unfold markR; decide
  refine ⟨w.heap.size + 1, w.heap.size, ?_, ⟨by omega, Nat.le_refl _, ?_, ?_, by rw [hl]; exact ⟨h1, h8⟩, hmr, by unfold markR; decide⟩, ?_⟩
  · rfl
  · rw [hl]; exact Blk.newAt _ _ _ (by simp)
  · exact (Blk.new w _ _).allocG _
  · exact (below_new w _).alloc (by simp) _

theorem owned_ints {W : World} {lo g c : Nat} {ts : List Int} (h : W.ownsRow lo 3 1 (.slice (some ⟨g, 0, none⟩) ts.length c) ts.length (flatN ts)) : IntsIn W (some ⟨g, 0, none⟩) ts := by
  obtain ⟨p, c', e, hi⟩ := intsIn_of_owns (v := .slice (some ⟨g, 0, none⟩) ts.length c) h
  simp only [Value.slice.injEq] at e
  rw [e.1]; exact hi
def ListPost (w : World) (ts : List Int) (e : Ending) (w' : World) : Prop := ∃ p c, e = .returned (.slice p ts.length c) ∧ IntsIn w' p ts ∧ Below w.heap.size w w'
def ListPost2 (w : World) (ts : List Int) (er : Int) (e : Ending) (w' : World) : Prop := ∃ p c, e = .returned (.tuple #[.slice p ts.length c, .int .i64 er]) ∧ IntsIn w' p ts ∧ Below w.heap.size w w'
def marksM (xs : List Inp) : List Int := xs.map (·.1)
theorem marksM_get {xs : List Inp} {i : Nat} (hi : i < xs.length) : (marksM xs)[i]?.getD 0 = (xs[i]?.getD in0).1 := by simp [marksM, List.getElem?_eq_getElem hi]
theorem flatN_get {ts : List Int} {i : Nat} (hi : i < ts.length) : (flatN ts)[i]? = some (.int .i64 (ts[i]?.getD 0)) := by simp [flatN, List.getElem?_eq_getElem hi]

set_option maxRecDepth 100000 in
set_option maxHeartbeats 1000000 in
theorem mkInputs_any {lo B I : Nat} {xs : List Inp} {at_ : Int} (w : World) (h : MeetP w lo B I xs at_) :
    Calls Try.prog 14 #[.pointer (some ⟨B, 0, none⟩)] w (ListPost w (marksM xs)) := by
  have c0 := h.blk.cell 0
  simp only [List.getElem?_toArray, List.getElem?_cons_zero] at c0
  obtain ⟨ts, hts⟩ : ∃ ts, ts = marksM xs := ⟨_, rfl⟩
  have hl : ts.length = xs.length := by rw [hts]; simp [marksM]
  have hmk := make_ints xs.length (by have := h.len; omega)
  rw [made_zero] at hmk
  have hx9 : xs.length ≤ 1000000 := by have := h.len; omega
  have hb1 := below_new w (.cells (flatN (List.replicate xs.length 0)).toArray 3)
  have c0' := ((h.belowV hb1).blk.cell 0)
  simp only [List.getElem?_toArray, List.getElem?_cons_zero] at c0'
  have hown : (w.alloc (.cells (flatN (List.replicate xs.length 0)).toArray 3)).ownsRow w.heap.size 3 1 (.slice (some ⟨w.heap.size, 0, none⟩) xs.length xs.length) xs.length (flatN (fillN ts 0)) := by
    have := World.ownsRow_lit w (flatN (List.replicate xs.length 0)).toArray xs.length (e := 3) (size := 1) (Nat.le_refl w.heap.size) (by unfold maxLen; omega) (by simp [flatN])
    simpa [fillN, hl] using this
  rw [← hts]
  have HM := Lib.hid h
  have HT := Lib.hid hts
  have HL := Lib.hid hl
  have HOW := Lib.hid hown
  have HB := Lib.hid hb1
  clear h hts hl hown hb1
  go_enter Try.func14, Try.ntmps14
  go_wp2_with fail
  go_loopw [19] (fun s wr => ∃ i : Nat, s = .int .i64 i ∧ i ≤ xs.length ∧ Hid (wr.ownsRow w.heap.size 3 1 (.slice (some ⟨w.heap.size, 0, none⟩) xs.length xs.length) xs.length (flatN (fillN ts i))) ∧ Hid (Below w.heap.size w wr)) (fun s _ => xs.length - (RowKit.intOf s).toNat)
  case atStart => exact ⟨0, rfl, Nat.zero_le _, HOW.out, HB.out⟩
  case round =>
    clear HOW HB
    obtain ⟨i, rfl, hin, HO, HB⟩ := hrel
    by_cases hlt : i < xs.length
    · obtain ⟨d0, d1, d2⟩ := (HM.out.belowV HB.out).cells hlt
      have hr := mark_at HM.out.marks hlt
      have hti : ts[i]?.getD 0 = (xs[i]?.getD in0).1 := by rw [HT.out]; exact marksM_get hlt
      have hl0 := HL.out
      have hst := fun (W : World) (hW : W.ownsRow w.heap.size 3 1 (.slice (some ⟨w.heap.size, 0, none⟩) xs.length xs.length) xs.length (flatN (fillN ts i))) => (show (W.setCell ⟨w.heap.size, i, none⟩ (.int .i64 (xs[i]?.getD in0).1)).ownsRow w.heap.size 3 1 (.slice (some ⟨w.heap.size, 0, none⟩) xs.length xs.length) xs.length (flatN (fillN ts (i + 1))) from by
        have h1 := (hW.stored i (.int .i64 (xs[i]?.getD in0).1)).1
        rw [← flatN_set, ← hti, fillN_set (by omega)] at h1
        rwa [hti] at h1)
      have hce := fun (W : World) (hW : W.ownsRow w.heap.size 3 1 (.slice (some ⟨w.heap.size, 0, none⟩) xs.length xs.length) xs.length (flatN (fillN ts i))) => (show W.cell? ⟨w.heap.size, i, none⟩ = some (.int .i64 ((fillN ts i)[i]?.getD 0)) from by
        rw [hW.cellAt i (by omega), flatN_get (by rw [fillN_len (by omega)]; omega)])
      have hfz := fun (W : World) (hW : W.ownsRow w.heap.size 3 1 (.slice (some ⟨w.heap.size, 0, none⟩) xs.length xs.length) xs.length (flatN (fillN ts i))) => hW.frozenAt i
      have HST := Lib.hid hst
      have hi0 : (0 : Int) ≤ (i : Int) := by omega
      have hi1 : (i : Int) < (xs.length : Int) := by omega
      have hlm := lmark_any _ hr
      generalize (fillN ts i)[i]?.getD 0 = old at hce
      generalize xs[i]?.getD in0 = x at d0 d1 d2 hlm HST
      obtain ⟨m, a, b⟩ := x
      dsimp only at d0 d1 d2 hlm HST
      have hO2 := owns_below HO.out (below_new wr (.cells #[.int .i64 (m + 1000000000000), .bool a, .bool b] 69))
      have e0 := hce _ hO2
      have e1 := hfz _ hO2
      have HO3 := Lib.hid (HST.out _ hO2)
      have HB3 := Lib.hid ((HB.out.alloc HB.out.size (.cells #[.int .i64 (m + 1000000000000), .bool a, .bool b] 69)).setCell (p := ⟨w.heap.size, i, none⟩) (Nat.le_refl _) (.int .i64 m))
      clear hst hce hfz hr hti hl0 hO2 HST
      go_wp2_with fail
      refine (hlm _).mono ?_
      rintro e w1 ⟨rfl, rfl⟩
      go_wp2_with fail
      go_roundw
      case rel => exact ⟨i + 1, by go_num, by omega, HO3.out, HB3.out⟩
      case measure => simp [RowKit.intOf]; omega
    · have hge : xs.length ≤ i := by omega
      have hie : i = xs.length := by omega
      have hO := HO.out
      rw [hie, ← HL.out, fillN_all] at hO
      have hO := owned_ints hO
      have HP := Lib.hid hO
      clear hie hO
      go_wp2_with fail
      go_ret
      exact ⟨some ⟨w.heap.size, 0, none⟩, xs.length, by rw [HL.out]; rfl, HP.out, HB.out⟩

theorem mkInputs_nil (w : World) : Calls Try.prog 14 #[.pointer none] w fun e w' => e = .returned (.slice none 0 0) ∧ w = w' := by
  go_enter Try.func14, Try.ntmps14
  go_wp2_with fail
  go_ret
  exact ⟨rfl, rfl⟩
/-- Whether an input is idle. -/
def idleM (xs : List Inp) (i : Int) : Bool := inR i 0 ((xs.length : Int) - 1) && (xs[i.toNat]?.getD in0).2.1
set_option maxRecDepth 100000 in
theorem mkIsIdle_any {lo B I : Nat} {xs : List Inp} {at_ : Int} (i : Int) (w : World) (h : MeetP w lo B I xs at_) :
    Calls Try.prog 16 #[.pointer (some ⟨B, 0, none⟩), .int .i64 i] w fun e w' => e = .returned (.bool (idleM xs i)) ∧ w = w' := by
  have hh := mkHas_any i w h
  have c0 := h.blk.cell 0
  simp only [List.getElem?_toArray, List.getElem?_cons_zero] at c0
  unfold idleM
  cases q1 : inR i 0 ((xs.length : Int) - 1) with
  | false =>
    rw [q1] at hh
    rw [Bool.false_and]
    have HH := Lib.hid hh
    clear hh h q1
    go_enter Try.func16, Try.ntmps16
    go_wp2_with fail
    refine HH.out.mono ?_
    rintro e w1 ⟨rfl, rfl⟩
    go_wp2_with fail
    go_ret
    exact ⟨rfl, rfl⟩
  | true =>
    rw [q1] at hh
    rw [Bool.true_and]
    obtain ⟨n, rfl⟩ : ∃ n : Nat, i = (n : Int) := Int.eq_ofNat_of_zero_le (inR_iff.1 q1).1
    have hn : n < xs.length := by have := inR_iff.1 q1; omega
    obtain ⟨d0, d1, d2⟩ := h.cells hn
    have hn0 : (0 : Int) ≤ (n : Int) := by omega
    have hn1 : (n : Int) < (xs.length : Int) := by omega
    rw [Int.toNat_natCast]
    have HH := Lib.hid hh
    clear hh h q1 d0 d2
    generalize (xs[n]?.getD in0).2.1 = b at *
    go_enter Try.func16, Try.ntmps16
    go_wp2_with fail
    refine HH.out.mono ?_
    rintro e w1 ⟨rfl, rfl⟩
    go_wp2_with fail
    go_ret
    exact ⟨rfl, rfl⟩
theorem mkIsIdle_nil (i : Int) (w : World) : Calls Try.prog 16 #[.pointer none, .int .i64 i] w fun e w' => e = .returned (.bool false) ∧ w = w' := by
  go_enter Try.func16, Try.ntmps16
  go_wp2_with fail
  go_ret
  exact ⟨rfl, rfl⟩
end Go.Proofs.Ytmnbcofonhlplaa
