/-
  Parse of package clock, as a contract.
-/
import Derived.Test.YtakekegghpgeaaaDoorRq
namespace Go.Proofs.YtakekegghpgeaaaDoor
open Go.RowKit Go.Lib
set_option linter.unusedSimpArgs false

theorem tryK_len {k : Int} {ws : List ByteArray} {cs : List Int} (h : tryK k ws = some cs) : cs.length = 5 := by
  unfold tryK at h
  split at h
  · split at h
    · rw [← Option.some.inj h, fillGo_len]; rfl
    · cases h
  · cases h
theorem readFrom_len (ws : List ByteArray) : ∀ (n : Nat) (k : Int), (readFrom ws k n).length = 5
  | 0, _ => rfl
  | n + 1, k => by
    unfold readFrom
    split
    · rename_i h; exact tryK_len h
    · exact readFrom_len ws n (k + 1)
def ParsePost (w : World) (cs : List Int) (er : Int) (e : Ending) (w' : World) : Prop := e = .returned (.tuple #[aggL cs, .int .i64 er]) ∧ Below w.heap.size w w'
/-- What Parse makes of a text that is not too long. -/
def parseOK (s : List UInt8) (cs : List Int) : Prop := ∃ k sz st g sh, cs = [k, sz, st, g, sh] ∧ specOK k sz st g sh = true ∧ specT k sz st g sh = s
set_option maxRecDepth 100000 in
set_option maxHeartbeats 2000000 in
theorem clkParse_any (s : ByteArray) (hs : s.size ≤ 65536) (w : World) (hE : Env w.heap.size w) (ca cb cc cd ce : Int) (hcs : readFrom (splitW s) 1 4 = [ca, cb, cc, cd, ce]) :
    (parseOK s.data.toList [ca, cb, cc, cd, ce] → Calls Tryd.prog 7 #[.string s] w (ParsePost w [ca, cb, cc, cd, ce] 0)) ∧
    (¬ parseOK s.data.toList [ca, cb, cc, cd, ce] → Calls Tryd.prog 7 #[.string s] w (ParsePost w [0, 0, 0, 0, 0] 2)) := by
  have hA := SpL.ofNew w 0
  have hB1 := below_new w (.cells #[.int .i64 0, .int .i64 0, .int .i64 0, .int .i64 0, .int .i64 0] 23)
  have hsz : (s.size : Int) ≤ 65536 := by omega
  have hlen := splitW_len s
  have hle := splitW_le s
  have hsm := split_small ⟨#[32]⟩ (countB s ⟨#[32]⟩) s
  generalize hw1 : w.alloc (.cells #[.int .i64 0, .int .i64 0, .int .i64 0, .int .i64 0, .int .i64 0] 23) = w1 at hA hB1
  obtain ⟨m, hm⟩ := hE.max w1 hB1
  have hSp := Tryd.strings_Split s ⟨#[32]⟩ m w1 (by omega) hm (by decide)
  rw [← hlen] at hSp
  have hB2 := hB1.trans ((below_new w1 (.cells ((splitW s).map Value.string).toArray 9)).mono hB1.size)
  have hA2 := hA.belowV (below_new w1 (.cells ((splitW s).map Value.string).toArray 9)) hA.lt
  have hRd := read_any (splitW s) w1.heap.size (splitW s).length (w1.alloc (.cells ((splitW s).map Value.string).toArray 9)) (by omega) (by omega) (Nat.le_refl _) (fun x hx => by have := hsm x hx; omega) (by simp) (fun i hi => by
    rw [World.cell?_alloc_new]
    simp [hi]) ((hE.on hB2).up hB2.size)
  rw [hcs] at hRd
  have HSp := Lib.hid (show Calls Tryd.prog 16 #[.string s, .string ⟨#[32]⟩] w1 fun e w' => e = .returned (.slice (some ⟨w1.heap.size, 0, none⟩) (splitW s).length (splitW s).length) ∧ w' = w1.alloc (.cells ((splitW s).map Value.string).toArray 9) from hSp)
  generalize hw2 : w1.alloc (.cells ((splitW s).map Value.string).toArray 9) = w2 at hB2 hA2 hRd HSp
  generalize (splitW s).length = n at hRd HSp
  have HRd := Lib.hid hRd
  have HA2 := Lib.hid hA2
  have HB2 := Lib.hid hB2
  have HE := Lib.hid hE
  have HW1 := Lib.hid hw1
  clear hA hB1 hlen hle hsm hm hSp hB2 hA2 hRd hE hcs hs hw2 m
  refine ⟨fun hp => ?_, fun hp => ?_⟩
  · obtain ⟨k, sz, st, g, sh, he, hok, ht⟩ := hp
    simp only [List.cons.injEq, and_true] at he
    obtain ⟨rfl, rfl, rfl, rfl, rfl⟩ := he
    have HV := Lib.hid fun W => ValidSpec_any ca cb cc cd ce W
    rw [hok] at HV
    have hfe : fmtT ca cb cc cd ce = s.data.toList := by unfold fmtT; rw [if_pos hok, ht]
    have HSE := Lib.hid (show (⟨(fmtT ca cb cc cd ce).toArray⟩ : ByteArray) = s by rw [hfe])
    clear hok ht hfe
    go_enter Tryd.func7, Tryd.ntmps7
    go_wp2_with fail
    refine HSp.out.mono ?_
    rintro e w2' ⟨rfl, rfl⟩
    go_wp2_with fail
    refine HRd.out.mono ?_
    rintro e w3 ⟨rfl, k3⟩
    have hA3 := HA2.out.belowV k3 HA2.out.lt
    have hB3 := HB2.out.trans (k3.mono HB2.out.size)
    have hN := below_new w3 (.cells #[.int .i64 ca, .int .i64 cb, .int .i64 cc, .int .i64 cd, .int .i64 ce] 23)
    have HA4 := Lib.hid (hA3.belowV hN hA3.lt)
    have HB4 := Lib.hid (hB3.trans (hN.mono hB3.size))
    have HS4 := Lib.hid (show SpL (w3.alloc (.cells #[.int .i64 ca, .int .i64 cb, .int .i64 cc, .int .i64 cd, .int .i64 ce] 23)) w3.heap.size [ca, cb, cc, cd, ce] from heap_alloc_new w3 _)
    clear hA3 hB3 hN k3 HRd HSp HA2 HB2
    unfold aggL
    go_wp2_with fail
    refine (HV.out _).mono ?_
    rintro e w5 ⟨rfl, hw5⟩
    have hN5 : Below (w3.alloc (.cells #[.int .i64 ca, .int .i64 cb, .int .i64 cc, .int .i64 cd, .int .i64 ce] 23)).heap.size (w3.alloc (.cells #[.int .i64 ca, .int .i64 cb, .int .i64 cc, .int .i64 cd, .int .i64 ce] 23)) w5 := by rw [hw5]; exact below_new _ _
    have HA5 := Lib.hid (HA4.out.belowV hN5 HA4.out.lt)
    have HB5 := Lib.hid (HB4.out.trans (hN5.mono HB4.out.size))
    have HS5 := Lib.hid (HS4.out.belowV hN5 HS4.out.lt)
    clear hw5 hN5 HA4 HB4 HS4 HV
    have s0 := HS5.out.cell (j := 0) (by simp)
    have s1 := HS5.out.cell (j := 1) (by simp)
    have s2 := HS5.out.cell (j := 2) (by simp)
    have s3 := HS5.out.cell (j := 3) (by simp)
    have s4 := HS5.out.cell (j := 4) (by simp)
    simp only [List.getElem?_cons_zero, List.getElem?_cons_succ, Option.getD_some] at s0 s1 s2 s3 s4
    have HT := Lib.hid (format_any ca cb cc cd ce w5 ((HE.out.on HB5.out).up HB5.out.size).tab)
    unfold FmtPost at HT
    rw [HSE.out] at HT
    go_wp2_with fail
    refine HT.out.mono ?_
    rintro e w6 ⟨rfl, k6⟩
    have HA6 := Lib.hid (HA5.out.belowV k6 HA5.out.lt)
    have HB6 := Lib.hid (HB5.out.trans (k6.mono HB5.out.size))
    have HS6 := Lib.hid (HS5.out.belowV k6 HS5.out.lt)
    clear k6 HT HA5 HB5 HS5 s0 s1 s2 s3 s4
    have a0 := HA6.out.cell (j := 0) (by simp)
    have a1 := HA6.out.cell (j := 1) (by simp)
    have a2 := HA6.out.cell (j := 2) (by simp)
    have a3 := HA6.out.cell (j := 3) (by simp)
    have a4 := HA6.out.cell (j := 4) (by simp)
    simp only [List.getElem?_cons_zero, List.getElem?_cons_succ, Option.getD_some] at a0 a1 a2 a3 a4
    have b0 := HA6.out.froz 0
    have b1 := HA6.out.froz 1
    have b2 := HA6.out.froz 2
    have b3 := HA6.out.froz 3
    have b4 := HA6.out.froz 4
    have s0 := HS6.out.cell (j := 0) (by simp)
    have s1 := HS6.out.cell (j := 1) (by simp)
    have s2 := HS6.out.cell (j := 2) (by simp)
    have s3 := HS6.out.cell (j := 3) (by simp)
    have s4 := HS6.out.cell (j := 4) (by simp)
    simp only [List.getElem?_cons_zero, List.getElem?_cons_succ, Option.getD_some] at s0 s1 s2 s3 s4
    have HFN := Lib.hid (show SpL (((((w6.setCell ⟨w.heap.size, 0, none⟩ (.int .i64 ca)).setCell ⟨w.heap.size, 1, none⟩ (.int .i64 cb)).setCell ⟨w.heap.size, 2, none⟩ (.int .i64 cc)).setCell ⟨w.heap.size, 3, none⟩ (.int .i64 cd)).setCell ⟨w.heap.size, 4, none⟩ (.int .i64 ce)) w.heap.size [ca, cb, cc, cd, ce] ∧ Below w.heap.size w (((((w6.setCell ⟨w.heap.size, 0, none⟩ (.int .i64 ca)).setCell ⟨w.heap.size, 1, none⟩ (.int .i64 cb)).setCell ⟨w.heap.size, 2, none⟩ (.int .i64 cc)).setCell ⟨w.heap.size, 3, none⟩ (.int .i64 cd)).setCell ⟨w.heap.size, 4, none⟩ (.int .i64 ce)) from ⟨(((((HA6.out.setG 0 ca).setG 1 cb).setG 2 cc).setG 3 cd).setG 4 ce), (((((HB6.out.setCell (p := ⟨w.heap.size, 0, none⟩) (Nat.le_refl _) (.int .i64 ca)).setCell (p := ⟨w.heap.size, 1, none⟩) (Nat.le_refl _) (.int .i64 cb)).setCell (p := ⟨w.heap.size, 2, none⟩) (Nat.le_refl _) (.int .i64 cc)).setCell (p := ⟨w.heap.size, 3, none⟩) (Nat.le_refl _) (.int .i64 cd)).setCell (p := ⟨w.heap.size, 4, none⟩) (Nat.le_refl _) (.int .i64 ce))⟩)
    go_wp2_with fail
    have r0 := HFN.out.1.cell (j := 0) (by simp)
    have r1 := HFN.out.1.cell (j := 1) (by simp)
    have r2 := HFN.out.1.cell (j := 2) (by simp)
    have r3 := HFN.out.1.cell (j := 3) (by simp)
    have r4 := HFN.out.1.cell (j := 4) (by simp)
    simp only [List.getElem?_cons_zero, List.getElem?_cons_succ, Option.getD_some] at r0 r1 r2 r3 r4
    refine bodyPost_ret (v := .tuple #[aggL [ca, cb, cc, cd, ce], .int .i64 0]) (by simp [results, Tryd.f7, go_sem, r0, r1, r2, r3, r4, aggL]) rfl ?_
    exact ⟨rfl, HFN.out.2⟩
  · cases hok : specOK ca cb cc cd ce with
    | false =>
      have HV := Lib.hid fun W => ValidSpec_any ca cb cc cd ce W
      rw [hok] at HV
      clear hok hp
      go_enter Tryd.func7, Tryd.ntmps7
      go_wp2_with fail
      refine HSp.out.mono ?_
      rintro e w2' ⟨rfl, rfl⟩
      go_wp2_with fail
      refine HRd.out.mono ?_
      rintro e w3 ⟨rfl, k3⟩
      have hA3 := HA2.out.belowV k3 HA2.out.lt
      have hB3 := HB2.out.trans (k3.mono HB2.out.size)
      have hN := below_new w3 (.cells #[.int .i64 ca, .int .i64 cb, .int .i64 cc, .int .i64 cd, .int .i64 ce] 23)
      have HA4 := Lib.hid (hA3.belowV hN hA3.lt)
      have HB4 := Lib.hid (hB3.trans (hN.mono hB3.size))
      have HS4 := Lib.hid (show SpL (w3.alloc (.cells #[.int .i64 ca, .int .i64 cb, .int .i64 cc, .int .i64 cd, .int .i64 ce] 23)) w3.heap.size [ca, cb, cc, cd, ce] from heap_alloc_new w3 _)
      clear hA3 hB3 hN k3 HRd HSp HA2 HB2
      unfold aggL
      go_wp2_with fail
      refine (HV.out _).mono ?_
      rintro e w5 ⟨rfl, hw5⟩
      have hN5 : Below (w3.alloc (.cells #[.int .i64 ca, .int .i64 cb, .int .i64 cc, .int .i64 cd, .int .i64 ce] 23)).heap.size (w3.alloc (.cells #[.int .i64 ca, .int .i64 cb, .int .i64 cc, .int .i64 cd, .int .i64 ce] 23)) w5 := by rw [hw5]; exact below_new _ _
      have HA5 := Lib.hid (HA4.out.belowV hN5 HA4.out.lt)
      have HB5 := Lib.hid (HB4.out.trans (hN5.mono HB4.out.size))
      have HS5 := Lib.hid (HS4.out.belowV hN5 HS4.out.lt)
      clear hw5 hN5 HA4 HB4 HS4 HV
      have a0 := HA5.out.cell (j := 0) (by simp)
      have a1 := HA5.out.cell (j := 1) (by simp)
      have a2 := HA5.out.cell (j := 2) (by simp)
      have a3 := HA5.out.cell (j := 3) (by simp)
      have a4 := HA5.out.cell (j := 4) (by simp)
      simp only [List.getElem?_cons_zero, List.getElem?_cons_succ, Option.getD_some] at a0 a1 a2 a3 a4
      have b0 := HA5.out.froz 0
      have b1 := HA5.out.froz 1
      have b2 := HA5.out.froz 2
      have b3 := HA5.out.froz 3
      have b4 := HA5.out.froz 4
      have HFN := Lib.hid (show SpL (((((w5.setCell ⟨w.heap.size, 0, none⟩ (.int .i64 0)).setCell ⟨w.heap.size, 1, none⟩ (.int .i64 0)).setCell ⟨w.heap.size, 2, none⟩ (.int .i64 0)).setCell ⟨w.heap.size, 3, none⟩ (.int .i64 0)).setCell ⟨w.heap.size, 4, none⟩ (.int .i64 0)) w.heap.size [0, 0, 0, 0, 0] ∧ Below w.heap.size w (((((w5.setCell ⟨w.heap.size, 0, none⟩ (.int .i64 0)).setCell ⟨w.heap.size, 1, none⟩ (.int .i64 0)).setCell ⟨w.heap.size, 2, none⟩ (.int .i64 0)).setCell ⟨w.heap.size, 3, none⟩ (.int .i64 0)).setCell ⟨w.heap.size, 4, none⟩ (.int .i64 0)) from ⟨(((((HA5.out.setG 0 0).setG 1 0).setG 2 0).setG 3 0).setG 4 0), (((((HB5.out.setCell (p := ⟨w.heap.size, 0, none⟩) (Nat.le_refl _) (.int .i64 0)).setCell (p := ⟨w.heap.size, 1, none⟩) (Nat.le_refl _) (.int .i64 0)).setCell (p := ⟨w.heap.size, 2, none⟩) (Nat.le_refl _) (.int .i64 0)).setCell (p := ⟨w.heap.size, 3, none⟩) (Nat.le_refl _) (.int .i64 0)).setCell (p := ⟨w.heap.size, 4, none⟩) (Nat.le_refl _) (.int .i64 0))⟩)
      go_wp2_with fail
      have r0 := HFN.out.1.cell (j := 0) (by simp)
      have r1 := HFN.out.1.cell (j := 1) (by simp)
      have r2 := HFN.out.1.cell (j := 2) (by simp)
      have r3 := HFN.out.1.cell (j := 3) (by simp)
      have r4 := HFN.out.1.cell (j := 4) (by simp)
      simp only [List.getElem?_cons_zero, List.getElem?_cons_succ, Option.getD_some] at r0 r1 r2 r3 r4
      refine bodyPost_ret (v := .tuple #[aggL [0, 0, 0, 0, 0], .int .i64 2]) (by simp [results, Tryd.f7, go_sem, r0, r1, r2, r3, r4, aggL]) rfl ?_
      exact ⟨rfl, HFN.out.2⟩
    | true =>
      have HV := Lib.hid fun W => ValidSpec_any ca cb cc cd ce W
      rw [hok] at HV
      have hne : ((⟨(fmtT ca cb cc cd ce).toArray⟩ : ByteArray).toList == s.toList) = false := by
        rw [ByteArray.toList_eq, ByteArray.toList_eq, beq_eq_false_iff_ne]
        intro h
        exact hp ⟨ca, cb, cc, cd, ce, rfl, hok, by
          have : fmtT ca cb cc cd ce = specT ca cb cc cd ce := by unfold fmtT; rw [if_pos hok]
          rw [← this]; exact h⟩
      clear hok hp
      go_enter Tryd.func7, Tryd.ntmps7
      go_wp2_with fail
      refine HSp.out.mono ?_
      rintro e w2' ⟨rfl, rfl⟩
      go_wp2_with fail
      refine HRd.out.mono ?_
      rintro e w3 ⟨rfl, k3⟩
      have hA3 := HA2.out.belowV k3 HA2.out.lt
      have hB3 := HB2.out.trans (k3.mono HB2.out.size)
      have hN := below_new w3 (.cells #[.int .i64 ca, .int .i64 cb, .int .i64 cc, .int .i64 cd, .int .i64 ce] 23)
      have HA4 := Lib.hid (hA3.belowV hN hA3.lt)
      have HB4 := Lib.hid (hB3.trans (hN.mono hB3.size))
      have HS4 := Lib.hid (show SpL (w3.alloc (.cells #[.int .i64 ca, .int .i64 cb, .int .i64 cc, .int .i64 cd, .int .i64 ce] 23)) w3.heap.size [ca, cb, cc, cd, ce] from heap_alloc_new w3 _)
      clear hA3 hB3 hN k3 HRd HSp HA2 HB2
      unfold aggL
      go_wp2_with fail
      refine (HV.out _).mono ?_
      rintro e w5 ⟨rfl, hw5⟩
      have hN5 : Below (w3.alloc (.cells #[.int .i64 ca, .int .i64 cb, .int .i64 cc, .int .i64 cd, .int .i64 ce] 23)).heap.size (w3.alloc (.cells #[.int .i64 ca, .int .i64 cb, .int .i64 cc, .int .i64 cd, .int .i64 ce] 23)) w5 := by rw [hw5]; exact below_new _ _
      have HA5 := Lib.hid (HA4.out.belowV hN5 HA4.out.lt)
      have HB5 := Lib.hid (HB4.out.trans (hN5.mono HB4.out.size))
      have HS5 := Lib.hid (HS4.out.belowV hN5 HS4.out.lt)
      clear hw5 hN5 HA4 HB4 HS4 HV
      have s0 := HS5.out.cell (j := 0) (by simp)
      have s1 := HS5.out.cell (j := 1) (by simp)
      have s2 := HS5.out.cell (j := 2) (by simp)
      have s3 := HS5.out.cell (j := 3) (by simp)
      have s4 := HS5.out.cell (j := 4) (by simp)
      simp only [List.getElem?_cons_zero, List.getElem?_cons_succ, Option.getD_some] at s0 s1 s2 s3 s4
      have HT := Lib.hid (format_any ca cb cc cd ce w5 ((HE.out.on HB5.out).up HB5.out.size).tab)
      unfold FmtPost at HT
      generalize (⟨(fmtT ca cb cc cd ce).toArray⟩ : ByteArray) = t at hne HT
      go_wp2_with fail
      refine HT.out.mono ?_
      rintro e w6 ⟨rfl, k6⟩
      have HA6 := Lib.hid (HA5.out.belowV k6 HA5.out.lt)
      have HB6 := Lib.hid (HB5.out.trans (k6.mono HB5.out.size))
      have HS6 := Lib.hid (HS5.out.belowV k6 HS5.out.lt)
      clear k6 HT HA5 HB5 HS5 s0 s1 s2 s3 s4
      have a0 := HA6.out.cell (j := 0) (by simp)
      have a1 := HA6.out.cell (j := 1) (by simp)
      have a2 := HA6.out.cell (j := 2) (by simp)
      have a3 := HA6.out.cell (j := 3) (by simp)
      have a4 := HA6.out.cell (j := 4) (by simp)
      simp only [List.getElem?_cons_zero, List.getElem?_cons_succ, Option.getD_some] at a0 a1 a2 a3 a4
      have b0 := HA6.out.froz 0
      have b1 := HA6.out.froz 1
      have b2 := HA6.out.froz 2
      have b3 := HA6.out.froz 3
      have b4 := HA6.out.froz 4
      have HFN := Lib.hid (show SpL (((((w6.setCell ⟨w.heap.size, 0, none⟩ (.int .i64 0)).setCell ⟨w.heap.size, 1, none⟩ (.int .i64 0)).setCell ⟨w.heap.size, 2, none⟩ (.int .i64 0)).setCell ⟨w.heap.size, 3, none⟩ (.int .i64 0)).setCell ⟨w.heap.size, 4, none⟩ (.int .i64 0)) w.heap.size [0, 0, 0, 0, 0] ∧ Below w.heap.size w (((((w6.setCell ⟨w.heap.size, 0, none⟩ (.int .i64 0)).setCell ⟨w.heap.size, 1, none⟩ (.int .i64 0)).setCell ⟨w.heap.size, 2, none⟩ (.int .i64 0)).setCell ⟨w.heap.size, 3, none⟩ (.int .i64 0)).setCell ⟨w.heap.size, 4, none⟩ (.int .i64 0)) from ⟨(((((HA6.out.setG 0 0).setG 1 0).setG 2 0).setG 3 0).setG 4 0), (((((HB6.out.setCell (p := ⟨w.heap.size, 0, none⟩) (Nat.le_refl _) (.int .i64 0)).setCell (p := ⟨w.heap.size, 1, none⟩) (Nat.le_refl _) (.int .i64 0)).setCell (p := ⟨w.heap.size, 2, none⟩) (Nat.le_refl _) (.int .i64 0)).setCell (p := ⟨w.heap.size, 3, none⟩) (Nat.le_refl _) (.int .i64 0)).setCell (p := ⟨w.heap.size, 4, none⟩) (Nat.le_refl _) (.int .i64 0))⟩)
      go_wp2_with fail
      have r0 := HFN.out.1.cell (j := 0) (by simp)
      have r1 := HFN.out.1.cell (j := 1) (by simp)
      have r2 := HFN.out.1.cell (j := 2) (by simp)
      have r3 := HFN.out.1.cell (j := 3) (by simp)
      have r4 := HFN.out.1.cell (j := 4) (by simp)
      simp only [List.getElem?_cons_zero, List.getElem?_cons_succ, Option.getD_some] at r0 r1 r2 r3 r4
      refine bodyPost_ret (v := .tuple #[aggL [0, 0, 0, 0, 0], .int .i64 2]) (by simp [results, Tryd.f7, go_sem, r0, r1, r2, r3, r4, aggL]) rfl ?_
      exact ⟨rfl, HFN.out.2⟩
end Go.Proofs.YtakekegghpgeaaaDoor
