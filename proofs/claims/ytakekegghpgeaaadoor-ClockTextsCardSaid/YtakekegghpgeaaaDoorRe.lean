/-
  read of package clock, as a contract: the spec that words tell.
-/
import Derived.Test.YtakekegghpgeaaaDoorFi
namespace Go.Proofs.YtakekegghpgeaaaDoor
open Go.RowKit Go.Lib
set_option linter.unusedSimpArgs false

/-- What words tell of a kind. -/
def tryK (k : Int) (ws : List ByteArray) : Option (List Int) :=
  if ((ws[0]?.getD (ByteArray.mk #[])).data.toList == nameT k) = true ∧ ws.length = (offsT k).length + 1 then
    (if (fillGo (plainW ((offsT k).zip (ws.drop 1))) [k, 0, 0, 0, 0]).2 = true then some (fillGo (plainW ((offsT k).zip (ws.drop 1))) [k, 0, 0, 0, 0]).1 else none)
  else none
def readFrom (ws : List ByteArray) : Int → Nat → List Int
  | _, 0 => [0, 0, 0, 0, 0]
  | k, n + 1 => match tryK k ws with
    | some cs => cs
    | none => readFrom ws (k + 1) n
def aggL (cs : List Int) : Value := .agg (cs.map (Value.int .i64)).toArray
def ReadPost (w : World) (cs : List Int) (e : Ending) (w' : World) : Prop := e = .returned (aggL cs) ∧ Below w.heap.size w w'
theorem offs_small (k : Int) : ∀ o ∈ offsT k, o < 5 := by
  unfold offsT
  repeat' split
  all_goals decide
theorem SpL.ofNew (w : World) (k : Int) : SpL (w.alloc (.cells #[.int .i64 k, .int .i64 0, .int .i64 0, .int .i64 0, .int .i64 0] 23)) w.heap.size [k, 0, 0, 0, 0] := heap_alloc_new w _
theorem five {cs : List Int} (h : cs.length = 5) : ∃ a b c d e, cs = [a, b, c, d, e] := by
  match cs, h with
  | [a, b, c, d, e], _ => exact ⟨a, b, c, d, e, rfl⟩

set_option maxRecDepth 100000 in
set_option maxHeartbeats 4000000 in
theorem read_any (ws : List ByteArray) (g1 : Nat) (c : Nat) (w : World) (h0 : 0 < ws.length) (hw3 : ws.length ≤ 1000000) (hc : ws.length ≤ c) (hz : ∀ x ∈ ws, x.size ≤ 1000000) (hg : g1 < w.heap.size) (hW : ∀ i, i < ws.length → w.cell? ⟨g1, i, none⟩ = some (.string (ws[i]?.getD (ByteArray.mk #[]))))
    (hE : Env w.heap.size w) :
    Calls Tryd.prog 15 #[.slice (some ⟨g1, 0, none⟩) ws.length c] w (ReadPost w (readFrom ws 1 4)) := by
  obtain ⟨R, hR⟩ : ∃ R, R = readFrom ws 1 4 := ⟨_, rfl⟩
  rw [← hR]
  have HR := Lib.hid hR
  have HW := Lib.hid hW
  have HE := Lib.hid hE
  have HZ := Lib.hid hz
  have HH := Lib.hid (And.intro h0 (And.intro hw3 hc))
  have HGL := Lib.hid hg
  have hA := SpL.ofNew w 0
  have HA := Lib.hid hA
  have HB := Lib.hid (below_new w (.cells #[.int .i64 0, .int .i64 0, .int .i64 0, .int .i64 0, .int .i64 0] 23))
  clear hR hW hE hz h0 hw3 hc hg hA
  go_enter Tryd.func15, Tryd.ntmps15
  go_wp2_with fail
  go_loopw [3] (fun s wr => ∃ (j : Nat), s = .int .i64 j ∧ 1 ≤ j ∧ j ≤ 5 ∧ Hid (readFrom ws j (5 - j) = R) ∧ Hid (SpL wr w.heap.size [0, 0, 0, 0, 0]) ∧ Hid (Below w.heap.size w wr) ∧ Hid (w.heap.size < wr.heap.size)) (fun s _ => 5 - (RowKit.intOf s).toNat)
  case atStart => exact ⟨1, rfl, Nat.le_refl _, by omega, HR.out.symm, HA.out, HB.out, HA.out.lt⟩
  case round =>
    clear HA HB HR
    obtain ⟨j, rfl, hj1, hj5, HG, HA, HB, HL⟩ := hrel
    by_cases hlt : j ≤ 4
    · have hi1 : (j : Int) ≤ 4 := by omega
      have hg := HG.out
      rw [show 5 - j = (4 - j) + 1 by omega, readFrom] at hg
      have HG2 := Lib.hid hg
      have hS := SpL.ofNew wr j
      have HB2 := Lib.hid (HB.out.trans ((below_new wr (.cells #[.int .i64 j, .int .i64 0, .int .i64 0, .int .i64 0, .int .i64 0] 23)).mono HB.out.size))
      have HF := Lib.hid (form_any wr.heap.size j 0 0 0 0 _ (show SpB (wr.alloc (.cells #[.int .i64 j, .int .i64 0, .int .i64 0, .int .i64 0, .int .i64 0] 23)) wr.heap.size j 0 0 0 0 from hS))
      have HS := Lib.hid hS
      have HLT := Lib.hid (And.intro hlt (And.intro hj1 hj5))
      have HA2 := Lib.hid (HA.out.belowV (below_new wr (.cells #[.int .i64 j, .int .i64 0, .int .i64 0, .int .i64 0, .int .i64 0] 23)) HL.out)
      unfold FormPost at HF
      clear hg hS HG hj5 hj1
      go_wp2_with fail
      refine HF.out.mono ?_
      rintro e w2 ⟨v, rfl, ⟨p, c2, rfl, hc2, hP⟩, k2⟩
      have HK2 := Lib.hid k2
      have hx0 := (k2.cell (p := ⟨g1, 0, none⟩) (show g1 < _ from Nat.lt_of_lt_of_le HGL.out HB2.out.size)).trans ((HB2.out.cell (p := ⟨g1, 0, none⟩) HGL.out).trans (HW.out 0 HH.out.1))
      have HS2 := Lib.hid (HS.out.belowV k2 HS.out.lt)
      have HA3 := Lib.hid (HA2.out.belowV k2 HA2.out.lt)
      have HB3 := Lib.hid (HB2.out.trans (k2.mono HB2.out.size))
      have HP := Lib.hid hP
      have HO := Lib.hid (offs_small (j : Int))
      have ho3 := offs_len3 (j : Int)
      have hgt := HG2.out
      unfold tryK at hgt
      have h1 := HH.out.1
      have h2 := HH.out.2.1
      have h3 := HH.out.2.2
      have hh0 : (0 : Int) < (ws.length : Int) := by omega
      have hh1 : (1 : Int) ≤ (ws.length : Int) := by omega
      clear hP k2 HF HS HA2 HG2
      generalize ws[0]?.getD (ByteArray.mk #[]) = x0 at hx0 hgt
      have hNd : (⟨(nameT (j : Int)).toArray⟩ : ByteArray).data.toList = nameT (j : Int) := rfl
      generalize hN : (⟨(nameT (j : Int)).toArray⟩ : ByteArray) = N at hNd ⊢
      generalize nameT (j : Int) = nm at hNd hgt hN
      generalize offsT (j : Int) = os at HP HO ho3 hgt ⊢
      have hxe : (x0.data.toList == nm) = (x0.toList == N.toList) := by rw [ByteArray.toList_eq, ByteArray.toList_eq, hNd]
      rw [hxe] at hgt
      clear hxe hNd hN
      cases hx : (x0.toList == N.toList) with
      | false =>
        rw [hx, if_neg (by intro h; cases h.1)] at hgt
        have HG3 := Lib.hid hgt
        clear hgt h1 h2 h3
        go_wp2_with fail
        go_roundw
        case rel => exact ⟨j + 1, by go_num, by omega, by have := HLT.out; omega, by have := HLT.out; rw [show 5 - (j + 1) = 4 - j by omega]; exact HG3.out, HA3.out, HB3.out, HA3.out.lt⟩
        case measure => have := HLT.out; simp [RowKit.intOf]; omega
      | true =>
        rw [hx] at hgt
        have qn : IntKind.i64.wrap ((os.length : Int) + 1) = (os.length : Int) + 1 := by rw [IntKind.wrap_i64]; omega
        by_cases hl : ws.length = os.length + 1
        · have el : ((ws.length : Int) == (os.length : Int) + 1) = true := by rw [beq_iff_eq]; omega
          have c1 : (1 : Int) ≤ (c : Int) := by omega
          have hzl : (os.zip (ws.drop 1)).length = os.length := by rw [List.length_zip, List.length_drop]; omega
          have hget : ∀ i, i < os.length → ((os.zip (ws.drop 1))[i]?.getD pw0).1 = os[i]?.getD 0 ∧ ((os.zip (ws.drop 1))[i]?.getD pw0).2 = ws[1 + i]?.getD (ByteArray.mk #[]) := fun i hi => by
            have h1' : i < (os.zip (ws.drop 1)).length := by omega
            have h2' : i + 1 < ws.length := by omega
            rw [Nat.add_comm 1 i, List.getElem?_eq_getElem h1', List.getElem?_eq_getElem hi, List.getElem?_eq_getElem h2']
            simp [List.getElem_zip]
          have hFI := fun (q : Option Addr) (d : Nat) (hq : 0 < os.length → q = some ⟨g1, 1, none⟩) =>
            fill_any wr.heap.size (os.zip (ws.drop 1)) [j, 0, 0, 0, 0] p q c2 d w2 (by omega) rfl
              (fun x hx => by
                obtain ⟨a, b⟩ := x
                have := List.of_mem_zip hx
                exact ⟨HO.out a this.1, HZ.out b (List.mem_of_mem_drop this.2)⟩)
              (fun h => by
                obtain ⟨g0, e, hg, hc⟩ := HP.out (by omega)
                refine ⟨g0, e, hg, ?_, fun i hi => by rw [(hget i (by omega)).1]; exact hc i (by omega)⟩
                rintro rfl
                have a1 := hc 0 (by omega)
                have a2 := HS2.out.cell (j := 0) (by simp)
                rw [a2] at a1
                cases a1)
              (fun h => ⟨g1, 1, hq (by omega), Nat.lt_of_lt_of_le HGL.out HB3.out.size, (by have := HGL.out; have := HL.out; omega), fun i hi => by
                rw [(hget i (by omega)).2]
                exact (HB3.out.cell (p := ⟨g1, 1 + i, none⟩) HGL.out).trans (HW.out (1 + i) (by omega))⟩)
              w.heap.size (Nat.le_of_lt HL.out) HB3.out.size (HE.out.on HB3.out) HS2.out
          rw [hzl] at hFI
          rw [if_pos ⟨rfl, hl⟩] at hgt
          have hlen5 := fillGo_len (plainW (os.zip (ws.drop 1))) [j, 0, 0, 0, 0]
          unfold FillPost at hFI
          generalize fillGo (plainW (os.zip (ws.drop 1))) [j, 0, 0, 0, 0] = F at hFI hgt hlen5
          obtain ⟨fc, fb⟩ := F
          dsimp only at hFI hgt hlen5
          obtain ⟨f0, f1, f2, f3, f4, rfl⟩ := five hlen5
          have HGT := Lib.hid hgt
          have HNE := Lib.hid (show w.heap.size ≠ wr.heap.size by have := HL.out; omega)
          have HFI := Lib.hid fun (n : Nat) (hn : n = os.length) (q : Option Addr) (d : Nat) (hq : 0 < os.length → q = some ⟨g1, 1, none⟩) => (show Calls Tryd.prog 26 #[.slice p os.length c2, .slice q n d] w2 (fun e w' => e = .returned (.bool fb) ∧ SpL w' wr.heap.size [f0, f1, f2, f3, f4] ∧ Grew w2 wr.heap.size w') by subst hn; exact hFI q d hq)
          have HLL := Lib.hid hl
          clear hget hzl hgt hlen5 hFI hl
          by_cases hc1 : c = 1
          · subst hc1
            go_wp2_with fail
            all_goals
              refine (HFI.out _ (by have := HLL.out; omega) _ _ (by first | (intro _; rfl) | (intro h; exfalso; have := HLL.out; have := HH.out.2.2; omega))).mono ?_
              rintro e w3 ⟨rfl, hS3, k3⟩
              have HA4 := Lib.hid (show SpL w3 w.heap.size [0, 0, 0, 0, 0] from (k3.block _ HA3.out.lt (fun e => HNE.out (Option.some.inj e))).trans HA3.out)
              have HB4 := Lib.hid (HB3.out.trans (k3.toBelow (Nat.le_of_lt HL.out) HB3.out.size))
              have hg := HGT.out
              clear HFI k3 HGT
              cases fb with
              | false =>
                rw [if_neg (by decide)] at hg
                have HG3 := Lib.hid hg
                clear hg hS3 h1 h2 h3
                go_wp2_with fail
                go_roundw
                case rel => exact ⟨j + 1, by go_num, by omega, by have := HLT.out; omega, by have := HLT.out; rw [show 5 - (j + 1) = 4 - j by omega]; exact HG3.out, HA4.out, HB4.out, HA4.out.lt⟩
                case measure => have := HLT.out; simp [RowKit.intOf]; omega
              | true =>
                rw [if_pos rfl] at hg
                have HG3 := Lib.hid (show [f0, f1, f2, f3, f4] = R from hg)
                have s0 := hS3.cell (j := 0) (by simp)
                have s1 := hS3.cell (j := 1) (by simp)
                have s2 := hS3.cell (j := 2) (by simp)
                have s3 := hS3.cell (j := 3) (by simp)
                have s4 := hS3.cell (j := 4) (by simp)
                simp only [List.getElem?_cons_zero, List.getElem?_cons_succ, Option.getD_some] at s0 s1 s2 s3 s4
                have a0 := HA4.out.cell (j := 0) (by simp)
                have a1 := HA4.out.cell (j := 1) (by simp)
                have a2 := HA4.out.cell (j := 2) (by simp)
                have a3 := HA4.out.cell (j := 3) (by simp)
                have a4 := HA4.out.cell (j := 4) (by simp)
                simp only [List.getElem?_cons_zero, List.getElem?_cons_succ, Option.getD_some] at a0 a1 a2 a3 a4
                have b0 := HA4.out.froz 0
                have b1 := HA4.out.froz 1
                have b2 := HA4.out.froz 2
                have b3 := HA4.out.froz 3
                have b4 := HA4.out.froz 4
                have HFN := Lib.hid (show SpL (((((w3.setCell ⟨w.heap.size, 0, none⟩ (.int .i64 f0)).setCell ⟨w.heap.size, 1, none⟩ (.int .i64 f1)).setCell ⟨w.heap.size, 2, none⟩ (.int .i64 f2)).setCell ⟨w.heap.size, 3, none⟩ (.int .i64 f3)).setCell ⟨w.heap.size, 4, none⟩ (.int .i64 f4)) w.heap.size [f0, f1, f2, f3, f4] ∧ Below w.heap.size w (((((w3.setCell ⟨w.heap.size, 0, none⟩ (.int .i64 f0)).setCell ⟨w.heap.size, 1, none⟩ (.int .i64 f1)).setCell ⟨w.heap.size, 2, none⟩ (.int .i64 f2)).setCell ⟨w.heap.size, 3, none⟩ (.int .i64 f3)).setCell ⟨w.heap.size, 4, none⟩ (.int .i64 f4)) from ⟨(((((HA4.out.setG 0 f0).setG 1 f1).setG 2 f2).setG 3 f3).setG 4 f4), (((((HB4.out.setCell (p := ⟨w.heap.size, 0, none⟩) (Nat.le_refl _) (.int .i64 f0)).setCell (p := ⟨w.heap.size, 1, none⟩) (Nat.le_refl _) (.int .i64 f1)).setCell (p := ⟨w.heap.size, 2, none⟩) (Nat.le_refl _) (.int .i64 f2)).setCell (p := ⟨w.heap.size, 3, none⟩) (Nat.le_refl _) (.int .i64 f3)).setCell (p := ⟨w.heap.size, 4, none⟩) (Nat.le_refl _) (.int .i64 f4))⟩)
                clear hg hS3 h1 h2 h3 HA4 HB4
                go_wp2_with fail
                have r0 := HFN.out.1.cell (j := 0) (by simp)
                have r1 := HFN.out.1.cell (j := 1) (by simp)
                have r2 := HFN.out.1.cell (j := 2) (by simp)
                have r3 := HFN.out.1.cell (j := 3) (by simp)
                have r4 := HFN.out.1.cell (j := 4) (by simp)
                simp only [List.getElem?_cons_zero, List.getElem?_cons_succ, Option.getD_some] at r0 r1 r2 r3 r4
                refine bodyPost_ret (v := aggL [f0, f1, f2, f3, f4]) (by simp [results, Tryd.f15, go_sem, r0, r1, r2, r3, r4, aggL]) rfl ?_
                exact ⟨by rw [← HG3.out], HFN.out.2⟩
          · have hc2 : (1 : Int) < (c : Int) := by omega
            have hc3 : ¬ c - 1 = 0 := by omega
            go_wp2_with fail
            all_goals
              refine (HFI.out _ (by have := HLL.out; omega) _ _ (by first | (intro _; rfl) | (intro h; exfalso; have := HLL.out; have := HH.out.2.2; omega))).mono ?_
              rintro e w3 ⟨rfl, hS3, k3⟩
              have HA4 := Lib.hid (show SpL w3 w.heap.size [0, 0, 0, 0, 0] from (k3.block _ HA3.out.lt (fun e => HNE.out (Option.some.inj e))).trans HA3.out)
              have HB4 := Lib.hid (HB3.out.trans (k3.toBelow (Nat.le_of_lt HL.out) HB3.out.size))
              have hg := HGT.out
              clear HFI k3 HGT
              cases fb with
              | false =>
                rw [if_neg (by decide)] at hg
                have HG3 := Lib.hid hg
                clear hg hS3 h1 h2 h3
                go_wp2_with fail
                go_roundw
                case rel => exact ⟨j + 1, by go_num, by omega, by have := HLT.out; omega, by have := HLT.out; rw [show 5 - (j + 1) = 4 - j by omega]; exact HG3.out, HA4.out, HB4.out, HA4.out.lt⟩
                case measure => have := HLT.out; simp [RowKit.intOf]; omega
              | true =>
                rw [if_pos rfl] at hg
                have HG3 := Lib.hid (show [f0, f1, f2, f3, f4] = R from hg)
                have s0 := hS3.cell (j := 0) (by simp)
                have s1 := hS3.cell (j := 1) (by simp)
                have s2 := hS3.cell (j := 2) (by simp)
                have s3 := hS3.cell (j := 3) (by simp)
                have s4 := hS3.cell (j := 4) (by simp)
                simp only [List.getElem?_cons_zero, List.getElem?_cons_succ, Option.getD_some] at s0 s1 s2 s3 s4
                have a0 := HA4.out.cell (j := 0) (by simp)
                have a1 := HA4.out.cell (j := 1) (by simp)
                have a2 := HA4.out.cell (j := 2) (by simp)
                have a3 := HA4.out.cell (j := 3) (by simp)
                have a4 := HA4.out.cell (j := 4) (by simp)
                simp only [List.getElem?_cons_zero, List.getElem?_cons_succ, Option.getD_some] at a0 a1 a2 a3 a4
                have b0 := HA4.out.froz 0
                have b1 := HA4.out.froz 1
                have b2 := HA4.out.froz 2
                have b3 := HA4.out.froz 3
                have b4 := HA4.out.froz 4
                have HFN := Lib.hid (show SpL (((((w3.setCell ⟨w.heap.size, 0, none⟩ (.int .i64 f0)).setCell ⟨w.heap.size, 1, none⟩ (.int .i64 f1)).setCell ⟨w.heap.size, 2, none⟩ (.int .i64 f2)).setCell ⟨w.heap.size, 3, none⟩ (.int .i64 f3)).setCell ⟨w.heap.size, 4, none⟩ (.int .i64 f4)) w.heap.size [f0, f1, f2, f3, f4] ∧ Below w.heap.size w (((((w3.setCell ⟨w.heap.size, 0, none⟩ (.int .i64 f0)).setCell ⟨w.heap.size, 1, none⟩ (.int .i64 f1)).setCell ⟨w.heap.size, 2, none⟩ (.int .i64 f2)).setCell ⟨w.heap.size, 3, none⟩ (.int .i64 f3)).setCell ⟨w.heap.size, 4, none⟩ (.int .i64 f4)) from ⟨(((((HA4.out.setG 0 f0).setG 1 f1).setG 2 f2).setG 3 f3).setG 4 f4), (((((HB4.out.setCell (p := ⟨w.heap.size, 0, none⟩) (Nat.le_refl _) (.int .i64 f0)).setCell (p := ⟨w.heap.size, 1, none⟩) (Nat.le_refl _) (.int .i64 f1)).setCell (p := ⟨w.heap.size, 2, none⟩) (Nat.le_refl _) (.int .i64 f2)).setCell (p := ⟨w.heap.size, 3, none⟩) (Nat.le_refl _) (.int .i64 f3)).setCell (p := ⟨w.heap.size, 4, none⟩) (Nat.le_refl _) (.int .i64 f4))⟩)
                clear hg hS3 h1 h2 h3 HA4 HB4
                go_wp2_with fail
                have r0 := HFN.out.1.cell (j := 0) (by simp)
                have r1 := HFN.out.1.cell (j := 1) (by simp)
                have r2 := HFN.out.1.cell (j := 2) (by simp)
                have r3 := HFN.out.1.cell (j := 3) (by simp)
                have r4 := HFN.out.1.cell (j := 4) (by simp)
                simp only [List.getElem?_cons_zero, List.getElem?_cons_succ, Option.getD_some] at r0 r1 r2 r3 r4
                refine bodyPost_ret (v := aggL [f0, f1, f2, f3, f4]) (by simp [results, Tryd.f15, go_sem, r0, r1, r2, r3, r4, aggL]) rfl ?_
                exact ⟨by rw [← HG3.out], HFN.out.2⟩
        · have el : ((ws.length : Int) == (os.length : Int) + 1) = false := by rw [beq_eq_false_iff_ne]; omega
          rw [if_neg (by intro h; exact hl h.2)] at hgt
          have HG3 := Lib.hid hgt
          clear hgt h1 h2 h3 hl
          go_wp2_with fail
          go_roundw
          case rel => exact ⟨j + 1, by go_num, by omega, by have := HLT.out; omega, by have := HLT.out; rw [show 5 - (j + 1) = 4 - j by omega]; exact HG3.out, HA3.out, HB3.out, HA3.out.lt⟩
          case measure => have := HLT.out; simp [RowKit.intOf]; omega
    · have hje : j = 5 := by omega
      have hg := HG.out
      subst hje
      have HG2 := Lib.hid (show [0, 0, 0, 0, 0] = R from hg)
      clear hg HG
      have a0 := HA.out.cell (j := 0) (by simp)
      have a1 := HA.out.cell (j := 1) (by simp)
      have a2 := HA.out.cell (j := 2) (by simp)
      have a3 := HA.out.cell (j := 3) (by simp)
      have a4 := HA.out.cell (j := 4) (by simp)
      simp only [List.getElem?_cons_zero, List.getElem?_cons_succ, Option.getD_some] at a0 a1 a2 a3 a4
      have b0 := HA.out.froz 0
      have b1 := HA.out.froz 1
      have b2 := HA.out.froz 2
      have b3 := HA.out.froz 3
      have b4 := HA.out.froz 4
      have HFN := Lib.hid (show SpL (((((wr.setCell ⟨w.heap.size, 0, none⟩ (.int .i64 0)).setCell ⟨w.heap.size, 1, none⟩ (.int .i64 0)).setCell ⟨w.heap.size, 2, none⟩ (.int .i64 0)).setCell ⟨w.heap.size, 3, none⟩ (.int .i64 0)).setCell ⟨w.heap.size, 4, none⟩ (.int .i64 0)) w.heap.size [0, 0, 0, 0, 0] ∧ Below w.heap.size w (((((wr.setCell ⟨w.heap.size, 0, none⟩ (.int .i64 0)).setCell ⟨w.heap.size, 1, none⟩ (.int .i64 0)).setCell ⟨w.heap.size, 2, none⟩ (.int .i64 0)).setCell ⟨w.heap.size, 3, none⟩ (.int .i64 0)).setCell ⟨w.heap.size, 4, none⟩ (.int .i64 0)) from ⟨(((((HA.out.setG 0 0).setG 1 0).setG 2 0).setG 3 0).setG 4 0), (((((HB.out.setCell (p := ⟨w.heap.size, 0, none⟩) (Nat.le_refl _) (.int .i64 0)).setCell (p := ⟨w.heap.size, 1, none⟩) (Nat.le_refl _) (.int .i64 0)).setCell (p := ⟨w.heap.size, 2, none⟩) (Nat.le_refl _) (.int .i64 0)).setCell (p := ⟨w.heap.size, 3, none⟩) (Nat.le_refl _) (.int .i64 0)).setCell (p := ⟨w.heap.size, 4, none⟩) (Nat.le_refl _) (.int .i64 0))⟩)
      go_wp2_with fail
      have r0 := HFN.out.1.cell (j := 0) (by simp)
      have r1 := HFN.out.1.cell (j := 1) (by simp)
      have r2 := HFN.out.1.cell (j := 2) (by simp)
      have r3 := HFN.out.1.cell (j := 3) (by simp)
      have r4 := HFN.out.1.cell (j := 4) (by simp)
      simp only [List.getElem?_cons_zero, List.getElem?_cons_succ, Option.getD_some] at r0 r1 r2 r3 r4
      refine bodyPost_ret (v := aggL [0, 0, 0, 0, 0]) (by simp [results, Tryd.f15, go_sem, r0, r1, r2, r3, r4, aggL]) rfl ?_
      exact ⟨by rw [← HG2.out], HFN.out.2⟩
end Go.Proofs.YtakekegghpgeaaaDoor
