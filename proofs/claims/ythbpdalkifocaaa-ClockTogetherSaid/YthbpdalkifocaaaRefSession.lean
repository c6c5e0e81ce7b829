/-
  The document's own function that tells the session of a time, under the same contract.
-/
import Derived.Test.YthbpdalkifocaaaSession
namespace Go.Proofs.Ythbpdalkifocaaa
open Go.RowKit

theorem refContains_b (a b t : Int) (w : World) : Calls Try.prog 30 #[.agg #[.int .i64 a, .int .i64 b], .int .i64 t] w fun e w' => e = .returned (.bool (inWin a b t)) ∧ Below w.heap.size w w' :=
  (refContains_any a b t w).mono fun _ _ ⟨h1, h2⟩ => ⟨h1, by rw [h2]; exact ((Below.refl _ _).alloc (Nat.le_refl _) _).alloc (by simp) _⟩

set_option maxRecDepth 100000 in
set_option maxHeartbeats 400000 in
theorem refSession_any (g : Int) (p : Option Addr) (cap : Nat) (ts : List Int) (t : Int) (w : World) (hX : IntsIn w p ts) :
    Calls Try.prog 15 #[.int .i64 g, .slice p ts.length cap, .int .i64 t] w (SessionPost w g ts t) := by
  have hB0 : Below w.heap.size w (w.alloc (.cells #[.int .i64 0, .int .i64 0] 31)) := (Below.refl _ _).alloc (Nat.le_refl _) _
  have hX0 := hX.belowV hB0
  have hc := refSessions_any g p cap ts _ hX0
  have hz0 : (w.alloc (.cells #[.int .i64 0, .int .i64 0] 31)).heap.size = w.heap.size + 1 := by simp
  have HZ0 := Lib.hid hz0
  by_cases h : sessErr g ts = 0
  · have hc2 : Calls Try.prog 13 #[.int .i64 g, .slice p ts.length cap] (w.alloc (.cells #[.int .i64 0, .int .i64 0] 31)) (MergeOK (w.alloc (.cells #[.int .i64 0, .int .i64 0] 31)) (sessW g ts)) := hc.mono fun e w' hh => by
      rcases hh with ⟨h1, _⟩ | ⟨_, h1⟩
      · exact absurd h h1
      · exact h1
    by_cases ht : inTime t
    · have hv := fun W => refValid_any t W
      rw [inR_yes ht] at hv
      have HC := Lib.hid hc2
      have HV := Lib.hid hv
      have HH := Lib.hid h
      have HT := Lib.hid ht
      clear hc hc2 h hX ht hv hX0 hB0 hz0
      go_enter Try.func15, Try.ntmps15
      go_wp2_with (first
        | (go_at_call 13; refine HC.out.mono ?_; rintro e w3 ⟨ys, h1, h2, h3, v, rfl, hrow, hB3⟩; obtain ⟨p1, c1, rfl⟩ := slice_of_owns hrow)
        | (go_at_call 27; refine (HV.out _).mono ?_; rintro e w' ⟨rfl, rfl⟩))
      have hrz : w.heap.size + 1 ≤ w3.heap.size := by have := hB3.size; rw [HZ0.out] at this; exact this
      have hBw : Below w.heap.size w w3 := ((Below.refl _ _).alloc (Nat.le_refl _) _).trans (hB3.mono (by rw [HZ0.out]; omega))
      have hC0 : Blk w3 w.heap.size 31 #[.int .i64 0, .int .i64 0] := (hB3.block w.heap.size (by rw [HZ0.out]; omega)).trans (Blk.new _ _ _)
      have HA := Lib.hid (winsIn_of_owns hrow)
      have HLO := Lib.hid (fun k (e : (Value.slice p1 ys.length c1).ownBlock = some k) => (hrow.lt k e).1)
      have HS := Lib.hid h1
      have HCv := Lib.hid h2
      have HC0 := Lib.hid hC0
      have hyl : ys.length ≤ 9223372036854775807 := (rowIs_of_owns hrow).1
      clear hrow h1 h2 h3 hB3 hC0
      go_loopw [10] (fun s wr => ∃ i : Nat, s = .int .i64 i ∧ i ≤ ys.length ∧ Hid (NoneYet ys t i) ∧ Below w3.heap.size w3 wr) (fun s _ => ys.length - (intOf s).toNat)
      case atStart => exact ⟨0, rfl, Nat.zero_le _, fun j hj => by omega, Below.refl _ _⟩
      case round =>
        obtain ⟨i, rfl, hi, hny, hB⟩ := hrel
        by_cases hlt : i < ys.length
        · obtain ⟨gb, go, rfl, hgl, hga⟩ := HA.out (by omega)
          obtain ⟨cy0, cy1⟩ := hga i hlt
          have hin := inWin_of HS.out hlt HT.out
          have hmem : ys[i]?.getD (0, 0) ∈ ys := by simp [List.getElem?_eq_getElem hlt]
          have HN := Lib.hid (hny.out.next)
          have hi0 : (0 : Int) ≤ (i : Int) := by omega
          have hi1 : (i : Int) < (ys.length : Int) := by omega
          generalize (ys[i]?.getD (0, 0)) = y at hin hmem HN cy0 cy1
          obtain ⟨y0, y1⟩ := y
          dsimp only at hin hmem HN cy0 cy1
          have d0 := (hB.cell (p := ⟨gb, go + i * 2, none⟩) hgl).trans cy0
          have d1 := (hB.cell (p := ⟨gb, go + i * 2 + 1, none⟩) hgl).trans cy1
          have hBs := hB.size
          have hCr := HC0.out.belowV hB (by omega)
          have hcon := fun W => refContains_b y0 y1 t W
          rw [hin] at hcon
          have HCON := Lib.hid hcon
          have HM2 := Lib.hid hmem
          have HCr := Lib.hid hCr
          have HD01 := Lib.hid (And.intro cy0 cy1)
          clear hcon hmem cy0 cy1 hga hCr hin
          by_cases hq : y0 ≤ t ∧ t < y1
          · have HD := Lib.hid (decide_eq_true hq)
            rw [HD.out] at HCON
            have HQ := Lib.hid hq
            clear hq HD
            go_wp2_with fail
            refine (HCON.out _).mono ?_
            rintro e w' ⟨rfl, hb⟩
            have hBr := hB.trans (hb.mono hBs)
            have k1 := HCr.out.belowV hb (by omega)
            have hbt := hBw.trans (hBr.mono hBw.size)
            have c0 := k1.cell 0
            have c1' := k1.cell 1
            have f0 := k1.frozen 0
            have f1 := k1.frozen 1
            have e0 := (hBr.cell (p := ⟨gb, go + i * 2, none⟩) hgl).trans HD01.out.1
            have e1 := (hBr.cell (p := ⟨gb, go + i * 2 + 1, none⟩) hgl).trans HD01.out.2
            have hne : gb ≠ w.heap.size := (by have := HLO.out gb rfl; rw [HZ0.out] at this; omega)
            have K1 := Lib.hid k1
            clear hb k1 d0 d1
            simp only [List.getElem?_toArray, List.getElem?_cons_zero, List.getElem?_cons_succ] at c0 c1'
            go_wp2_with fail
            have kk := (K1.out.set0 (.int .i64 y0)).set1 (.int .i64 y1)
            have r0 := kk.cell 0
            have r1 := kk.cell 1
            exact bodyPost_ret (v := .tuple #[.agg #[.int .i64 y0, .int .i64 y1], .int .i64 0]) (by simp [results, Try.results15, go_sem, r0, r1]) rfl
              ⟨y0, y1, 0, rfl, .inr ⟨HH.out, .inr ⟨HT.out, ys, HS.out, HCv.out, .inl ⟨rfl, HM2.out, HQ.out.1, HQ.out.2⟩⟩⟩, (hbt.setCell (Nat.le_refl _) _).setCell (Nat.le_refl _) _⟩
          · have HD := Lib.hid (decide_eq_false hq)
            rw [HD.out] at HCON
            have HQ := Lib.hid hq
            clear hq HD
            go_wp2_with fail
            refine (HCON.out _).mono ?_
            rintro e w' ⟨rfl, hb⟩
            go_wp2_with fail
            go_roundw
            case rel => exact ⟨i + 1, by go_num, by omega, HN.out HQ.out, hB.trans (hb.mono hBs)⟩
            case measure => simp [intOf]; omega
        · have hge : ys.length ≤ i := by omega
          have hie : i = ys.length := by omega
          have HNA := Lib.hid (NoneYet.all (ys := ys) (t := t) (by have := hny.out; rw [hie] at this; exact this))
          have k1 := HC0.out.belowV hB (by omega)
          have c0 := k1.cell 0
          have c1' := k1.cell 1
          have f0 := k1.frozen 0
          have f1 := k1.frozen 1
          simp only [List.getElem?_toArray, List.getElem?_cons_zero, List.getElem?_cons_succ] at c0 c1'
          have hbt := hBw.trans (hB.mono hBw.size)
          have K1 := Lib.hid k1
          clear k1 hie hny
          go_wp2_with fail
          have kk := (K1.out.set0 (.int .i64 0)).set1 (.int .i64 0)
          have r0 := kk.cell 0
          have r1 := kk.cell 1
          exact bodyPost_ret (v := .tuple #[.agg #[.int .i64 0, .int .i64 0], .int .i64 8]) (by simp [results, Try.results15, go_sem, r0, r1]) rfl
            ⟨0, 0, 8, rfl, .inr ⟨HH.out, .inr ⟨HT.out, ys, HS.out, HCv.out, .inr ⟨rfl, rfl, rfl, HNA.out⟩⟩⟩, (hbt.setCell (Nat.le_refl _) _).setCell (Nat.le_refl _) _⟩
    · have hv := fun W => refValid_any t W
      rw [inR_no ht] at hv
      have HC := Lib.hid hc2
      have HV := Lib.hid hv
      have HH := Lib.hid h
      have HT := Lib.hid ht
      clear hc hc2 h hX ht hv hX0 hz0
      go_enter Try.func15, Try.ntmps15
      go_wp2_with (first
        | (go_at_call 13; refine HC.out.mono ?_; rintro e w3 ⟨ys, h1, h2, h3, v, rfl, hrow, hB3⟩; obtain ⟨p1, c1, rfl⟩ := slice_of_owns hrow; have hC0 : Blk w3 w.heap.size 31 #[.int .i64 0, .int .i64 0] := (hB3.block w.heap.size (by rw [HZ0.out]; omega)).trans (Blk.new _ _ _); have K1 := Lib.hid hC0; have c0 := hC0.cell 0; have c1' := hC0.cell 1; have f0 := hC0.frozen 0; have f1 := hC0.frozen 1; simp only [List.getElem?_toArray, List.getElem?_cons_zero, List.getElem?_cons_succ] at c0 c1'; have hBw : Below w.heap.size w w3 := hB0.trans (hB3.mono (by rw [HZ0.out]; omega)); clear hC0)
        | (go_at_call 27; refine (HV.out _).mono ?_; rintro e w' ⟨rfl, rfl⟩))
      have kk := (K1.out.set0 (.int .i64 0)).set1 (.int .i64 0)
      have r0 := kk.cell 0
      have r1 := kk.cell 1
      exact bodyPost_ret (v := .tuple #[.agg #[.int .i64 0, .int .i64 0], .int .i64 7]) (by simp [results, Try.results15, go_sem, r0, r1]) rfl
        ⟨0, 0, 7, rfl, .inr ⟨HH.out, .inl ⟨HT.out, rfl, rfl, rfl⟩⟩, (hBw.setCell (Nat.le_refl _) _).setCell (Nat.le_refl _) _⟩
  · have hc2 : Calls Try.prog 13 #[.int .i64 g, .slice p ts.length cap] (w.alloc (.cells #[.int .i64 0, .int .i64 0] 31)) (RowPost2 (w.heap.size + 1) (w.alloc (.cells #[.int .i64 0, .int .i64 0] 31)) [] (sessErr g ts)) := hc.mono fun e w' hh => by
      rcases hh with ⟨_, h1⟩ | ⟨h1, _⟩
      · rw [hz0] at h1; exact h1
      · exact absurd h1 h
    have hne : (sessErr g ts != 0) = true := by rw [bne_iff_ne]; exact h
    have hIS : IsSess g ts t 0 0 (sessErr g ts) := .inl ⟨h, rfl, rfl, rfl⟩
    have HI := Lib.hid hIS
    generalize sessErr g ts = er at hc2 hne HI
    have HC := Lib.hid hc2
    clear hc hc2 h hX hX0 hIS hz0
    go_enter Try.func15, Try.ntmps15
    go_wp2_with (go_at_call 13; refine HC.out.mono ?_; rintro e w3 ⟨v, rfl, hrow, hB3⟩; have hC0 : Blk w3 w.heap.size 31 #[.int .i64 0, .int .i64 0] := (hB3.block w.heap.size (by omega)).trans (Blk.new _ _ _); have K1 := Lib.hid hC0; have c0 := hC0.cell 0; have c1' := hC0.cell 1; have f0 := hC0.frozen 0; have f1 := hC0.frozen 1; simp only [List.getElem?_toArray, List.getElem?_cons_zero, List.getElem?_cons_succ] at c0 c1'; have hBw : Below w.heap.size w w3 := hB0.trans (hB3.mono (by omega)); clear hC0)
    have kk := (K1.out.set0 (.int .i64 0)).set1 (.int .i64 0)
    have r0 := kk.cell 0
    have r1 := kk.cell 1
    exact bodyPost_ret (v := .tuple #[.agg #[.int .i64 0, .int .i64 0], .int .i64 er]) (by simp [results, Try.results15, go_sem, r0, r1]) rfl ⟨0, 0, er, rfl, HI.out, (hBw.setCell (Nat.le_refl _) _).setCell (Nat.le_refl _) _⟩
#print axioms refSession_any
end Go.Proofs.Ythbpdalkifocaaa
