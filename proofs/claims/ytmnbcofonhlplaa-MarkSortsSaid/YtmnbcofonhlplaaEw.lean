/-
  Which lists of events are valid, by package mark and by the document's own; copies of events.
-/
import Derived.Test.YtmnbcofonhlplaaEv
namespace Go.Proofs.Ytmnbcofonhlplaa
open Go.RowKit
set_option linter.unusedSimpArgs false

theorem below_ev (w : World) (x : EvR) : Below w.heap.size w (w.alloc (.cells #[.int .i64 x.1, rowv x.2] 55)) := below_new _ _
set_option maxRecDepth 100000 in
theorem areEv1_any (x : EvR) (w : World) (h : EvOK w x) :
    Calls Try.prog 65 #[.agg #[.int .i64 x.1, rowv x.2]] w (BelowB w (!evOK (evv x))) := by
  have hb0 := below_ev w x
  have hv := isRow_any x.2.1 x.2.2.1 x.2.2.2 (w.alloc (.cells #[.int .i64 x.1, rowv x.2] 55)) h.1.1 (h.belowR hb0).1.2
  have hc := fun W => clkValid_any x.1 W
  have he : evOK (evv x) = (inR x.1 (-1000000000000) 1000000000000 && validRow x.2.2.1) := rfl
  rw [he]
  have HB := Lib.hid hb0
  have HV := Lib.hid hv
  obtain ⟨t, q, xs, c⟩ := x
  dsimp only [rowv] at *
  generalize validRow xs = b at *
  clear h hv hb0 he
  cases q1 : inR t (-1000000000000) 1000000000000 with
  | false =>
    rw [q1] at hc
    rw [Bool.false_and]
    clear q1
    go_enter Try.func65, Try.ntmps65
    go_wp2_with fail
    refine (hc _).mono ?_
    rintro e w1 ⟨rfl, rfl⟩
    go_wp2_with fail
    go_ret
    exact ⟨rfl, HB.out⟩
  | true =>
    rw [q1] at hc
    rw [Bool.true_and]
    clear q1
    go_enter Try.func65, Try.ntmps65
    go_wp2_with fail
    refine (hc _).mono ?_
    rintro e w1 ⟨rfl, rfl⟩
    go_wp2_with fail
    refine HV.out.mono ?_
    rintro e w1 ⟨rfl, hb1⟩
    have HB1 := Lib.hid (HB.out.trans (hb1.mono HB.out.size))
    clear hb1
    go_wp2_with fail
    go_ret
    exact ⟨rfl, HB1.out⟩
set_option maxRecDepth 100000 in
theorem refEv_any (x : EvR) (w : World) (h : EvOK w x) :
    Calls Try.prog 70 #[.agg #[.int .i64 x.1, rowv x.2]] w (BelowB w (evOK (evv x))) := by
  have hb0 := below_ev w x
  have hv := rvValid_any x.2.1 x.2.2.1 x.2.2.2 h.1.1 (w.alloc (.cells #[.int .i64 x.1, rowv x.2] 55)) (h.belowR hb0).1.2
  have hc := fun W => refValid_any x.1 W
  have he : evOK (evv x) = (inR x.1 (-1000000000000) 1000000000000 && validRow x.2.2.1) := rfl
  rw [he]
  have HB := Lib.hid hb0
  have HV := Lib.hid hv
  obtain ⟨t, q, xs, c⟩ := x
  dsimp only [rowv] at *
  generalize validRow xs = b at *
  clear h hv hb0 he
  cases q1 : inR t (-1000000000000) 1000000000000 with
  | false =>
    rw [q1] at hc
    rw [Bool.false_and]
    clear q1
    go_enter Try.func70, Try.ntmps70
    go_wp2_with fail
    refine (hc _).mono ?_
    rintro e w1 ⟨rfl, rfl⟩
    go_wp2_with fail
    go_ret
    exact ⟨rfl, HB.out⟩
  | true =>
    rw [q1] at hc
    rw [Bool.true_and]
    clear q1
    go_enter Try.func70, Try.ntmps70
    go_wp2_with fail
    refine (hc _).mono ?_
    rintro e w1 ⟨rfl, rfl⟩
    go_wp2_with fail
    refine HV.out.mono ?_
    rintro e w1 ⟨rfl, hb1⟩
    have HB1 := Lib.hid (HB.out.trans (hb1.mono HB.out.size))
    clear hb1
    go_wp2_with fail
    go_ret
    exact ⟨rfl, HB1.out⟩
set_option maxRecDepth 100000 in
set_option maxHeartbeats 1000000 in
theorem indexE_any (p : Option Addr) (l : List EvR) (cap : Nat) (hm : l.length ≤ 9223372036854775807) (w : World) (hX : EvsIn w p l) :
    Calls Try.prog 79 #[.slice p l.length cap, .func (.func 65) #[] #[]] w (IndexP w (evsOK l)) := by
  have HX := Lib.hid hX
  clear hX
  go_enter Try.func79, Try.ntmps79
  go_wp2_with fail
  go_loopw [8] (fun s wr => ∃ i : Nat, s = .int .i64 i ∧ i ≤ l.length ∧ Hid (evsOK (l.take i) = true) ∧ Below w.heap.size w wr) (fun s _ => l.length - (intOf s).toNat)
  case atStart => exact ⟨0, rfl, Nat.zero_le _, rfl, Below.refl _ _⟩
  case round =>
    obtain ⟨i, rfl, hi, hv, hB⟩ := hrel
    by_cases hlt : i < l.length
    · obtain ⟨b, off, rfl, hbl, hra⟩ := HX.out (by omega)
      obtain ⟨c0, c1, c2⟩ := (hra i hlt)
      have d0 := (hB.cell (p := ⟨b, off + i * 2, none⟩) hbl).trans c0
      have d1 := (hB.cell (p := ⟨b, off + i * 2 + 1, none⟩) hbl).trans c1
      have hnx := evsOK_next hlt
      rw [hv.out, Bool.true_and] at hnx
      have hi0 : (0 : Int) ≤ (i : Int) := by omega
      have hi1 : (i : Int) < (l.length : Int) := by omega
      have hcb : Below w.heap.size w wr := hB
      have HC1 := areEv1_any (l[i]?.getD er0) wr ⟨⟨c2.1.1, c2.1.2.belowV hcb⟩, c2.2⟩
      clear hra c0 c1 c2
      generalize (l[i]?.getD er0) = x at hnx d0 d1 HC1
      cases hq : evOK (evv x) with
      | true =>
        rw [hq] at HC1 hnx
        have HC2 := Lib.hid HC1
        have HNX := Lib.hid hnx
        obtain ⟨t, q, xs, c⟩ := x
        dsimp only [rowv] at *
        clear HC1 hnx hq
        go_wp2_with fail
        refine HC2.out.mono ?_
        rintro e w' ⟨rfl, hb⟩
        go_wp2_with fail
        go_roundw
        case rel => exact ⟨i + 1, by go_num, by omega, HNX.out, hB.trans (hb.mono hB.size)⟩
        case measure => simp [intOf]; omega
      | false =>
        rw [hq] at HC1 hnx
        have HC2 := Lib.hid HC1
        have HNX := Lib.hid (evsOK_stop hnx)
        obtain ⟨t, q, xs, c⟩ := x
        dsimp only [rowv] at *
        clear HC1 hnx hq
        go_wp2_with fail
        refine HC2.out.mono ?_
        rintro e w' ⟨rfl, hb⟩
        go_wp2_with fail
        go_ret
        exact ⟨_, rfl, by rw [HNX.out]; simp, hB.trans (hb.mono hB.size)⟩
    · have hge : l.length ≤ i := by omega
      have hie : i = l.length := by omega
      have hall : evsOK l = true := by have := hv.out; rw [hie, List.take_length] at this; exact this
      have HALL := Lib.hid hall
      clear hall hie
      go_wp2_with fail
      go_ret
      exact ⟨_, rfl, by rw [HALL.out]; rfl, hB⟩
set_option maxRecDepth 100000 in
theorem hasE_any (p : Option Addr) (l : List EvR) (cap : Nat) (hm : l.length ≤ 9223372036854775807) (w : World) (hX : EvsIn w p l) :
    Calls Try.prog 67 #[.slice p l.length cap, .func (.func 65) #[] #[]] w (BelowB w (!evsOK l)) := by
  have HI := Lib.hid (indexE_any p l cap hm w hX)
  clear hX
  go_enter Try.func67, Try.ntmps67
  go_wp2_with fail
  refine HI.out.mono ?_
  rintro e w1 ⟨r, rfl, hr, hb1⟩
  have HB := Lib.hid hb1
  have HR := Lib.hid hr
  clear hb1 hr
  go_wp2_with fail
  go_ret
  exact ⟨by rw [← HR.out]; rfl, HB.out⟩
set_option maxRecDepth 100000 in
theorem areEvents_any (p : Option Addr) (l : List EvR) (cap : Nat) (hm : l.length ≤ 9223372036854775807) (w : World) (hX : EvsIn w p l) :
    Calls Try.prog 52 #[.slice p l.length cap] w (BelowB w (areEv l)) := by
  unfold areEv
  by_cases h8 : 400 < l.length
  · have h8' : decide ((l.length : Int) ≤ 400) = false := decide_eq_false (by omega)
    rw [decide_eq_false (by omega), Bool.false_and]
    clear h8
    go_enter Try.func52, Try.ntmps52
    go_wp2_with fail
    go_ret
    exact ⟨rfl, Below.refl _ _⟩
  · have h8' : (l.length : Int) ≤ 400 := by omega
    rw [decide_eq_true (by omega), Bool.true_and]
    have HI := Lib.hid (hasE_any p l cap hm w hX)
    generalize evsOK l = q at *
    clear h8 hX
    go_enter Try.func52, Try.ntmps52
    go_wp2_with fail
    refine HI.out.mono ?_
    rintro e w1 ⟨rfl, hb1⟩
    have HB := Lib.hid hb1
    clear hb1
    go_wp2_with fail
    go_ret
    exact ⟨by simp, HB.out⟩
set_option maxRecDepth 100000 in
set_option maxHeartbeats 1000000 in
theorem refEvs_any (p : Option Addr) (l : List EvR) (cap : Nat) (hm : l.length ≤ 9223372036854775807) (w : World) (hX : EvsIn w p l) :
    Calls Try.prog 54 #[.slice p l.length cap, .int .i64 400] w (BelowB w (areEv l)) := by
  have HX := Lib.hid hX
  clear hX
  go_enter Try.func54, Try.ntmps54
  go_wp2_with fail
  go_loopw [5] (fun s wr => ∃ i : Nat, s = .int .i64 i ∧ i ≤ l.length ∧ Hid (evsOK (l.take i) = true) ∧ Below w.heap.size w wr) (fun s _ => l.length - (intOf s).toNat)
  case atStart => exact ⟨0, rfl, Nat.zero_le _, rfl, Below.refl _ _⟩
  case round =>
    obtain ⟨i, rfl, hi, hv, hB⟩ := hrel
    by_cases hlt : i < l.length
    · obtain ⟨b, off, rfl, hbl, hra⟩ := HX.out (by omega)
      obtain ⟨c0, c1, c2⟩ := (hra i hlt)
      have d0 := (hB.cell (p := ⟨b, off + i * 2, none⟩) hbl).trans c0
      have d1 := (hB.cell (p := ⟨b, off + i * 2 + 1, none⟩) hbl).trans c1
      have hnx := evsOK_next hlt
      rw [hv.out, Bool.true_and] at hnx
      have hi0 : (0 : Int) ≤ (i : Int) := by omega
      have hi1 : (i : Int) < (l.length : Int) := by omega
      have hcb : Below w.heap.size w wr := hB
      have HC1 := refEv_any (l[i]?.getD er0) wr ⟨⟨c2.1.1, c2.1.2.belowV hcb⟩, c2.2⟩
      clear hra c0 c1 c2
      generalize (l[i]?.getD er0) = x at hnx d0 d1 HC1
      cases hq : evOK (evv x) with
      | true =>
        rw [hq] at HC1 hnx
        have HC2 := Lib.hid HC1
        have HNX := Lib.hid hnx
        obtain ⟨t, q, xs, c⟩ := x
        dsimp only [rowv] at *
        clear HC1 hnx hq
        go_wp2_with fail
        refine HC2.out.mono ?_
        rintro e w' ⟨rfl, hb⟩
        go_wp2_with fail
        go_roundw
        case rel => exact ⟨i + 1, by go_num, by omega, HNX.out, hB.trans (hb.mono hB.size)⟩
        case measure => simp [intOf]; omega
      | false =>
        rw [hq] at HC1 hnx
        have HC2 := Lib.hid HC1
        have HNX := Lib.hid (evsOK_stop hnx)
        obtain ⟨t, q, xs, c⟩ := x
        dsimp only [rowv] at *
        clear HC1 hnx hq
        go_wp2_with fail
        refine HC2.out.mono ?_
        rintro e w' ⟨rfl, hb⟩
        go_wp2_with fail
        go_ret
        exact ⟨by unfold areEv; rw [HNX.out, Bool.and_false]; rfl, hB.trans (hb.mono hB.size)⟩
    · have hge : l.length ≤ i := by omega
      have hie : i = l.length := by omega
      have hall : evsOK l = true := by have := hv.out; rw [hie, List.take_length] at this; exact this
      have HALL := Lib.hid hall
      clear hall hie
      by_cases h8 : (l.length : Int) ≤ 400
      · go_wp2_with fail
        go_ret
        exact ⟨by unfold areEv; rw [HALL.out, decide_eq_true (by omega)]; rfl, hB⟩
      · have h8' : decide ((l.length : Int) ≤ 400) = false := decide_eq_false h8
        go_wp2_with fail
        go_ret
        exact ⟨by unfold areEv; rw [HALL.out, decide_eq_false (by omega)]; rfl, hB⟩

def LongE (w : World) (l : List EvR) (e : Ending) (w' : World) : Prop := ∃ q : Bool, e = .returned (.bool q) ∧ (q = false → l.length ≤ 500) ∧ Below w.heap.size w w'
set_option maxRecDepth 100000 in
set_option maxHeartbeats 1000000 in
theorem longE_any (p : Option Addr) (l : List EvR) (c : Nat) (hm : l.length ≤ 9223372036854775807) (w : World) (hX : EvsIn w p l) :
    Calls Try.prog 20 #[.slice p l.length c] w (LongE w l) := by
  have HX := Lib.hid hX
  clear hX
  go_enter Try.func20, Try.ntmps20
  go_wp2_with fail
  go_loopw [3] (fun s wr => ∃ i : Nat, s = .int .i64 i ∧ i ≤ l.length ∧ Below w.heap.size w wr) (fun s _ => l.length - (RowKit.intOf s).toNat)
  case atStart => exact ⟨0, rfl, Nat.zero_le _, Below.refl _ _⟩
  case round =>
    obtain ⟨i, rfl, hin, hB⟩ := hrel
    by_cases hlt : i < l.length
    · obtain ⟨b, off, rfl, hbl, hra⟩ := HX.out (by omega)
      obtain ⟨c1, c2, c3⟩ := hra i hlt
      have e2 := (hB.cell (p := ⟨b, off + i * 2 + 1, none⟩) hbl).trans c2
      have c3 : RowOK wr (l[i]?.getD er0).2 := ⟨c3.1.1, c3.1.2.belowV hB⟩
      have hi0 : (0 : Int) ≤ (i : Int) := by omega
      have hi1 : (i : Int) < (l.length : Int) := by omega
      clear hra c1 c2
      generalize (l[i]?.getD er0).2 = r at e2 c3
      have HL := Lib.hid (Long_any (some ⟨wr.heap.size, 0, none⟩) [r] 1 (by simp) (wr.alloc (.cells #[rowv r] 53)) (fun _ => ⟨wr.heap.size, 0, rfl, by simp, fun j hj => by
        have hj0 : j = 0 := by simpa using hj
        subst hj0
        exact ⟨by have := cells_new wr #[rowv r] 53 0 (rowv r) rfl; rwa [Go.WideShapes.add_plain] at this, c3.belowR (below_new _ _)⟩⟩))
      have HB := Lib.hid (hB.alloc hB.size (.cells #[rowv r] 53))
      clear c3 hB
      obtain ⟨rq, rx, rc⟩ := r
      dsimp only [rowv] at *
      go_wp2_with fail
      refine HL.out.mono ?_
      rintro e w2 ⟨qb, rfl, rfl⟩
      cases qb with
      | true =>
        go_wp2_with fail
        go_ret
        exact ⟨true, rfl, (fun h => by cases h), HB.out⟩
      | false =>
        go_wp2_with fail
        go_roundw
        case rel => exact ⟨i + 1, by go_num, by omega, HB.out⟩
        case measure => simp [RowKit.intOf]; omega
    · have hge : l.length ≤ i := by omega
      by_cases h5 : 500 < l.length
      · have h5' : (500 : Int) < (l.length : Int) := by omega
        go_wp2_with fail
        go_ret
        exact ⟨_, by rfl, (fun h => by simp at h <;> omega), hB⟩
      · have h5' : (l.length : Int) ≤ (500 : Int) := by omega
        go_wp2_with fail
        go_ret
        exact ⟨_, by rfl, (fun _ => by omega), hB⟩
end Go.Proofs.Ytmnbcofonhlplaa
