/-
  Events: lists of them that came in; which are valid, by package mark and by the document's own.
-/
import Derived.Test.YtmnbcofonhlplaaVr
namespace Go.Proofs.Ytmnbcofonhlplaa
open Go.RowKit
set_option linter.unusedSimpArgs false

/-- A time, a row's slice. -/
abbrev EvR := Int × RowV
abbrev er0 : EvR := (0, r0)
/-- A time, a row's values. -/
abbrev Ev := Int × List Val
def evv (x : EvR) : Ev := (x.1, x.2.2.1)
def cellsE (x : EvR) : List Value := [.int .i64 x.1, rowv x.2]
def EvOK (W : World) (x : EvR) : Prop := RowOK W x.2 ∧ (x.2.1 = none → x.2.2.2 = 0)
theorem RowOK.belowR {W W' : World} {r : RowV} (h : RowOK W r) (hb : Below W.heap.size W W') : RowOK W' r := ⟨h.1, h.2.belowV hb⟩
theorem EvOK.belowR {W W' : World} {x : EvR} (h : EvOK W x) (hb : Below W.heap.size W W') : EvOK W' x := ⟨h.1.belowR hb, h.2⟩
def EvsAt (W : World) (b off : Nat) (l : List EvR) : Prop := ∀ i, i < l.length → W.cell? ⟨b, off + i * 2, none⟩ = some (.int .i64 (l[i]?.getD er0).1) ∧ W.cell? ⟨b, off + i * 2 + 1, none⟩ = some (rowv (l[i]?.getD er0).2) ∧ EvOK W (l[i]?.getD er0)
theorem EvsAt.belowV {b off : Nat} {W W' : World} {l : List EvR} (h : EvsAt W b off l) (hb : Below W.heap.size W W') (hbk : b < W.heap.size) : EvsAt W' b off l := fun i hi =>
  ⟨(hb.cell (p := ⟨b, off + i * 2, none⟩) hbk).trans (h i hi).1, (hb.cell (p := ⟨b, off + i * 2 + 1, none⟩) hbk).trans (h i hi).2.1, (h i hi).2.2.belowR hb⟩
def EvsIn (W : World) (p : Option Addr) (l : List EvR) : Prop := 0 < l.length → ∃ b off, p = some ⟨b, off, none⟩ ∧ b < W.heap.size ∧ EvsAt W b off l
theorem EvsIn.belowV {p : Option Addr} {W W' : World} {l : List EvR} (h : EvsIn W p l) (hb : Below W.heap.size W W') : EvsIn W' p l := fun hp => by
  obtain ⟨b, off, e, hl, hr⟩ := h hp
  exact ⟨b, off, e, Nat.lt_of_lt_of_le hl hb.size, hr.belowV hb hl⟩
def evOK (x : Ev) : Bool := timeR x.1 && validRow x.2
def evsOK (l : List EvR) : Bool := l.all fun x => evOK (evv x)
theorem evsOK_next {l : List EvR} {i : Nat} (hi : i < l.length) : evsOK (l.take (i + 1)) = (evsOK (l.take i) && evOK (evv (l[i]?.getD er0))) := by
  unfold evsOK
  rw [List.take_succ_eq_append_getElem hi, List.all_append, List.getElem?_eq_getElem hi]
  simp
theorem evsOK_stop {l : List EvR} {i : Nat} (h : evsOK (l.take i) = false) : evsOK l = false := by
  unfold evsOK at *
  rw [← List.take_append_drop i l, List.all_append, h]; rfl
def areEv (l : List EvR) : Bool := decide (l.length ≤ 400) && evsOK l
/-- A call that hands back a bool. -/
def BelowB (w : World) (q : Bool) (e : Ending) (w' : World) : Prop := e = .returned (.bool q) ∧ Below w.heap.size w w'

theorem eqlV (k n : Int) (s : ByteArray) (w : World) :
    (binOp .eql 98 (.agg #[.int .i64 k, .int .i64 n, .string s]) (.agg #[.int .i64 0, .int .i64 0, .string ⟨#[]⟩])).run Try.prog w = .ok (.bool (decide (k = 0 ∧ n = 0 ∧ s.toList.isEmpty = true))) w := by
  have uI := Try.underlying3
  have gI := Try.isAgg3
  have zI := Try.sizeOf3
  have uS := Try.underlying9
  have gS := Try.isAgg9
  have zS := Try.sizeOf9
  have hS : Try.prog.underlying 98 = some (.struct (Try.prog.fieldsOf 98)) := by kernel_rfl
  have hp : Try.prog.stoodInHeld 98 = false := by kernel_rfl
  rw [run_eql_struct, show (10000 : Nat) = 9999 + 1 from rfl, run_equalIn_agg w 9999 98 _ _ hS hp]
  simp only [Program.fieldsOf, Try.underlying98]
  go_simp
  by_cases h0 : k = 0 <;> by_cases h1 : n = 0 <;> simp [h0, h1] <;> split <;> simp_all

set_option maxRecDepth 100000 in
theorem isValue_any (k n : Int) (s : ByteArray) (w : World) :
    Calls Try.prog 77 #[.agg #[.int .i64 k, .int .i64 n, .string s]] w (BelowB w (validV k n s)) := by
  have HBN := Lib.hid (below_new w (.cells #[.int .i64 k, .int .i64 n, .string s] 98))
  have hv : ∀ b, validV k n s = b → Calls Try.prog 77 #[.agg #[.int .i64 k, .int .i64 n, .string s]] w (BelowB w b) := by
    intro b hb
    unfold validV validP at hb
    by_cases h1 : k = 1
    · subst h1
      have HB := Lib.hid hb
      clear hb
      go_enter Try.func77, Try.ntmps77
      go_wp2_with (go_at_call 28; refine (mkWithin_any _ _ _ _).mono ?_; rintro e w' ⟨rfl, rfl⟩)
      all_goals
        have hb := HB.out
        go_ret
        exact ⟨by try unfold inR at *
                  simp_all <;> first | (rw [← hb]; cases s.toList <;> rfl) | (rw [← hb, decide_eq_false (by omega)]; rfl), below_new _ _⟩
    · have g1 : (k == 1) = false := by simpa using h1
      by_cases h2 : k = 2
      · subst h2
        have HB := Lib.hid hb
        clear hb
        go_enter Try.func77, Try.ntmps77
        go_wp2_with fail
        all_goals
          have hb := HB.out
          go_ret
          exact ⟨by simp_all <;> first | (rw [← hb]; cases s.toList <;> rfl) | (rw [← hb, decide_eq_false (by omega)]; rfl), below_new _ _⟩
      · have g2 : (k == 2) = false := by simpa using h2
        have hq := fun W => eqlV k n s W
        have hm0 := guardV
        have hb' : b = decide (k = 0 ∧ n = 0 ∧ s.toList.isEmpty = true) := by rw [← hb]; simp [h1, h2]
        rw [hb']
        generalize decide (k = 0 ∧ n = 0 ∧ s.toList.isEmpty = true) = q at *
        clear hb h1 h2 hb'
        go_enter Try.func77, Try.ntmps77
        go_wp2_with fail
        go_ret
        exact ⟨rfl, HBN.out⟩
  exact hv _ rfl
set_option maxRecDepth 100000 in
theorem isRow1_any (k n : Int) (s : ByteArray) (w : World) :
    Calls Try.prog 76 #[.agg #[.int .i64 k, .int .i64 n, .string s]] w (BelowB w (!validV k n s)) := by
  have hb0 := below_new w (.cells #[.int .i64 k, .int .i64 n, .string s] 98)
  have HB := Lib.hid hb0
  have HV := Lib.hid (isValue_any k n s (w.alloc (.cells #[.int .i64 k, .int .i64 n, .string s] 98)))
  generalize validV k n s = q at *
  clear hb0
  go_enter Try.func76, Try.ntmps76
  go_wp2_with fail
  refine HV.out.mono ?_
  rintro e w1 ⟨rfl, hb1⟩
  have HB1 := Lib.hid (HB.out.trans (hb1.mono HB.out.size))
  clear hb1
  go_wp2_with fail
  go_ret
  exact ⟨rfl, HB1.out⟩
def IndexP (w : World) (q : Bool) (e : Ending) (w' : World) : Prop := ∃ r : Int, e = .returned (.int .i64 r) ∧ (decide (r ≥ 0) = !q) ∧ Below w.heap.size w w'
set_option maxRecDepth 100000 in
set_option maxHeartbeats 1000000 in
theorem indexV_any (p : Option Addr) (xs : List Val) (cap : Nat) (hm : xs.length ≤ 9223372036854775807) (w : World) (hX : ValsIn w p xs) :
    Calls Try.prog 81 #[.slice p xs.length cap, .func (.func 76) #[] #[]] w (IndexP w (validVs xs)) := by
  have HX := Lib.hid hX
  have HC := Lib.hid isRow1_any
  clear hX
  go_enter Try.func81, Try.ntmps81
  go_wp2_with fail
  go_loopw [8] (fun s wr => ∃ i : Nat, s = .int .i64 i ∧ i ≤ xs.length ∧ Hid (validVs (xs.take i) = true) ∧ Below w.heap.size w wr) (fun s _ => xs.length - (intOf s).toNat)
  case atStart => exact ⟨0, rfl, Nat.zero_le _, rfl, Below.refl _ _⟩
  case round =>
    obtain ⟨i, rfl, hi, hv, hB⟩ := hrel
    by_cases hlt : i < xs.length
    · obtain ⟨b, off, rfl, hbl, hra⟩ := HX.out (by omega)
      obtain ⟨c0, c1, c2⟩ := (hra.belowV hB hbl) i hlt
      have hnx := validVs_next hlt
      rw [hv.out, Bool.true_and] at hnx
      have hi0 : (0 : Int) ≤ (i : Int) := by omega
      have hi1 : (i : Int) < (xs.length : Int) := by omega
      clear hra
      generalize (xs[i]?.getD v0) = x at hnx c0 c1 c2
      obtain ⟨x0, x1, x2⟩ := x
      dsimp only at hnx c0 c1 c2
      have HC1 := fun W => HC.out x0 x1 x2 W
      cases hq : validV x0 x1 x2 with
      | true =>
        rw [hq] at HC1 hnx
        have HC2 := Lib.hid HC1
        have HNX := Lib.hid hnx
        clear HC1 hnx hq
        go_wp2_with fail
        refine (HC2.out _).mono ?_
        rintro e w' ⟨rfl, hb⟩
        go_wp2_with fail
        go_roundw
        case rel => exact ⟨i + 1, by go_num, by omega, HNX.out, hB.trans (hb.mono hB.size)⟩
        case measure => simp [intOf]; omega
      | false =>
        rw [hq] at HC1 hnx
        have HC2 := Lib.hid HC1
        have HNX := Lib.hid (validVs_stop hnx)
        clear HC1 hnx hq
        go_wp2_with fail
        refine (HC2.out _).mono ?_
        rintro e w' ⟨rfl, hb⟩
        go_wp2_with fail
        go_ret
        exact ⟨_, rfl, by rw [HNX.out]; simp, hB.trans (hb.mono hB.size)⟩
    · have hge : xs.length ≤ i := by omega
      have hie : i = xs.length := by omega
      have hall : validVs xs = true := by have := hv.out; rw [hie, List.take_length] at this; exact this
      have HALL := Lib.hid hall
      clear hall hie
      go_wp2_with fail
      go_ret
      exact ⟨_, rfl, by rw [HALL.out]; rfl, hB⟩
set_option maxRecDepth 100000 in
theorem hasV_any (p : Option Addr) (xs : List Val) (cap : Nat) (hm : xs.length ≤ 9223372036854775807) (w : World) (hX : ValsIn w p xs) :
    Calls Try.prog 78 #[.slice p xs.length cap, .func (.func 76) #[] #[]] w (BelowB w (!validVs xs)) := by
  have HI := Lib.hid (indexV_any p xs cap hm w hX)
  clear hX
  go_enter Try.func78, Try.ntmps78
  go_wp2_with fail
  refine HI.out.mono ?_
  rintro e w1 ⟨r, rfl, hr, hb1⟩
  have HB := Lib.hid hb1
  have HR := Lib.hid hr
  clear hb1 hr
  go_wp2_with fail
  go_ret
  exact ⟨by rw [← HR.out]; rfl, HB.out⟩
set_option maxRecDepth 100000 in
theorem isRow_any (p : Option Addr) (xs : List Val) (cap : Nat) (w : World) (hm : xs.length ≤ 9223372036854775807) (hX : ValsIn w p xs) :
    Calls Try.prog 66 #[.slice p xs.length cap] w (BelowB w (validRow xs)) := by
  by_cases h8 : 8 < xs.length
  · have h8' : decide ((xs.length : Int) ≤ 8) = false := decide_eq_false (by omega)
    have hr : validRow xs = false := by unfold validRow; rw [decide_eq_false (by omega)]; rfl
    rw [hr]
    clear hr h8
    go_enter Try.func66, Try.ntmps66
    go_wp2_with fail
    go_ret
    exact ⟨rfl, Below.refl _ _⟩
  · have h8' : (xs.length : Int) ≤ 8 := by omega
    have hr : validRow xs = validVs xs := by unfold validRow; rw [decide_eq_true (by omega)]; rfl
    rw [hr]
    have HI := Lib.hid (hasV_any p xs cap hm w hX)
    generalize validVs xs = q at *
    clear hr h8 hX
    go_enter Try.func66, Try.ntmps66
    go_wp2_with fail
    refine HI.out.mono ?_
    rintro e w1 ⟨rfl, hb1⟩
    have HB := Lib.hid hb1
    clear hb1
    go_wp2_with fail
    go_ret
    exact ⟨by simp, HB.out⟩
end Go.Proofs.Ytmnbcofonhlplaa
