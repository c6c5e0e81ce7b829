/-
  Gauges of package mark and of the document's own: what See leaves.
-/
import Derived.Test.YtmnbcofonhlplaaDoorKp6
import Derived.Test.YtmnbcofonhlplaaDoorInt6
import Derived.StillTail
import Derived.StillTailTactics
import Derived.Deep.RegionLaw
import Derived.RegionTactic
import Derived.BigRegion
namespace Go.Proofs.YtmnbcofonhlplaaDoor
open Go.RowKit Go.Lib
set_option linter.unusedSimpArgs false

/-- A gauge of package mark: its bound, its mark, whether it is closed. -/
abbrev GaP (W : World) (B : Nat) (b m : Int) (q : Bool) : Prop := Blk W B 49 #[.int .i64 b, .int .i64 (m + 1000000000000), .bool q]
abbrev GaR (W : World) (B : Nat) (b m : Int) (q : Bool) : Prop := Blk W B 52 #[.int .i64 b, .int .i64 m, .bool q]
def timeR (t : Int) : Bool := inR t (-1000000000000) 1000000000000
def seeErr (t : Int) (q : Bool) : Int := if timeR t = false then 7 else if q = true then 10 else 0
def seeLate (t m : Int) (q : Bool) : Bool := decide (seeErr t q = 0) && decide (t < m)
def markStep (b m t : Int) : Int := max m (t - b + 1)
def seeMark (b m t : Int) (q : Bool) : Int := if seeErr t q = 0 then markStep b m t else m
def boundR (b : Int) : Prop := 0 ≤ b ∧ b ≤ 1000000000
theorem step_range {b m t : Int} (hb : boundR b) (hm : markR m) (ht : timeR t = true) : markR (markStep b m t) := by
  have := inR_iff.1 ht
  unfold markStep markR boundR at *
  omega
theorem see_range {b m t : Int} {q : Bool} (hb : boundR b) (hm : markR m) : markR (seeMark b m t q) := by
  unfold seeMark seeErr
  cases h : timeR t with
  | false => exact hm
  | true =>
    cases q with
    | true => exact hm
    | false => exact step_range hb hm h
def NewG (w : World) (b : Int) (e : Ending) (w' : World) : Prop := ∃ B, e = .returned (.tuple #[.pointer (some ⟨B, 0, none⟩), .int .i64 0]) ∧ B = w.heap.size ∧ GaP w' B b (-1000000000000) false ∧ Below w.heap.size w w'
def NewGR (w : World) (b : Int) (e : Ending) (w' : World) : Prop := ∃ B, e = .returned (.tuple #[.pointer (some ⟨B, 0, none⟩), .int .i64 0]) ∧ B = w.heap.size ∧ GaR w' B b (-1000000000000) false ∧ Below w.heap.size w w'
theorem mkGa_bad (b : Int) (h : inR b 0 1000000000 = false) (w : World) : Calls Tryd.prog 6 #[.int .i64 b] w fun e w' => e = .returned (.tuple #[.pointer none, .int .i64 7]) ∧ w = w' := by
  have hw := isSpan_any b w
  rw [h] at hw
  go_enter Tryd.func6, Tryd.ntmps6
  go_wp2_with fail
  refine hw.mono ?_
  rintro e w1 ⟨rfl, rfl⟩
  go_wp2_with fail
  go_ret2
  exact ⟨rfl, rfl⟩
theorem mkGa_ok (b : Int) (h : inR b 0 1000000000 = true) (w : World) : Calls Tryd.prog 6 #[.int .i64 b] w (NewG w b) := by
  have hw := isSpan_any b w
  rw [h] at hw
  go_enter Tryd.func6, Tryd.ntmps6
  go_wp2_with fail
  refine hw.mono ?_
  rintro e w1 ⟨rfl, rfl⟩
  go_wp2_with fail
  go_ret2
  exact ⟨_, rfl, rfl, Blk.new _ _ _, below_new _ _⟩
theorem rkGa_bad (b : Int) (h : inR b 0 1000000000 = false) (w : World) : Calls Tryd.prog 7 #[.int .i64 b] w fun e w' => e = .returned (.tuple #[.pointer none, .int .i64 7]) ∧ w = w' := by
  have hw := rkWithin_any b 0 1000000000 w
  rw [h] at hw
  go_enter Tryd.func7, Tryd.ntmps7
  go_wp2_with fail
  refine hw.mono ?_
  rintro e w1 ⟨rfl, rfl⟩
  go_wp2_with fail
  go_ret2
  exact ⟨rfl, rfl⟩
theorem rkGa_ok (b : Int) (h : inR b 0 1000000000 = true) (w : World) : Calls Tryd.prog 7 #[.int .i64 b] w (NewGR w b) := by
  have hw := rkWithin_any b 0 1000000000 w
  rw [h] at hw
  go_enter Tryd.func7, Tryd.ntmps7
  go_wp2_with fail
  refine hw.mono ?_
  rintro e w1 ⟨rfl, rfl⟩
  go_wp2_with fail
  go_ret2
  exact ⟨_, rfl, rfl, Blk.new _ _ _, below_new _ _⟩
theorem gaMark_any (B : Nat) (b m : Int) (q : Bool) (hm : markR m) (w : World) (h : GaP w B b m q) :
    Calls Tryd.prog 8 #[.pointer (some ⟨B, 0, none⟩)] w fun e w' => e = .returned (.int .i64 m) ∧ w = w' := by
  have c1 := h.cell 1
  have hl := lmark_any m hm
  simp only [List.getElem?_toArray, List.getElem?_cons_zero, List.getElem?_cons_succ] at c1
  clear h
  go_enter Tryd.func8, Tryd.ntmps8
  go_wp2_with fail
  refine (hl _).mono ?_
  rintro e w1 ⟨rfl, rfl⟩
  go_wp2_with fail
  go_ret
  exact ⟨rfl, rfl⟩
def SeeP (w : World) (B : Nat) (b m t : Int) (q : Bool) (e : Ending) (w' : World) : Prop := e = .returned (.tuple #[.bool (seeLate t m q), .int .i64 (seeErr t q)]) ∧ GaP w' B b (seeMark b m t q) q ∧ Grew w B w'
def SeeR (w : World) (B : Nat) (b m t : Int) (q : Bool) (e : Ending) (w' : World) : Prop := e = .returned (.tuple #[.bool (seeLate t m q), .int .i64 (seeErr t q)]) ∧ GaR w' B b (seeMark b m t q) q ∧ Grew w B w'
set_option maxRecDepth 100000 in
theorem gaSee_any (B : Nat) (b m t : Int) (q : Bool) (hb : boundR b) (hm : markR m) (w : World) (h : GaP w B b m q) :
    Calls Tryd.prog 9 #[.pointer (some ⟨B, 0, none⟩), .int .i64 t] w (SeeP w B b m t q) := by
  have hv := clkValid_any t w
  have HK := Lib.hid h
  have c0 := h.cell 0
  have c2 := h.cell 2
  simp only [List.getElem?_toArray, List.getElem?_cons_zero, List.getElem?_cons_succ] at c0 c2
  unfold SeeP
  cases ht : timeR t with
  | false =>
    rw [show seeLate t m q = false by simp [seeLate, seeErr, ht], show seeErr t q = 7 by simp [seeErr, ht], show seeMark b m t q = m by simp [seeMark, seeErr, ht]]
    unfold timeR at ht
    rw [ht] at hv
    clear h ht
    go_enter Tryd.func9, Tryd.ntmps9
    go_wp2_with fail
    refine hv.mono ?_
    rintro e w1 ⟨rfl, rfl⟩
    go_wp2_with fail
    go_ret2
    exact ⟨rfl, HK.out, grew_refl _ _⟩
  | true =>
    have htr := inR_iff.1 ht
    cases q with
    | true =>
      rw [show seeLate t m true = false by simp [seeLate, seeErr, ht], show seeErr t true = 10 by simp [seeErr, ht], show seeMark b m t true = m by simp [seeMark, seeErr, ht]]
      unfold timeR at ht
      rw [ht] at hv
      clear h ht
      go_enter Tryd.func9, Tryd.ntmps9
      go_wp2_with fail
      refine hv.mono ?_
      rintro e w1 ⟨rfl, rfl⟩
      go_wp2_with fail
      go_ret2
      exact ⟨rfl, HK.out, grew_refl _ _⟩
    | false =>
      rw [show seeLate t m false = decide (t < m) by simp [seeLate, seeErr, ht], show seeErr t false = 0 by simp [seeErr, ht], show seeMark b m t false = markStep b m t by simp [seeMark, seeErr, ht]]
      unfold timeR at ht
      rw [ht] at hv
      have HM := Lib.hid (gaMark_any B b m false hm w h)
      unfold boundR at hb
      have q1 : IntKind.i64.wrap (t - b) = t - b := by rw [IntKind.wrap_i64]; omega
      have q2 : IntKind.i64.wrap (t - b + 1) = t - b + 1 := by rw [IntKind.wrap_i64]; omega
      have HR := Lib.hid (raise_any B 1 m (t - b + 1) (by omega) w.drew (h.drewG.cell 1) (h.drewG.froz 1))
      have HF := Lib.hid (show GaP (w.drew.setCell ⟨B, 1, none⟩ (.int .i64 (markStep b m t + 1000000000000))) B b (markStep b m t) false ∧ Grew w B (w.drew.setCell ⟨B, 1, none⟩ (.int .i64 (markStep b m t + 1000000000000))) from ⟨h.drewG.setG 1 _, (grew_refl w B).drewG.set 1 _⟩)
      have hms : max m (t - b + 1) = markStep b m t := rfl
      rw [hms] at HR
      generalize markStep b m t = m' at *
      have hlt := mkLate_any t m
      clear h ht hms
      go_enter Tryd.func9, Tryd.ntmps9
      go_wp2_with fail
      refine hv.mono ?_
      rintro e w1 ⟨rfl, rfl⟩
      go_wp2_with fail
      refine HM.out.mono ?_
      rintro e w1 ⟨rfl, rfl⟩
      go_wp2_with fail
      refine (hlt _).mono ?_
      rintro e w1 ⟨rfl, rfl⟩
      go_wp2_with fail
      go_still_tail 10, (by kernel_rfl)
      change wpList _ _ _ _ _ w.drew
      go_wp2_with fail
      refine HR.out.mono ?_
      rintro e w1 ⟨rfl, rfl⟩
      go_wp2_with fail
      go_ret2
      exact ⟨rfl, HF.out.1, HF.out.2⟩

set_option maxRecDepth 100000 in
theorem grSee_any (B : Nat) (b m t : Int) (q : Bool) (hb : boundR b) (w : World) (h : GaR w B b m q) :
    Calls Tryd.prog 10 #[.pointer (some ⟨B, 0, none⟩), .int .i64 t] w (SeeR w B b m t q) := by
  have hv := refValid_any t w
  have HK := Lib.hid h
  have c0 := h.cell 0
  have c1 := h.cell 1
  have c2 := h.cell 2
  have f1 := h.froz 1
  simp only [List.getElem?_toArray, List.getElem?_cons_zero, List.getElem?_cons_succ] at c0 c1 c2
  unfold SeeR
  cases ht : timeR t with
  | false =>
    rw [show seeLate t m q = false by simp [seeLate, seeErr, ht], show seeErr t q = 7 by simp [seeErr, ht], show seeMark b m t q = m by simp [seeMark, seeErr, ht]]
    unfold timeR at ht
    rw [ht] at hv
    clear h ht
    go_enter Tryd.func10, Tryd.ntmps10
    go_wp2_with fail
    refine hv.mono ?_
    rintro e w1 ⟨rfl, rfl⟩
    go_wp2_with fail
    go_ret2
    exact ⟨rfl, HK.out, grew_refl _ _⟩
  | true =>
    have htr := inR_iff.1 ht
    cases q with
    | true =>
      rw [show seeLate t m true = false by simp [seeLate, seeErr, ht], show seeErr t true = 10 by simp [seeErr, ht], show seeMark b m t true = m by simp [seeMark, seeErr, ht]]
      unfold timeR at ht
      rw [ht] at hv
      clear h ht
      go_enter Tryd.func10, Tryd.ntmps10
      go_wp2_with fail
      refine hv.mono ?_
      rintro e w1 ⟨rfl, rfl⟩
      go_wp2_with fail
      go_ret2
      exact ⟨rfl, HK.out, grew_refl _ _⟩
    | false =>
      rw [show seeLate t m false = decide (t < m) by simp [seeLate, seeErr, ht], show seeErr t false = 0 by simp [seeErr, ht], show seeMark b m t false = markStep b m t by simp [seeMark, seeErr, ht]]
      unfold timeR at ht
      rw [ht] at hv
      unfold boundR at hb
      have q1 : IntKind.i64.wrap (t - b) = t - b := by rw [IntKind.wrap_i64]; omega
      have q2 : IntKind.i64.wrap (t - b + 1) = t - b + 1 := by rw [IntKind.wrap_i64]; omega
      have hms : markStep b m t = max m (t - b + 1) := rfl
      have HF := Lib.hid (show GaR (w.setCell ⟨B, 1, none⟩ (.int .i64 (max m (t - b + 1)))).drew B b (max m (t - b + 1)) false ∧ Grew w B (w.setCell ⟨B, 1, none⟩ (.int .i64 (max m (t - b + 1)))).drew from ⟨(h.setG 1 _).drewG, ((grew_refl w B).set 1 _).drewG⟩)
      rw [hms]
      clear h ht hms
      go_enter Tryd.func10, Tryd.ntmps10
      go_wp2_with fail
      refine hv.mono ?_
      rintro e w1 ⟨rfl, rfl⟩
      go_wp2_with fail
      go_region
      go_wp2_with fail
      go_ret2
      exact ⟨rfl, HF.out.1, HF.out.2⟩
end Go.Proofs.YtmnbcofonhlplaaDoor
