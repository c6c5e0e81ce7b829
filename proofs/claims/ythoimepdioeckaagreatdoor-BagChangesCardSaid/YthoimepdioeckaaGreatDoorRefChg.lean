/-
  Changes of the document, as a contract.
-/
import Derived.Test.YthoimepdioeckaaGreatDoorMade
import Derived.Test.YthoimepdioeckaaGreatDoorChg
import Derived.Test.YthoimepdioeckaaGreatDoorWhole
namespace Go.Proofs.YthoimepdioeckaaGreatDoor
open Go.RowKit

theorem minus_plus {a b : List It} (ha : Asc a) (hb : Asc b) : plus b a (-1) = comb (fun x y => x - y) b a := by
  rw [plus_comb (-1) hb ha]
  exact comb_congr fun p _ => by show p.2.1 + -1 * p.2.2 = p.2.1 - p.2.2; omega
theorem madePost_chg {w w0 w' : World} {l : List Ch} {e : Ending} (h : MadePost w l e w') (hb : Below w0.heap.size w0 w) : ∃ (p : Option Addr) (cs : List ChR) (cap : Nat), e = .returned (.slice p cs.length cap) ∧ ChgPost w0 l 0 (.returned (.tuple #[.slice p cs.length cap, .int .i64 0])) w' := by
  obtain ⟨p, cs, cap, rfl, h1, h2, h3, h4, h5⟩ := h
  exact ⟨p, cs, cap, rfl, p, cs, cap, rfl, h1, h2, h3, h4, hb.trans (h5.mono hb.size)⟩

set_option maxRecDepth 100000 in
set_option maxHeartbeats 2000000 in
theorem refChanges_any (p q : Option Addr) (rs ss : List ItR) (c d : Nat) (t : Int) (hm1 : rs.length ≤ 9223372036854775807) (hm2 : ss.length ≤ 9223372036854775807) (w : World) (hX : ItemsIn w p rs) (hZ : ItemsIn w q ss) (hz : q = none → d = 0) :
    Calls Tryz.prog 15 #[.slice p rs.length c, .slice q ss.length d, .int .i64 t] w (ChgPost w (chgVal (vals rs) (vals ss) t) (chgErr (vals rs) (vals ss) t)) := by
  have h1 := refBagValid_any p rs c hm1 w hX
  have h2 := fun W (h : Below w.heap.size w W) => refBagValid_any q ss d hm2 W (hZ.belowV h)
  cases q1 : validBag (vals rs) with
  | false =>
    have e1 : chgErr (vals rs) (vals ss) t = 1 := by unfold chgErr; rw [q1]; rfl
    have e2 : chgVal (vals rs) (vals ss) t = [] := by unfold chgVal; rw [e1]; rfl
    rw [e1, e2]
    rw [q1] at h1
    have H1 := Lib.hid h1
    clear h1 h2 q1 hX hZ hz e1 e2
    go_enter Tryz.func15, Tryz.ntmps15
    go_wp2_with fail
    refine H1.out.mono ?_
    rintro e w1 ⟨rfl, hb1⟩
    go_wp2_with fail
    go_ret2
    exact chgPost_nil hb1
  | true =>
    cases q2 : validBag (vals ss) with
    | false =>
      have e1 : chgErr (vals rs) (vals ss) t = 1 := by unfold chgErr; rw [q1, q2]; rfl
      have e2 : chgVal (vals rs) (vals ss) t = [] := by unfold chgVal; rw [e1]; rfl
      rw [e1, e2]
      rw [q1] at h1
      rw [q2] at h2
      have H1 := Lib.hid h1
      have H2 := Lib.hid h2
      clear h1 h2 q1 q2 hX hZ hz e1 e2
      go_enter Tryz.func15, Tryz.ntmps15
      go_wp2_with fail
      refine H1.out.mono ?_
      rintro e w1 ⟨rfl, hb1⟩
      go_wp2_with fail
      refine (H2.out _ hb1).mono ?_
      rintro e w2 ⟨rfl, hb2⟩
      have hB2 := hb1.trans (hb2.mono hb1.size)
      go_wp2_with fail
      go_ret2
      exact chgPost_nil hB2
    | true =>
      have h3 := fun W => refTime_any t W
      rw [q1] at h1
      rw [q2] at h2
      have H1 := Lib.hid h1
      have H2 := Lib.hid h2
      by_cases hT : inT t
      · have hd := minus_plus (asc_of_valid q1) (asc_of_valid q2)
        have hl1 : rs.length ≤ 400 := by have := (validBag_iff.1 q1).1; rwa [vals_len] at this
        have hl2 : ss.length ≤ 400 := by have := (validBag_iff.1 q2).1; rwa [vals_len] at this
        have h4 := fun W (h : Below w.heap.size w W) => Plus_any q p ss rs d c (-1) (by unfold small; omega) hl2 hl1 W (hZ.belowV h) hz (hX.belowV h) (asc_of_valid q2) (bd_of_valid q2) q1
        have hval := plus_asc (n := -1) (asc_of_valid q2) (fun x hx => ((asc_of_valid q1).1 x hx).1)
        rw [hd] at h4 hval
        have ee : chgErr (vals rs) (vals ss) t = toldErr (comb (fun x y => x - y) (vals ss) (vals rs)) := by unfold chgErr combErr; rw [if_pos ⟨q1, q2⟩, if_pos hT, if_pos ⟨q2, q1⟩]
        have ecv : combVal (fun x y => x - y) (vals ss) (vals rs) = toldVal (comb (fun x y => x - y) (vals ss) (vals rs)) := by unfold combVal; rw [if_pos ⟨q2, q1⟩]
        have ev : chgVal (vals rs) (vals ss) t = if chgErr (vals rs) (vals ss) t = 0 then stamp t (toldVal (comb (fun x y => x - y) (vals ss) (vals rs))) else [] := by unfold chgVal; rw [ecv]
        rw [ev, ee]
        rw [decide_eq_true hT] at h3
        generalize comb (fun x y => x - y) (vals ss) (vals rs) = D at h4 hval ⊢
        have H3 := Lib.hid h3
        have H4 := Lib.hid h4
        have HVL := Lib.hid hval
        clear h1 h2 h3 h4 hd ee ev ecv q1 q2 hX hZ hz hT hval
        cases q3 : validBag D with
        | false =>
          have e1 : toldErr D = 4 := by unfold toldErr; rw [q3]; rfl
          rw [e1, if_neg (by decide)]
          have HQ := Lib.hid q3
          clear q3 e1
          go_enter Tryz.func15, Tryz.ntmps15
          go_wp2_with fail
          refine H1.out.mono ?_
          rintro e w1 ⟨rfl, hb1⟩
          go_wp2_with fail
          refine (H2.out _ hb1).mono ?_
          rintro e w2 ⟨rfl, hb2⟩
          have hB2 := hb1.trans (hb2.mono hb1.size)
          clear hb1 hb2
          go_wp2_with fail
          refine (H3.out _).mono ?_
          rintro e w3 ⟨rfl, rfl⟩
          go_wp2_with fail
          refine (H4.out _ hB2).mono ?_
          rintro e w4 ⟨p4, s4, c4, rfl, hv4, hc4, hl4, hi4, _, hb4⟩
          have hB4 := hB2.trans (hb4.mono hB2.size)
          have h5 := refBagValid_any p4 s4 c4 (by omega) w4 hi4
          rw [hv4, HQ.out] at h5
          have H5 := Lib.hid h5
          clear h5 hv4 hi4 hb4
          go_wp2_with fail
          refine H5.out.mono ?_
          rintro e w5 ⟨rfl, hb5⟩
          have hB5 := hB4.trans (hb5.mono hB4.size)
          go_wp2_with fail
          go_ret2
          exact chgPost_nil hB5
        | true =>
          have e1 : toldErr D = 0 := by unfold toldErr; rw [q3]; rfl
          have e2 : toldVal D = D := by unfold toldVal; rw [q3]; rfl
          rw [e1, e2, if_pos rfl]
          have HQ := Lib.hid q3
          clear q3 e1 e2
          go_enter Tryz.func15, Tryz.ntmps15
          go_wp2_with fail
          refine H1.out.mono ?_
          rintro e w1 ⟨rfl, hb1⟩
          go_wp2_with fail
          refine (H2.out _ hb1).mono ?_
          rintro e w2 ⟨rfl, hb2⟩
          have hB2 := hb1.trans (hb2.mono hb1.size)
          clear hb1 hb2
          go_wp2_with fail
          refine (H3.out _).mono ?_
          rintro e w3 ⟨rfl, rfl⟩
          go_wp2_with fail
          refine (H4.out _ hB2).mono ?_
          rintro e w4 ⟨p4, s4, c4, rfl, hv4, hc4, hl4, hi4, _, hb4⟩
          have hB4 := hB2.trans (hb4.mono hB2.size)
          have h5 := refBagValid_any p4 s4 c4 (by omega) w4 hi4
          rw [hv4, HQ.out] at h5
          have H5 := Lib.hid h5
          have h6 := fun W (h : Below w4.heap.size w4 W) => Made_any p4 s4 c4 t (by omega) (fun r hr => by have := row_len (HVL.out.1 (itv r) (by rw [← hv4]; exact mem_vals hr)).1; simp only [itv] at this; omega) W (hi4.belowV h)
          rw [hv4] at h6
          have H6 := Lib.hid h6
          clear h5 h6 hv4 hi4 hb4
          go_wp2_with fail
          refine H5.out.mono ?_
          rintro e w5 ⟨rfl, hb5⟩
          have hB5 := hB4.trans (hb5.mono hB4.size)
          go_wp2_with fail
          refine (H6.out _ hb5).mono ?_
          intro e w6 h6
          obtain ⟨p6, s6, c6, rfl, hh⟩ := madePost_chg h6 hB5
          have HH := Lib.hid hh
          clear h6 hh hb5
          go_wp2_with fail
          go_ret2
          exact HH.out
      · have e1 : chgErr (vals rs) (vals ss) t = 7 := by unfold chgErr; rw [if_pos ⟨q1, q2⟩, if_neg hT]
        have e2 : chgVal (vals rs) (vals ss) t = [] := by unfold chgVal; rw [e1]; rfl
        rw [e1, e2]
        rw [decide_eq_false hT] at h3
        have H3 := Lib.hid h3
        clear h1 h2 h3 q1 q2 hX hZ hz hT e1 e2
        go_enter Tryz.func15, Tryz.ntmps15
        go_wp2_with fail
        refine H1.out.mono ?_
        rintro e w1 ⟨rfl, hb1⟩
        go_wp2_with fail
        refine (H2.out _ hb1).mono ?_
        rintro e w2 ⟨rfl, hb2⟩
        have hB2 := hb1.trans (hb2.mono hb1.size)
        clear hb1 hb2
        go_wp2_with fail
        refine (H3.out _).mono ?_
        rintro e w3 ⟨rfl, rfl⟩
        go_wp2_with fail
        go_ret2
        exact chgPost_nil hB2
#print axioms refChanges_any
end Go.Proofs.YthoimepdioeckaaGreatDoor
