/-
  The document's own Project.
-/
import Derived.Test.YtfkkdoodngldhaaDoorProj
namespace Go.Proofs.YtfkkdoodngldhaaDoor
open Go.RowKit

set_option maxRecDepth 100000 in
set_option maxHeartbeats 1000000 in
theorem refProject_any (p q : Option Addr) (xs : List Val) (cs : List Int) (c d : Nat) (hmx : xs.length ≤ 9223372036854775807) (hmc : cs.length ≤ 9223372036854775807) (w : World) (hX : ValsIn w p xs) (hC : IntsIn w q cs) :
    Calls Tryd.prog 40 #[.slice p xs.length c, .slice q cs.length d] w (TwoPost w (projVal xs cs) (projErr xs cs)) := by
  have hv := refValid_any p xs c hmx w hX
  cases hq : validRow xs with
  | false =>
    have he : projErr xs cs = 1 := by unfold projErr; rw [hq]; rfl
    have hy : projVal xs cs = [] := by unfold projVal; rw [he]; rfl
    rw [he, hy]
    rw [hq] at hv
    have HV := Lib.hid hv
    clear hv he hy hX hC hq
    go_enter Tryd.func40, Tryd.ntmps40
    go_wp2_with fail
    refine HV.out.mono ?_
    rintro e w1 ⟨rfl, hb1⟩
    go_wp2_with fail
    go_ret2
    exact ⟨_, rfl, World.ownsRow_nil _ _ _ _, hb1⟩
  | true =>
    rw [hq] at hv
    have HV := Lib.hid hv
    have hno : ∀ i, okCols (cs.take i) xs.length = false → projErr xs cs = 7 ∧ projVal xs cs = [] := fun i h => by
      have he : projErr xs cs = 7 := by unfold projErr; rw [hq, okCols_stop h]; rfl
      exact ⟨he, by unfold projVal; rw [he]; rfl⟩
    have hyes : okCols cs xs.length = true → projErr xs cs = (if 8 < cs.length then 4 else 0) := fun h => by unfold projErr; rw [hq, h]; simp
    have hval : projVal xs cs = if projErr xs cs = 0 then pick xs cs else [] := rfl
    have hpick := fun W (h : Below w.heap.size w W) (h8 : cs.length ≤ 1000) (ho : okCols cs xs.length = true) => Picks_any p q xs cs c d hmx h8 W (hX.belowV h) (hC.belowV h) ho
    have hwith := fun W => within_any (cs[0]?.getD 0) 0 ((xs.length : Int) - 1) W
    generalize projErr xs cs = er at hno hyes hval ⊢
    generalize projVal xs cs = yy at hno hval ⊢
    have HNO := Lib.hid hno
    have HYES := Lib.hid hyes
    have HVAL := Lib.hid hval
    have HPICK := Lib.hid hpick
    have HC := Lib.hid hC
    have HW := Lib.hid within_any
    clear hv hno hyes hval hpick hwith hX hC hq
    go_enter Tryd.func40, Tryd.ntmps40
    go_wp2_with fail
    refine HV.out.mono ?_
    rintro e w1 ⟨rfl, hb1⟩
    clear HV
    go_wp2_with fail
    go_loopw [6] (fun s wr => ∃ i : Nat, s = .int .i64 i ∧ i ≤ cs.length ∧ Hid (okCols (cs.take i) xs.length = true) ∧ Below w.heap.size w wr) (fun s _ => cs.length - (intOf s).toNat)
    case atStart => exact ⟨0, rfl, Nat.zero_le _, rfl, hb1⟩
    case round =>
      obtain ⟨i, rfl, hi, hv, hB⟩ := hrel
      by_cases hlt : i < cs.length
      · obtain ⟨b, off, rfl, hbl, hra⟩ := HC.out (by omega)
        have c0 := (hra.belowV hB hbl) i hlt
        have hnx := okCols_next (n := xs.length) hlt
        rw [hv.out, Bool.true_and] at hnx
        have hi0 : (0 : Int) ≤ (i : Int) := by omega
        have hi1 : (i : Int) < (cs.length : Int) := by omega
        have hl1 : (xs.length : Int) - 1 ≤ 9223372036854775807 := by omega
        clear hra
        generalize cs[i]?.getD 0 = t at c0 hnx
        have HWT := fun W => HW.out t 0 ((xs.length : Int) - 1) W
        have hee : decide (0 ≤ t ∧ t ≤ (xs.length : Int) - 1) = decide (0 ≤ t ∧ t < (xs.length : Int)) := by rw [decide_eq_decide]; omega
        rw [hee] at HWT
        clear hee
        cases hin : decide (0 ≤ t ∧ t < (xs.length : Int)) with
        | true =>
          rw [hin] at HWT hnx
          have HN := Lib.hid hnx
          have HWT2 := Lib.hid HWT
          clear hnx HWT hin
          go_wp2_with fail
          refine (HWT2.out _).mono ?_
          rintro e w2 ⟨rfl, rfl⟩
          go_wp2_with fail
          go_roundw
          case rel => exact ⟨i + 1, by go_num, by omega, HN.out, hB⟩
          case measure => simp [intOf]; omega
        | false =>
          rw [hin] at HWT hnx
          have HN := Lib.hid (HNO.out _ hnx)
          have HWT2 := Lib.hid HWT
          clear hnx HWT hin
          go_wp2_with fail
          refine (HWT2.out _).mono ?_
          rintro e w2 ⟨rfl, rfl⟩
          go_wp2_with fail
          go_ret2
          obtain ⟨rfl, rfl⟩ := HN.out
          exact ⟨_, rfl, World.ownsRow_nil _ _ _ _, hB⟩
      · have hge : cs.length ≤ i := by omega
        have hie : i = cs.length := by omega
        have hall : okCols cs xs.length = true := by have := hv.out; rw [hie, List.take_length] at this; exact this
        have hy := HYES.out hall
        have hz := HVAL.out
        clear hie HNO HYES HVAL
        by_cases h8 : 8 < cs.length
        · rw [if_pos h8] at hy
          subst hy
          rw [if_neg (by decide)] at hz
          subst hz
          have h8' : (8 : Int) < (cs.length : Int) := by omega
          clear hall
          go_wp2_with fail
          go_ret2
          exact ⟨_, rfl, World.ownsRow_nil _ _ _ _, hB⟩
        · rw [if_neg h8] at hy
          subst hy
          rw [if_pos rfl] at hz
          subst hz
          have h8' : (cs.length : Int) ≤ 8 := by omega
          have HP := Lib.hid (HPICK.out _ hB (by omega) hall)
          clear hall HPICK
          go_wp2_with fail
          refine HP.out.mono ?_
          rintro e w3 ⟨v3, rfl, hrow3, hb3⟩
          go_wp2_with fail
          go_ret2
          exact ⟨_, rfl, ownsRow_base hrow3 hB.size, hB.trans (hb3.mono hB.size)⟩
end Go.Proofs.YtfkkdoodngldhaaDoor
