/-
  PROVED HERE: for every bound and every list of events the law MarkOn returns true: no event that was not late was below the mark at its reading, both lists together are all events, and with a bound above the greatest time less the least none is late. Its arguments read afterwards as before.
-/
import Derived.Test.YtmnbcofonhlplaaOe
import Derived.Test.YtmnbcofonhlplaaOnM
import Derived.Test.YtmnbcofonhlplaaRows
namespace Go.Proofs.Ytmnbcofonhlplaa.markOn
open Go.ChangeShapes Go.WideShapes Go.ChangeAt Go.RowKit Go.Deep
set_option linter.unusedSimpArgs false

set_option maxRecDepth 100000 in
set_option maxHeartbeats 4000000 in
theorem walk (b : Int) (q : Option Addr) (es : List EvR) (d : Nat) (hlm : es.length ≤ maxLen) (w : World) (hE : EvsIn w q es) :
    Calls Try.prog 6 #[.int .i64 b, .slice q es.length d] w fun e w' => e = .returned (.bool true) ∧ Below w.heap.size w w' := by
  have hm9 : es.length ≤ 9223372036854775807 := by unfold maxLen at hlm; omega
  have HW := Lib.hid awake6_any
  have HL := Lib.hid (longE_any q es d hm9 w hE)
  have HE := Lib.hid hE
  clear hE hlm
  go_enter Try.func6, Try.ntmps6
  go_wp2_with fail
  refine HL.out.mono ?_
  rintro e w1 ⟨ql, rfl, h500, hb1⟩
  have HB1 := Lib.hid hb1
  clear hb1 HL
  cases ql with
  | true =>
    go_wp2_with fail
    refine (HW.out _).mono ?_
    rintro e w3 ⟨rfl, hb3⟩
    have HB3 := Lib.hid (HB1.out.trans (hb3.mono HB1.out.size))
    clear hb3
    go_wp2_with fail
    go_ret
    exact ⟨rfl, HB3.out⟩
  | false =>
  have h500 := h500 rfl
  have HSO := Lib.hid (mkSorted_any b q es d hm9 w1 (HE.out.belowV HB1.out))
  by_cases hE0 : sortErr b es = 0
  case neg =>
    have hne : (sortErr b es != 0) = true := by simpa using hE0
    generalize sortErr b es = se at HSO hne
    clear hE0
    go_wp2_with fail
    refine HSO.out.mono ?_
    rintro e w2 ⟨p6, c6, p7, c7, ons, lts, rfl, i6, i7, m6, m7, hb2⟩
    have HB2 := Lib.hid (HB1.out.trans (hb2.mono HB1.out.size))
    clear hb2 i6 i7 m6 m7
    go_wp2_with fail
    refine (HW.out _).mono ?_
    rintro e w3 ⟨rfl, hb3⟩
    have HB3 := Lib.hid (HB2.out.trans (hb3.mono HB2.out.size))
    clear hb3
    go_wp2_with fail
    go_ret
    exact ⟨rfl, HB3.out⟩
  case pos =>
  have hAb : evsOK es = true ∧ es.length ≤ 400 ∧ inR b 0 1000000000 = true := by
    unfold sortErr at hE0
    cases hA : areEv es with
    | false => rw [if_pos hA] at hE0; omega
    | true =>
      rw [if_neg (by rw [hA]; decide)] at hE0
      cases hb : inR b 0 1000000000 with
      | false => rw [if_pos hb] at hE0; omega
      | true =>
        unfold areEv at hA
        rw [Bool.and_eq_true, decide_eq_true_eq] at hA
        exact ⟨hA.2, hA.1, rfl⟩
  have hbr := inR_iff.1 hAb.2.2
  have h400 := hAb.2.1
  have HOK := Lib.hid hAb.1
  rw [show sortOn b es = onP (plTo b es es.length) by rw [sortOn, if_pos hE0], show sortLate b es = lateP (plTo b es es.length) by rw [sortLate, if_pos hE0], hE0] at HSO
  clear hE0 hAb
  go_wp2_with fail
  refine HSO.out.mono ?_
  rintro e w2 ⟨p6, c6, p7, c7, ons, lts, rfl, i6, i7, m6, m7, hb2⟩
  have HB2 := Lib.hid (HB1.out.trans (hb2.mono HB1.out.size))
  have hsum : ons.length + lts.length = es.length := by
    have h := on_late_len b es es.length
    rw [← m6, ← m7] at h
    simpa using h
  have HON := Lib.hid m6
  have HLA := Lib.hid m7
  have HI6 := Lib.hid i6
  have hol : ons.length ≤ 400 := by omega
  have hll : lts.length ≤ 400 := by omega
  have hss : ((ons.length : Int) + (lts.length : Int) != (es.length : Int)) = false := by simp; omega
  have HSUM := Lib.hid hsum
  clear hb2 i6 i7 m6 m7 hsum HSO h500
  go_wp2_with fail
  go_loopw [8] (fun s wr => ∃ i : Nat, s = .int .i64 i ∧ i ≤ ons.length ∧ Hid (Below w2.heap.size w2 wr)) (fun s _ => ons.length - (intOf s).toNat)
  case atStart => exact ⟨0, rfl, Nat.zero_le _, Below.refl _ _⟩
  case round =>
    obtain ⟨i, rfl, hin, HB⟩ := hrel
    by_cases hlt : i < ons.length
    · have HLT := Lib.hid hlt
      obtain ⟨wq, rfl⟩ : ∃ wq : World, wq = wr := ⟨_, rfl⟩
      go_wp2_with fail
      go_loopw [9] (fun s wr => ∃ k : Nat, s = .int .i64 k ∧ k ≤ i ∧ Hid (Below w2.heap.size w2 wr)) (fun s _ => i - (intOf s).toNat)
      case atStart => exact ⟨0, rfl, Nat.zero_le _, HB.out⟩
      case round =>
        clear HB
        obtain ⟨k, rfl, hk, HB⟩ := hrel
        by_cases hki : k < i
        · obtain ⟨bk, off, rfl, hbk, hra⟩ := HI6.out (by have := HLT.out; omega)
          obtain ⟨c0, _, _⟩ := (hra.belowV HB.out hbk) i HLT.out
          obtain ⟨e0, _, _⟩ := (hra.belowV HB.out hbk) k (by have := HLT.out; omega)
          have hp := on_at HON.out hki HLT.out
          have ht1 := on_time HOK.out HON.out HLT.out
          have ht2 := on_time HOK.out HON.out (show k < ons.length by have := HLT.out; omega)
          have hi0 : (0 : Int) ≤ (i : Int) := by omega
          have hi1 : (i : Int) < (ons.length : Int) := by have := HLT.out; omega
          have hk0 : (0 : Int) ≤ (k : Int) := by omega
          have hk1 : (k : Int) < (ons.length : Int) := by have := HLT.out; omega
          have hk2 : (k : Int) < (i : Int) := by omega
          have HKI := Lib.hid hki
          clear hra
          generalize (ons[i]?.getD er0).1 = ti at *
          generalize (ons[k]?.getD er0).1 = tk at *
          have q1 : IntKind.i64.wrap (tk - b) = tk - b := by rw [IntKind.wrap_i64]; omega
          have q2 : IntKind.i64.wrap (tk - b + 1) = tk - b + 1 := by rw [IntKind.wrap_i64]; omega
          have hdd : decide (ti < tk - b + 1) = false := decide_eq_false (by omega)
          clear hp ht1 ht2
          go_wp2_with fail
          go_quiet (fail)
          go_wp2_with fail
          go_roundw
          case rel => exact ⟨k + 1, by go_num, by have := HKI.out; omega, below_drewN HB.out _⟩
          case measure => have := HKI.out; simp [intOf]; omega
        · have hge : i ≤ k := by omega
          go_wp2_with fail
          go_roundw
          case rel => exact ⟨i + 1, by go_num, by have := HLT.out; omega, HB.out⟩
          case measure => have := HLT.out; simp [intOf]; omega
    · have hge : ons.length ≤ i := by omega
      obtain ⟨wq, rfl⟩ : ∃ wq : World, wq = wr := ⟨_, rfl⟩
      go_wp2_with fail
      go_loopw [10, 11, 12] (fun lo hi s wr => ∃ (j : Nat) (x y : Int), lo = .int .i64 x ∧ hi = .int .i64 y ∧ s = .int .i64 j ∧ j ≤ es.length ∧ Hid (-1000000000000 ≤ x ∧ x ≤ 1000000000000 ∧ -1000000000000 ≤ y ∧ y ≤ 1000000000000) ∧ Hid (∀ k, k < j → x ≤ (es[k]?.getD er0).1 ∧ (es[k]?.getD er0).1 ≤ y) ∧ Hid (Below w2.heap.size w2 wr)) (fun _ _ s _ => es.length - (intOf s).toNat)
      case atStart => exact ⟨0, 0, 0, rfl, rfl, rfl, Nat.zero_le _, by show _ ∧ _; omega, (fun k h => by omega), HB.out⟩
      case round =>
        clear HB
        obtain ⟨j, x, y, rfl, rfl, rfl, hj, HXY, HA, HB⟩ := hrel
        by_cases hjl : j < es.length
        · obtain ⟨bk, off, rfl, hbk, hra⟩ := HE.out (by omega)
          have c0 := (((HB2.out.trans (HB.out.mono HB2.out.size)).cell (p := ⟨bk, off + j * 2, none⟩) hbk)).trans (hra j hjl).1
          have ht := ev_time HOK.out hjl
          have hj0 : (0 : Int) ≤ (j : Int) := by omega
          have hj1 : (j : Int) < (es.length : Int) := by omega
          have HJL := Lib.hid hjl
          have HXY2 := Lib.hid (show ∀ lo hi, (lo ≤ (es[j]?.getD er0).1 ∧ (es[j]?.getD er0).1 ≤ hi) → (∀ k, k < j → lo ≤ (es[k]?.getD er0).1 ∧ (es[k]?.getD er0).1 ≤ hi) → ∀ k, k < j + 1 → lo ≤ (es[k]?.getD er0).1 ∧ (es[k]?.getD er0).1 ≤ hi from fun lo hi h1 h2 k hk => by
            by_cases e : k = j
            · rw [e]; exact h1
            · exact h2 k (by omega))
          clear hra
          generalize (es[j]?.getD er0).1 = t at c0 ht HXY2
          have HT := Lib.hid ht
          by_cases hj00 : j = 0
          · subst hj00
            have c0 : wr.cell? ⟨bk, off, none⟩ = some (.int .i64 t) := by simpa using c0
            have hl0 : (0 : Int) < (es.length : Int) := by omega
            clear ht hj0 hj1
            go_wp2_with fail
            go_quiet (fail)
            go_wp2_with fail
            go_quiet (fail)
            go_wp2_with fail
            go_roundw
            case rel => exact ⟨1, t, t, by simp, by simp, by go_num, by have := HJL.out; omega, by have := HT.out; show _ ∧ _; omega, HXY2.out t t ⟨Int.le_refl _, Int.le_refl _⟩ (fun k hk => by omega), below_drewN HB.out _⟩
            case measure => have := HJL.out; simp [intOf]; omega
          · have hjz : ((j : Int) == 0) = false := by simp; omega
            clear ht hj00
            go_wp2_with fail
            go_quiet (fail)
            go_wp2_with fail
            go_roundw
            case rel => exact ⟨j + 1, min x t, max y t, by simp, by simp, by go_num, by have := HJL.out; omega, by have := HT.out; have h2 := HXY.out; show _ ∧ _; omega, HXY2.out (min x t) (max y t) ⟨by omega, by omega⟩ (fun k hk => by have := HA.out k hk; omega), below_drewN HB.out _⟩
            case measure => have := HJL.out; simp [intOf]; omega
        · have hge : es.length ≤ j := by omega
          obtain ⟨x1, x2, y1, y2⟩ := HXY.out
          have qs : IntKind.i64.wrap (y - x) = y - x := by rw [IntKind.wrap_i64]; omega
          have HBZ := Lib.hid (HB2.out.trans (HB.out.mono HB2.out.size))
          by_cases hby : b ≤ y - x
          · clear x1 x2 y1 y2 hge
            go_wp2_with fail
            refine (HW.out _).mono ?_
            rintro e w5 ⟨rfl, hb5⟩
            have HB5 := Lib.hid (HBZ.out.trans (hb5.mono HBZ.out.size))
            clear hb5
            go_wp2_with fail
            go_ret
            exact ⟨rfl, HB5.out⟩
          · have hz : lateP (plTo b es es.length) = [] := late_none HOK.out (lo := x) (hi := y) (by omega) (fun k hk => HA.out k (by omega)) (Nat.le_refl _)
            have hl0 : lts.length = 0 := by
              have h := HLA.out
              rw [hz] at h
              have := congrArg List.length h
              simpa using this
            have hbd : decide (b ≤ y - x) = false := decide_eq_false hby
            have hlz : ((lts.length : Int) == 0) = true := by simp [hl0]
            clear x1 x2 y1 y2 hge hz hl0 hby
            go_wp2_with fail
            refine (HW.out _).mono ?_
            rintro e w5 ⟨rfl, hb5⟩
            have HB5 := Lib.hid (HBZ.out.trans (hb5.mono HBZ.out.size))
            clear hb5
            go_wp2_with fail
            go_ret
            exact ⟨rfl, HB5.out⟩

set_option maxRecDepth 100000 in
theorem lifted (os : Os) (started : os.Started) (H : Type) (enc : TypeId × Value → H) :
    ReturnsInHanded {} Try.checked os 6 .any (Rows.markOnSpec.pre6 enc Try.prog Try.f6 Rows.markOnRow.domain false) (Rows.markOnSpec.post enc Try.prog Try.f6 false true false false) := by
  refine returnsInHanded_of_change (C := Try.checked) own started (by kernel_rfl) Try.func6
    (ChangeSpec.witness6 (enc := enc) (C := Try.checked) false ⟨#[], #[.int .i64 0, .slice none 0 0], []⟩ 8 (by kernel_rfl) (by kernel_rfl) (by kernel_rfl) (by kernel_rfl)) ?_
  intro W base args ds gs before hval0 hW hcnd _
  have hval : ∀ (j : Nat) t v, Try.f6.params[j]? = some t → args[j]? = some v → Value.okWide Try.prog W .any base t v := hval0
  have hW' := hW
  obtain ⟨p, q, hA0, hV, rfl, hfz, hnd⟩ := hW
  have hA : DataW.TrodAll enc Try.prog W 0 (fun _ => true) true Try.f6.params.toList args.toList ds p := hA0
  rw [Try.params6] at hA hval
  obtain ⟨rfl, rfl⟩ := trodVars_none hV
  have hA' := hA
  obtain ⟨v0, vs0, d0, ds0, p0, q0, hargs, rfl, rfl, h0, r0⟩ := trodAll_cons hA
  obtain ⟨v1, vs1, d1, ds1, p1, q1, rfl, rfl, rfl, h1, r1⟩ := trodAll_cons r0
  obtain ⟨rfl, rfl, rfl⟩ := trodAll_nil r1
  obtain rfl : args = #[v0, v1] := by cases args; simp_all
  obtain ⟨n, rfl⟩ := okWide_int Try.underlying3 (hval 0 _ v0 rfl rfl)
  obtain ⟨a1, l1, c1, rfl, hlm1, hX1⟩ := open_evs (hval 1 _ v1 rfl rfl) h1
  clear hA0 hval0
  refine (walk n a1 l1 c1 hlm1 W hX1).mono fun e W' ⟨he, hg⟩ => ?_
  subst he
  exact ⟨_, rfl, _, _, _, [], _, [], hW', trodAll_mk1 (shut_bool Try.underlying4 true), trodAll_below laidOut hg (by decide +kernel) hA' (fun x hx => by simpa using hW'.lt x (by simpa using hx)), rfl, hg.frame _, fun h => by cases h⟩

theorem over : Rows.markOnRow.holds Try.pinned (OpenSpec.ofChange Rows.markOnSpec) :=
  OpenClaim.holds_of_wide 6 Try.f6 rfl rfl rfl rfl rfl rfl rfl ⟨rfl, rfl, rfl, rfl, rfl⟩ rfl rfl rfl rfl rfl (by kernel_rfl) Try.func6 (by kernel_rfl)
    (of_decide_eq_true (by kernel_rfl)) (by unfold Func.isWrapper; first | (rw [if_pos (by decide +kernel)]; kernel_rfl) | (rw [if_neg (by decide +kernel)]; exact ⟨rfl, rfl⟩))
    (fun os started H enc _ => lifted os started H enc)

theorem proved : Rows.MarkOnSaid :=
  over
#print axioms proved
end Go.Proofs.Ytmnbcofonhlplaa.markOn
