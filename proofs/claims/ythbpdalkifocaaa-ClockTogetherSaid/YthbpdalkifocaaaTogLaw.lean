/-
  PROVED HERE: for every gap, every list of times and every two places (numbers of 64 bits) the law ClockTogether returns true: two times are in one session exactly if of the times from the one to the other no two neighbouring ones differ by the gap or more. Its arguments read afterwards as before. No condition.
-/
import Derived.Test.YthbpdalkifocaaaRows
import Derived.Test.YthbpdalkifocaaaSesLaw
import Derived.BigRegion
namespace Go.Proofs.Ythbpdalkifocaaa.clockTogether
open Go.ChangeShapes Go.WideShapes Go.ChangeAt Go.RowKit Go.Proofs.Ythbpdalkifocaaa.clockSessions
set_option linter.unusedVariables false

/-- The places that the law looks at. -/
def inside (n : Nat) (i j : Int) : Prop := n ≤ 500 ∧ 0 ≤ i ∧ 0 ≤ j ∧ i < n ∧ j < n

set_option maxRecDepth 100000 in
set_option maxHeartbeats 1000000 in
theorem walk_out (g i j : Int) (p : Option Addr) (n cap : Nat) (h : ¬ inside n i j) (w : World) :
    Calls Try.prog 5 #[.int .i64 g, .slice p n cap, .int .i64 i, .int .i64 j] w fun e w' => e = .returned (.bool true) ∧ Below w.heap.size w w' := by
  by_cases h5 : 500 < n
  · go_enter Try.func5, Try.ntmps5
    go_wp2_with fail
    refine (short_no n h5 _).mono ?_
    rintro e w' ⟨rfl, rfl⟩
    go_wp2_with fail
    refine (awake_any _).mono ?_
    rintro e w1 ⟨rfl, hb⟩
    go_wp2_with fail
    go_ret
    exact ⟨rfl, hb⟩
  · by_cases hi : i < 0
    · go_enter Try.func5, Try.ntmps5
      go_wp2_with fail
      refine (short_yes n (by omega) _).mono ?_
      rintro e w' ⟨rfl, rfl⟩
      go_wp2_with fail
      refine (awake_any _).mono ?_
      rintro e w1 ⟨rfl, hb⟩
      go_wp2_with fail
      go_ret
      exact ⟨rfl, hb⟩
    · have di : decide (i < 0) = false := by simpa using hi
      by_cases hj : j < 0
      · go_enter Try.func5, Try.ntmps5
        go_wp2_with fail
        refine (short_yes n (by omega) _).mono ?_
        rintro e w' ⟨rfl, rfl⟩
        go_wp2_with fail
        refine (awake_any _).mono ?_
        rintro e w1 ⟨rfl, hb⟩
        go_wp2_with fail
        go_ret
        exact ⟨rfl, hb⟩
      · have dj : decide (j < 0) = false := by simpa using hj
        by_cases hin : (n : Int) ≤ i
        · go_enter Try.func5, Try.ntmps5
          go_wp2_with fail
          refine (short_yes n (by omega) _).mono ?_
          rintro e w' ⟨rfl, rfl⟩
          go_wp2_with fail
          refine (awake_any _).mono ?_
          rintro e w1 ⟨rfl, hb⟩
          go_wp2_with fail
          go_ret
          exact ⟨rfl, hb⟩
        · have hjn : (n : Int) ≤ j := by unfold inside at h; omega
          have din : decide ((n : Int) ≤ i) = false := by simpa using hin
          go_enter Try.func5, Try.ntmps5
          go_wp2_with fail
          refine (short_yes n (by omega) _).mono ?_
          rintro e w' ⟨rfl, rfl⟩
          go_wp2_with fail
          refine (awake_any _).mono ?_
          rintro e w1 ⟨rfl, hb⟩
          go_wp2_with fail
          go_ret
          exact ⟨rfl, hb⟩

/-- What is told of a time among the times: an error that is not ErrNone, or a window. -/
theorem sess_among {g t a b er : Int} {ts : List Int} (h : IsSess g ts t a b er) (ht : t ∈ ts) :
    (er ≠ 0 ∧ er ≠ 8 ∧ sessErr g ts ≠ 0 ∧ er = sessErr g ts) ∨ (er = 0 ∧ sessErr g ts = 0 ∧ (∀ t ∈ ts, inTime t) ∧ ∃ ys, Sep ys ∧ (∀ p, cov ys p ↔ cov (sessW g ts) p) ∧ (a, b) ∈ ys ∧ a ≤ t ∧ t < b) := by
  have h8 : sessErr g ts = 0 ∨ sessErr g ts = 1 ∨ sessErr g ts = 7 := by unfold sessErr; split <;> (try split) <;> omega
  rcases h with ⟨h0, _, _, h3⟩ | ⟨h0, h⟩
  · exact .inl ⟨by omega, by omega, h0, h3⟩
  · have hin : ∀ t ∈ ts, inTime t := by
      unfold sessErr at h0
      by_cases h1 : 400 < ts.length
      · rw [if_pos h1] at h0; omega
      · rw [if_neg h1] at h0
        by_cases h2 : 1 ≤ g ∧ g ≤ 1000000000 ∧ badTimes ts = false
        · exact inTime_of_bad h2.2.2
        · rw [if_neg h2] at h0; omega
    rcases h with ⟨n0, _⟩ | ⟨_, ys, s1, c1, ⟨e1, m1, l1, u1⟩ | ⟨_, _, _, n1⟩⟩
    · exact absurd (hin t ht) n0
    · exact .inr ⟨e1, h0, hin, ys, s1, c1, m1, l1, u1⟩
    · exfalso
      have hg : 1 ≤ g ∧ g ≤ 1000000000 := by
        unfold sessErr at h0
        by_cases h1 : 400 < ts.length
        · rw [if_pos h1] at h0; omega
        · rw [if_neg h1] at h0
          by_cases h2 : 1 ≤ g ∧ g ≤ 1000000000 ∧ badTimes ts = false
          · exact ⟨h2.1, h2.2.1⟩
          · rw [if_neg h2] at h0; omega
      obtain ⟨r, hr, r1, r2⟩ := s1.within (sessW_ok hg.1 hg.2 hin _ (mem_sessW ht)) (fun p hp => (c1 p).2 ⟨_, mem_sessW ht, hp⟩)
      simp only at r1 r2
      exact n1 r hr ⟨r1, by omega⟩

theorem gap_of {g : Int} {ts : List Int} (h0 : sessErr g ts = 0) : 1 ≤ g ∧ g ≤ 1000000000 := by
  unfold sessErr at h0
  by_cases h1 : 400 < ts.length
  · rw [if_pos h1] at h0; omega
  · rw [if_neg h1] at h0
    by_cases h2 : 1 ≤ g ∧ g ≤ 1000000000 ∧ badTimes ts = false
    · exact ⟨h2.1, h2.2.1⟩
    · rw [if_neg h2] at h0; omega

theorem end_of {g ti tj a1 b1 a2 b2 : Int} {ts : List Int} {ys : List Win} (hg : 1 ≤ g ∧ g ≤ 1000000000) (hin : ∀ t ∈ ts, inTime t) (s1 : Sep ys) (c1 : ∀ p, cov ys p ↔ cov (sessW g ts) p)
    (mi : ti ∈ ts) (mj : tj ∈ ts) (m1 : (a1, b1) ∈ ys) (l1 : a1 ≤ ti) (u1 : ti < b1) (m2 : (a2, b2) ∈ ys) (l2 : a2 ≤ tj) (u2 : tj < b2) :
    ∀ a, Chain g ts (min ti tj) a → Closed g ts a → ((a1 = a2 ∧ b1 = b2) ↔ max ti tj ≤ a) := fun a hch hcl => by
  by_cases h : ti ≤ tj
  · rw [Int.min_eq_left h] at hch
    rw [Int.max_eq_right h]
    have := together hg.1 hg.2 hin (hin _ mi) s1 c1 hch hcl h mj m1 m2 l1 u1 l2 u2
    rw [← this]
    simp
  · have h' : tj ≤ ti := by omega
    rw [Int.min_eq_right h'] at hch
    rw [Int.max_eq_left h']
    have := together hg.1 hg.2 hin (hin _ mj) s1 c1 hch hcl h' mi m2 m1 l2 u2 l1 u1
    rw [← this]
    simp only [Prod.mk.injEq]
    constructor
    · rintro ⟨h1, h2⟩; exact ⟨h1.symm, h2.symm⟩
    · rintro ⟨h1, h2⟩; exact ⟨h1.symm, h2.symm⟩
def bit (v : Value) : Nat := match v with | .bool true => 1 | _ => 0
/-- No time ahead of k lies above a, below the gap. -/
def NoStep (g : Int) (ts : List Int) (a : Int) (k : Nat) : Prop := ∀ m, m < k → ¬ (a < ts[m]?.getD 0 ∧ ts[m]?.getD 0 - a < g)
theorem noStep_next {g a : Int} {ts : List Int} {k : Nat} (h : NoStep g ts a k) (hn : ¬ (a < ts[k]?.getD 0 ∧ ts[k]?.getD 0 - a < g)) : NoStep g ts a (k + 1) := fun m hm => by
  by_cases e : m = k
  · subst e; exact hn
  · exact h m (by omega)
theorem noStep_all {g a : Int} {ts : List Int} (h : NoStep g ts a ts.length) : Closed g ts a := fun t ht => by
  obtain ⟨j, hj, rfl⟩ := List.mem_iff_getElem.1 ht
  have := h j hj
  simpa [List.getElem?_eq_getElem hj] using this

set_option maxRecDepth 100000 in
set_option maxHeartbeats 4000000 in
theorem walk_in (g : Int) (i j : Nat) (p : Option Addr) (ts : List Int) (cap : Nat) (hm : ts.length ≤ 500) (hi : i < ts.length) (hj : j < ts.length) (w : World) (hX : IntsIn w p ts) :
    Calls Try.prog 5 #[.int .i64 g, .slice p ts.length cap, .int .i64 (i : Int), .int .i64 (j : Int)] w fun e w' => e = .returned (.bool true) ∧ Below w.heap.size w w' := by
  have hX0 := hX
  obtain ⟨bk, off, rfl, hbk, hx⟩ := hX (by omega)
  have ci := hx i hi
  have cj := hx j hj
  have mi : ts[i]?.getD 0 ∈ ts := by simp [List.getElem?_eq_getElem hi]
  have mj : ts[j]?.getD 0 ∈ ts := by simp [List.getElem?_eq_getElem hj]
  have hi0 : (0 : Int) ≤ (i : Int) := by omega
  have hi1 : (i : Int) < (ts.length : Int) := by omega
  have hj0 : (0 : Int) ≤ (j : Int) := by omega
  have hj1 : (j : Int) < (ts.length : Int) := by omega
  have HE := Lib.hid (And.intro (rfl : ts[i]?.getD 0 = ts[i]?.getD 0) (rfl : ts[j]?.getD 0 = ts[j]?.getD 0))
  generalize hti : ts[i]?.getD 0 = ti at ci mi
  generalize htj : ts[j]?.getD 0 = tj at cj mj
  have HTI := Lib.hid (And.intro hti htj)
  clear hti htj HE
  have HX := Lib.hid hX0
  have HT := Lib.hid hx
  have CIJ := Lib.hid (And.intro ci cj)
  have MI := Lib.hid mi
  have MJ := Lib.hid mj
  clear hX hX0 hx cj mi mj
  go_enter Try.func5, Try.ntmps5
  go_wp2_with fail
  refine (short_yes ts.length hm _).mono ?_
  rintro e w' ⟨rfl, rfl⟩
  go_wp2_with fail
  refine (clkSession_any g _ cap ts ti w HX.out).mono ?_
  rintro e w1 ⟨a1, b1, e1, rfl, i1, hb1⟩
  have hbA : Below w1.heap.size w1 (w1.alloc (.cells #[.int .i64 a1, .int .i64 b1] 31)) := (Below.refl _ _).alloc (Nat.le_refl _) _
  have cj1 := (hb1.cell (p := ⟨bk, off + j, none⟩) hbk).trans CIJ.out.2
  have hb1s := hb1.size
  have hbkn : bk < w1.heap.size := by omega
  have cjA : (w1.alloc (.cells #[.int .i64 a1, .int .i64 b1] 31)).cell? ⟨bk, off + j, none⟩ = some (.int .i64 tj) := Lib.cell?_alloc_some _ cj1
  clear ci
  go_wp2_with fail
  refine (clkSession_any g _ cap ts tj _ ((HX.out.belowV hb1).belowV hbA)).mono ?_
  rintro e w2 ⟨a2, b2, e2, rfl, i2, hb2⟩
  have k1 : Blk w2 w1.heap.size 31 #[.int .i64 a1, .int .i64 b1] := (hb2.block w1.heap.size (by simp)).trans (Blk.new _ _ _)
  have hz : w1.heap.size < w2.heap.size := k1.lt
  have hB2 : Below w.heap.size w w2 := hb1.trans ((hbA.trans (hb2.mono hbA.size)).mono hb1.size)
  have K1 := Lib.hid k1
  clear hb2 hbA k1 cj1 cjA hbkn
  rcases sess_among i1 MI.out with ⟨n0, n8, ns, ne⟩ | ⟨z0, zs, hin, ys, s1, c1, m1, l1, u1⟩
  · rcases sess_among i2 MJ.out with ⟨k0, k8, ks, ke⟩ | ⟨_, zs, _⟩
    · obtain rfl : e1 = e2 := by omega
      have g0 : (e1 != 0) = true := by rw [bne_iff_ne]; exact n0
      have g8 : (e1 != 8) = true := by rw [bne_iff_ne]; exact n8
      have hB3 := hB2.alloc hB2.size (.cells #[.int .i64 a2, .int .i64 b2] 31)
      clear i1 i2 n0 n8 ns ne k0 k8 ks ke
      go_wp2_with fail
      refine (awake_any _).mono ?_
      rintro e w3 ⟨rfl, hb3⟩
      go_wp2_with fail
      go_ret
      exact ⟨rfl, hB3.trans (hb3.mono hB3.size)⟩
    · exact absurd zs ns
  · rcases sess_among i2 MJ.out with ⟨_, _, ks, _⟩ | ⟨k0, _, _, ys2, s2, c2, m2, l2, u2⟩
    · exact absurd zs ks
    · obtain rfl : ys = ys2 := Sep.unique s1 s2 fun p => (c1 p).trans (c2 p).symm
      subst z0 k0
      have hg := gap_of zs
      have hB3 := hB2.alloc hB2.size (.cells #[.int .i64 a2, .int .i64 b2] 31)
      go_wp2_with fail
      have k3 : Blk (w2.alloc (.cells #[.int .i64 a2, .int .i64 b2] 31)) w1.heap.size 31 #[.int .i64 a1, .int .i64 b1] := K1.out.belowV ((Below.refl w2.heap.size w2).alloc (Nat.le_refl _) _) hz
      have k4 : Blk (w2.alloc (.cells #[.int .i64 a2, .int .i64 b2] 31)) w2.heap.size 31 #[.int .i64 a2, .int .i64 b2] := Blk.new _ _ _
      have hT3 := HT.out.belowV hB3 hbk
      obtain ⟨W3, hW3⟩ : ∃ W, w2.alloc (.cells #[.int .i64 a2, .int .i64 b2] 31) = W := ⟨_, rfl⟩
      rw [hW3] at k3 k4 hT3 hB3 ⊢
      have ci := hT3 i hi
      have cj := hT3 j hj
      rw [HTI.out.1] at ci
      rw [HTI.out.2] at cj
      have HT3 := Lib.hid hT3
      have K3 := Lib.hid k3
      have K4 := Lib.hid k4
      clear hT3 k3 k4 hW3
      go_quiet (fail)
      have hend := end_of hg hin s1 c1 MI.out MJ.out m1 l1 u1 m2 l2 u2
      have hst : Chain g ts (min ti tj) (min ti tj) := Chain.start (by rcases Int.le_total ti tj with h | h; · rw [Int.min_eq_left h]; exact MI.out
                                                                       · rw [Int.min_eq_right h]; exact MJ.out)
      obtain ⟨lo, hlo⟩ : ∃ x, min ti tj = x := ⟨_, rfl⟩
      obtain ⟨up, hup⟩ : ∃ x, max ti tj = x := ⟨_, rfl⟩
      rw [hlo, hup] at hend
      rw [hlo] at hst
      simp only [hlo, hup]
      have HEnd := Lib.hid hend
      have HIn := Lib.hid hin
      have HSt := Lib.hid hst
      have hgle : g ≤ 1000000000 := hg.2
      have hg1 : 1 ≤ g := hg.1
      have hB4 : Below w.heap.size w (W3.drewN nq) := ⟨hB3.os, hB3.tape, hB3.output, hB3.size, hB3.block⟩
      have HT4 := Lib.hid (show TimesAt (W3.drewN nq) bk off ts from HT3.out)
      have K5 := Lib.hid (show Blk (W3.drewN nq) w1.heap.size 31 #[.int .i64 a1, .int .i64 b1] from K3.out)
      have K6 := Lib.hid (show Blk (W3.drewN nq) w2.heap.size 31 #[.int .i64 a2, .int .i64 b2] from K4.out)
      clear hend hin hst hlo hup ci cj hg hB3 i1 i2 s1 c1 m1 l1 u1 s2 c2 m2 l2 u2 zs
      generalize W3.drewN nq = W4 at *
      go_wp2_with fail
      go_loopw [15, 16] (fun s o wr => ∃ (a : Int) (on : Bool), s = .int .i64 a ∧ o = .bool on ∧ Hid (Chain g ts lo a) ∧ Hid (on = false → Closed g ts a) ∧ wr = W4) (fun s o _ => 2 * above ts (intOf s) + bit o)
      case atStart => exact ⟨lo, true, rfl, rfl, HSt.out, (fun h => by cases h), rfl⟩
      case round =>
        obtain ⟨a, on, rfl, rfl, hch, hcl, rfl⟩ := hrel
        cases on with
        | false =>
          have hfin := HEnd.out a hch.out (hcl.out rfl)
          have c0 := K5.out.cell 0
          have c1 := K5.out.cell 1
          have c2 := K6.out.cell 0
          have c3 := K6.out.cell 1
          simp only [List.getElem?_toArray, List.getElem?_cons_zero, List.getElem?_cons_succ] at c0 c1 c2 c3
          by_cases hua : up ≤ a
          · obtain ⟨rfl, rfl⟩ := hfin.2 hua
            have hq := fun W => eqlW a1 b1 a1 b1 W
            clear hfin
            go_wp2_with fail
            refine (awake_any _).mono ?_
            rintro e w6 ⟨rfl, hb6⟩
            go_wp2_with fail
            go_ret
            exact ⟨rfl, hB4.trans (hb6.mono hB4.size)⟩
          · have hne : (a1 == a2 && b1 == b2) = false := by
              rw [Bool.eq_false_iff]
              intro h
              rw [Bool.and_eq_true, beq_iff_eq, beq_iff_eq] at h
              exact hua (hfin.1 h)
            have hd : decide (up ≤ a) = false := by simpa using hua
            have hq : ∀ W, (binOp .eql 31 (.agg #[.int .i64 a1, .int .i64 b1]) (.agg #[.int .i64 a2, .int .i64 b2])).run Try.prog W = .ok (.bool false) W := fun W => by rw [eqlW, hne]
            clear hfin hne hua
            go_wp2_with fail
            refine (awake_any _).mono ?_
            rintro e w6 ⟨rfl, hb6⟩
            go_wp2_with fail
            go_ret
            exact ⟨rfl, hB4.trans (hb6.mono hB4.size)⟩
        | true =>
          go_wp2_with fail
          go_loopw [15, 16, 17] (fun s o x wr2 => ∃ (a' : Int) (on : Bool) (k : Nat), s = .int .i64 a' ∧ o = .bool on ∧ x = .int .i64 k ∧ k ≤ ts.length ∧ Hid (Chain g ts lo a') ∧ Hid (on = false → a' = a ∧ NoStep g ts a k) ∧ Hid (on = true → a < a') ∧ wr2 = wr) (fun _ _ x _ => ts.length - (intOf x).toNat)
          case atStart => exact ⟨a, false, 0, rfl, rfl, rfl, Nat.zero_le _, hch.out, (fun _ => ⟨rfl, fun m hm => by omega⟩), (fun h => by cases h), rfl⟩
          case round =>
            obtain ⟨a', on, k, rfl, rfl, rfl, hk, hch', hno, hyes, rfl⟩ := hrel
            by_cases hkl : k < ts.length
            · have ct := HT4.out k hkl
              have htm : ts[k]?.getD 0 ∈ ts := by simp [List.getElem?_eq_getElem hkl]
              obtain ⟨lt1, lt2⟩ := HIn.out _ htm
              obtain ⟨la1, la2⟩ := HIn.out _ hch'.out.mem
              have hk0 : (0 : Int) ≤ (k : Int) := by omega
              have hk1 : (k : Int) < (ts.length : Int) := by omega
              have HNX := Lib.hid (show ¬ (a' < ts[k]?.getD 0 ∧ ts[k]?.getD 0 - a' < g) → on = false → a' = a ∧ NoStep g ts a (k + 1) from fun h1 h2 => by
                obtain ⟨e, hs⟩ := hno.out h2
                subst e
                exact ⟨rfl, noStep_next hs h1⟩)
              generalize ts[k]?.getD 0 = t at ct htm lt1 lt2 HNX
              have HTM := Lib.hid htm
              clear htm
              by_cases hA : a' < t
              · by_cases hG : t - a' < g
                · have hat : a < t := by
                    cases on with
                    | true => have := hyes.out rfl; omega
                    | false => obtain ⟨e, _⟩ := hno.out rfl; omega
                  have HST := Lib.hid (hch'.out.step HTM.out hA hG)
                  have HAT := Lib.hid hat
                  go_wp2_with fail
                  go_roundw
                  case rel => exact ⟨t, true, k + 1, rfl, rfl, by go_num, by omega, HST.out, (fun h => by cases h), (fun _ => HAT.out), trivial⟩
                  case measure => simp [intOf]; omega
                · have hd : decide (t - a' < g) = false := by simpa using hG
                  have HN2 := Lib.hid (HNX.out (fun h => hG h.2))
                  clear hG
                  go_wp2_with fail
                  go_roundw
                  case rel => exact ⟨a', on, k + 1, rfl, rfl, by go_num, by omega, hch'.out, HN2.out, hyes.out, trivial⟩
                  case measure => simp [intOf]; omega
              · have hd : decide (a' < t) = false := by simpa using hA
                have HN2 := Lib.hid (HNX.out (fun h => hA h.1))
                clear hA
                go_wp2_with fail
                go_roundw
                case rel => exact ⟨a', on, k + 1, rfl, rfl, by go_num, by omega, hch'.out, HN2.out, hyes.out, trivial⟩
                case measure => simp [intOf]; omega
            · have hge : ts.length ≤ k := by omega
              have hke : k = ts.length := by omega
              have HCL := Lib.hid (show on = false → Closed g ts a' from fun h => by
                obtain ⟨e, hs⟩ := hno.out h
                rw [hke] at hs
                subst e
                exact noStep_all hs)
              have hmeas : 2 * above ts a' + bit (.bool on) < 2 * above ts a + 1 := by
                cases on with
                | true => have := above_lt hch'.out.mem (hyes.out rfl); simp only [bit]; omega
                | false => obtain ⟨e, _⟩ := hno.out rfl; subst e; simp only [bit]; omega
              clear hke
              go_wp2_with fail
              go_roundw
              case rel => exact ⟨a', on, rfl, rfl, hch'.out, HCL.out, trivial⟩
              case measure => exact hmeas

theorem walk (g i j : Int) (p : Option Addr) (ts : List Int) (cap : Nat) (w : World) (hX : IntsIn w p ts) :
    Calls Try.prog 5 #[.int .i64 g, .slice p ts.length cap, .int .i64 i, .int .i64 j] w fun e w' => e = .returned (.bool true) ∧ Below w.heap.size w w' := by
  by_cases h : inside ts.length i j
  · obtain ⟨h5, i0, j0, i1, j1⟩ := h
    obtain ⟨m, rfl⟩ := Int.eq_ofNat_of_zero_le i0
    obtain ⟨n, rfl⟩ := Int.eq_ofNat_of_zero_le j0
    exact walk_in g m n p ts cap h5 (by omega) (by omega) w hX
  · exact walk_out g i j p _ cap h w

set_option maxRecDepth 100000 in
theorem lifted (os : Os) (started : os.Started) (H : Type) (enc : TypeId × Value → H) :
    ReturnsInHanded {} Try.checked os 5 .any (Rows.clockTogetherSpec.pre6 enc Try.prog Try.f5 Rows.clockTogetherRow.domain false) (Rows.clockTogetherSpec.post enc Try.prog Try.f5 false true false false) := by
  refine returnsInHanded_of_change (C := Try.checked) own started (by kernel_rfl) Try.func5
    (ChangeSpec.witness6 (enc := enc) (C := Try.checked) false ⟨#[], #[.int .i64 0, .slice none 0 0, .int .i64 0, .int .i64 0], []⟩ 8 (by kernel_rfl) (by kernel_rfl) (by kernel_rfl) (by kernel_rfl)) ?_
  intro W base args ds gs before hval0 hW hcnd _
  have hval : ∀ (j : Nat) t v, Try.f5.params[j]? = some t → args[j]? = some v → Value.okWide Try.prog W .any base t v := hval0
  have hW' := hW
  obtain ⟨p, q, hA0, hV, rfl, hfz, hnd⟩ := hW
  have hA : DataW.TrodAll enc Try.prog W 0 (fun _ => true) true Try.f5.params.toList args.toList ds p := hA0
  rw [Try.params5] at hA hval
  obtain ⟨rfl, rfl⟩ := trodVars_none hV
  have hA' := hA
  obtain ⟨v0, vs0, d0, ds0, p0, q0, hargs, rfl, rfl, h0, r0⟩ := trodAll_cons hA
  obtain ⟨v1, vs1, d1, ds1, p1, q1, rfl, rfl, rfl, h1, r1⟩ := trodAll_cons r0
  obtain ⟨v2, vs2, d2, ds2, p2, q2, rfl, rfl, rfl, h2, r2⟩ := trodAll_cons r1
  obtain ⟨v3, vs3, d3, ds3, p3, q3, rfl, rfl, rfl, h3, r3⟩ := trodAll_cons r2
  obtain ⟨rfl, rfl, rfl⟩ := trodAll_nil r3
  obtain rfl : args = #[v0, v1, v2, v3] := by cases args; simp_all
  obtain ⟨g, rfl⟩ := okWide_int Try.underlying3 (hval 0 3 v0 rfl rfl)
  obtain ⟨a1, ts, c1, rfl, hm1, hP⟩ := open_times (hval 1 _ v1 rfl rfl) h1
  obtain ⟨i, rfl⟩ := okWide_int Try.underlying3 (hval 2 3 v2 rfl rfl)
  obtain ⟨j, rfl⟩ := okWide_int Try.underlying3 (hval 3 3 v3 rfl rfl)
  clear hA0 hval0
  refine (walk g i j a1 ts c1 W hP).mono fun e W' ⟨he, hg⟩ => ?_
  subst he
  exact ⟨_, rfl, _, _, _, [], _, [], hW', trodAll_mk1 (shut_bool Try.underlying4 true), trodAll_below laidOut hg (by decide +kernel) hA' (fun x hx => by simpa using hW'.lt x (by simpa using hx)), rfl, hg.frame _, fun h => by cases h⟩

theorem over : Rows.clockTogetherRow.holds Try.pinned (OpenSpec.ofChange Rows.clockTogetherSpec) :=
  OpenClaim.holds_of_wide 5 Try.f5 rfl rfl rfl rfl rfl rfl rfl ⟨rfl, rfl, rfl, rfl, rfl⟩ rfl rfl rfl rfl rfl (by kernel_rfl) Try.func5 (by kernel_rfl)
    (of_decide_eq_true (by kernel_rfl)) (by unfold Func.isWrapper; first | (rw [if_pos (by decide +kernel)]; kernel_rfl) | (rw [if_neg (by decide +kernel)]; exact ⟨rfl, rfl⟩))
    (fun os started H enc _ => lifted os started H enc)

theorem proved : Rows.ClockTogetherSaid :=
  over
end Go.Proofs.Ythbpdalkifocaaa.clockTogether
