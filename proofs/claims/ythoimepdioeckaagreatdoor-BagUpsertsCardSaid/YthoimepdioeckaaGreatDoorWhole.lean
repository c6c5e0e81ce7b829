/-
  Whole of package bag and of the document; ValidChange of both.
-/
import Derived.Test.YthoimepdioeckaaGreatDoorFollows
import Derived.Test.YthoimepdioeckaaGreatDoorRefV
import Derived.Test.YthoimepdioeckaaGreatDoorChg
namespace Go.Proofs.YthoimepdioeckaaGreatDoor
open Go.RowKit

def neg (x : It) : Bool := decide (x.2 < 0)
def wholeB (l : List It) : Bool := validBag l && !(l.any neg)

theorem below_any (r : ItR) (w : World) (b : Bool) (hb : neg (itv r) = b) : Calls Tryz.prog 114 #[nItem r] w (BelowB w b) := by
  have hbA : Below w.heap.size w (w.alloc (oItem r)) := (Below.refl _ _).alloc (Nat.le_refl _) _
  obtain ⟨⟨q, xs, qc⟩, n⟩ := r
  dsimp only [rowv, itv, nItem, oItem, neg] at *
  go_enter Tryz.func114, Tryz.ntmps114
  go_wp2_with fail
  go_ret
  exact ⟨by rw [← hb] <;> rfl, hbA⟩

theorem any_at {l : List It} {i : Nat} (hi : i < l.length) (h : neg (l[i]?.getD it0) = true) : l.any neg = true := by
  rw [List.any_eq_true]
  rw [List.getElem?_eq_getElem hi] at h
  exact ⟨l[i], List.getElem_mem hi, h⟩
theorem any_none {l : List It} (h : ∀ k, k < l.length → neg (l[k]?.getD it0) = false) : l.any neg = false := by
  rw [List.any_eq_false]
  intro x hx
  obtain ⟨k, hk, rfl⟩ := List.mem_iff_getElem.1 hx
  have := h k hk
  rw [List.getElem?_eq_getElem hk] at this
  simpa using this

def NegPost (w : World) (b : Bool) (e : Ending) (w' : World) : Prop := ∃ k : Int, e = .returned (.int .i64 k) ∧ decide (0 ≤ k) = b ∧ Below w.heap.size w w'

set_option maxRecDepth 100000 in
set_option maxHeartbeats 1000000 in
theorem indexNeg_any (p : Option Addr) (rs : List ItR) (c : Nat) (hm : rs.length ≤ 9223372036854775807) (w : World) (hX : ItemsIn w p rs) :
    Calls Tryz.prog 150 #[.slice p rs.length c, .func (.func 114) #[] #[]] w (NegPost w ((vals rs).any neg)) := by
  have HX := Lib.hid hX
  clear hX
  go_enter Tryz.func150, Tryz.ntmps150
  go_wp2_with fail
  go_loopw [8] (fun s wr => ∃ i : Nat, i ≤ rs.length ∧ s = .int .i64 i ∧ Hid (∀ k, k < i → neg (itv (rs[k]?.getD ir0)) = false) ∧ Below w.heap.size w wr) (fun s _ => rs.length - (intOf s).toNat)
  case atStart => exact ⟨0, Nat.zero_le _, rfl, (fun k hk => by omega), Below.refl _ _⟩
  case round =>
    obtain ⟨i, hi, rfl, hE, hB⟩ := hrel
    by_cases hlt : i < rs.length
    · obtain ⟨b, off, rfl, hbl, hra⟩ := HX.out (by omega)
      obtain ⟨c0, c1, _, _⟩ := (hra.belowV hB hbl) i hlt
      have hi0 : (0 : Int) ≤ (i : Int) := by omega
      have hi1 : (i : Int) < (rs.length : Int) := by omega
      clear hra
      cases hn : neg (itv (rs[i]?.getD ir0)) with
      | false =>
        have HE := Lib.hid (show ∀ k, k < i + 1 → neg (itv (rs[k]?.getD ir0)) = false from fun k hk => by
          by_cases hki : k = i
          · rw [hki]; exact hn
          · exact hE.out k (by omega))
        have HC := Lib.hid (below_any _ wr false hn)
        clear hE hn
        generalize (rs[i]?.getD ir0) = x at c0 c1 HC
        obtain ⟨⟨xq, xs, xc⟩, xn⟩ := x
        dsimp only [nItem, rowv] at *
        go_wp2_with fail
        refine HC.out.mono ?_
        rintro e w1 ⟨rfl, hb1⟩
        have hB4 := hB.trans (hb1.mono hB.size)
        go_wp2_with fail
        go_roundw
        case rel => exact ⟨i + 1, by omega, by go_num, HE.out, hB4⟩
        case measure => simp [intOf]; omega
      | true =>
        have HE := Lib.hid (show (vals rs).any neg = true from any_at (by rw [vals_len]; exact hlt) (by rw [vals_get]; exact hn))
        have HC := Lib.hid (below_any _ wr true hn)
        clear hE hn
        generalize (rs[i]?.getD ir0) = x at c0 c1 HC
        obtain ⟨⟨xq, xs, xc⟩, xn⟩ := x
        dsimp only [nItem, rowv] at *
        go_wp2_with fail
        refine HC.out.mono ?_
        rintro e w1 ⟨rfl, hb1⟩
        have hB4 := hB.trans (hb1.mono hB.size)
        go_wp2_with fail
        go_ret
        exact ⟨_, rfl, by rw [HE.out]; exact decide_eq_true hi0, hB4⟩
    · have hge : rs.length ≤ i := by omega
      have HE := Lib.hid (show (vals rs).any neg = false from any_none fun k hk => by rw [vals_get]; exact hE.out k (by rw [vals_len] at hk; omega))
      go_wp2_with fail
      go_ret
      exact ⟨_, rfl, by rw [HE.out]; decide, hB⟩

theorem containsNeg_any (p : Option Addr) (rs : List ItR) (c : Nat) (hm : rs.length ≤ 9223372036854775807) (w : World) (hX : ItemsIn w p rs) :
    Calls Tryz.prog 115 #[.slice p rs.length c, .func (.func 114) #[] #[]] w (BelowB w ((vals rs).any neg)) := by
  have H := Lib.hid (indexNeg_any p rs c hm w hX)
  clear hX
  generalize (vals rs).any neg = b at H ⊢
  go_enter Tryz.func115, Tryz.ntmps115
  go_wp2_with fail
  refine H.out.mono ?_
  rintro e w1 ⟨k, rfl, hk, hb⟩
  have HK := Lib.hid hk
  clear hk
  go_wp2_with fail
  go_ret
  exact ⟨by rw [← HK.out] <;> rfl, hb⟩

theorem bagWhole_any (p : Option Addr) (rs : List ItR) (c : Nat) (hm : rs.length ≤ 9223372036854775807) (hc : rs.length ≤ c) (w : World) (hX : ItemsIn w p rs) :
    Calls Tryz.prog 64 #[.slice p rs.length c] w (BelowB w (wholeB (vals rs))) := by
  have hv := bagValid_any p rs c hm hc w hX
  have H2 := Lib.hid fun W (h : Below w.heap.size w W) => containsNeg_any p rs c hm W (hX.belowV h)
  unfold wholeB
  generalize (vals rs).any neg = b at H2 ⊢
  clear hX
  cases q : validBag (vals rs) with
  | false =>
    rw [q] at hv
    have HV := Lib.hid hv
    clear hv q H2
    go_enter Tryz.func64, Tryz.ntmps64
    go_wp2_with fail
    refine HV.out.mono ?_
    rintro e w1 ⟨rfl, hb⟩
    go_wp2_with fail
    go_ret
    exact ⟨rfl, hb⟩
  | true =>
    rw [q] at hv
    have HV := Lib.hid hv
    clear hv q
    go_enter Tryz.func64, Tryz.ntmps64
    go_wp2_with fail
    refine HV.out.mono ?_
    rintro e w1 ⟨rfl, hb⟩
    go_wp2_with fail
    refine (H2.out _ hb).mono ?_
    rintro e w2 ⟨rfl, hb2⟩
    have hB2 := hb.trans (hb2.mono hb.size)
    go_wp2_with fail
    go_ret
    exact ⟨by cases b <;> rfl, hB2⟩

set_option maxRecDepth 100000 in
set_option maxHeartbeats 1000000 in
theorem refWhole_any (p : Option Addr) (rs : List ItR) (c : Nat) (hm : rs.length ≤ 9223372036854775807) (w : World) (hX : ItemsIn w p rs) :
    Calls Tryz.prog 66 #[.slice p rs.length c] w (BelowB w (wholeB (vals rs))) := by
  have HX := Lib.hid hX
  have HV := Lib.hid fun W (h : Below w.heap.size w W) => refBagValid_any p rs c hm W (hX.belowV h)
  clear hX
  go_enter Tryz.func66, Tryz.ntmps66
  go_wp2_with fail
  go_loopw [3] (fun s wr => ∃ i : Nat, i ≤ rs.length ∧ s = .int .i64 i ∧ Hid (∀ k, k < i → neg (itv (rs[k]?.getD ir0)) = false) ∧ Below w.heap.size w wr) (fun s _ => rs.length - (intOf s).toNat)
  case atStart => exact ⟨0, Nat.zero_le _, rfl, (fun k hk => by omega), Below.refl _ _⟩
  case round =>
    obtain ⟨i, hi, rfl, hE, hB⟩ := hrel
    by_cases hlt : i < rs.length
    · obtain ⟨b, off, rfl, hbl, hra⟩ := HX.out (by omega)
      obtain ⟨_, c1, _, _⟩ := (hra.belowV hB hbl) i hlt
      have hi0 : (0 : Int) ≤ (i : Int) := by omega
      have hi1 : (i : Int) < (rs.length : Int) := by omega
      clear hra
      cases hn : neg (itv (rs[i]?.getD ir0)) with
      | false =>
        have HE := Lib.hid (show ∀ k, k < i + 1 → neg (itv (rs[k]?.getD ir0)) = false from fun k hk => by
          by_cases hki : k = i
          · rw [hki]; exact hn
          · exact hE.out k (by omega))
        clear hE
        generalize (rs[i]?.getD ir0) = x at c1 hn
        obtain ⟨⟨xq, xs, xc⟩, xn⟩ := x
        dsimp only [rowv, neg, itv] at *
        go_wp2_with fail
        go_roundw
        case rel => exact ⟨i + 1, by omega, by go_num, HE.out, hB⟩
        case measure => simp [intOf]; omega
      | true =>
        have HE := Lib.hid (show (vals rs).any neg = true from any_at (by rw [vals_len]; exact hlt) (by rw [vals_get]; exact hn))
        clear hE
        generalize (rs[i]?.getD ir0) = x at c1 hn
        obtain ⟨⟨xq, xs, xc⟩, xn⟩ := x
        dsimp only [rowv, neg, itv] at *
        go_wp2_with fail
        go_ret
        exact ⟨by unfold wholeB; rw [HE.out]; cases validBag (vals rs) <;> rfl, hB⟩
    · have hge : rs.length ≤ i := by omega
      have HE := Lib.hid (show (vals rs).any neg = false from any_none fun k hk => by rw [vals_get]; exact hE.out k (by rw [vals_len] at hk; omega))
      go_wp2_with fail
      refine (HV.out _ hB).mono ?_
      rintro e w1 ⟨rfl, hb⟩
      have hB4 := hB.trans (hb.mono hB.size)
      go_wp2_with fail
      go_ret
      exact ⟨by unfold wholeB; rw [HE.out]; cases validBag (vals rs) <;> rfl, hB4⟩

def chgOK (t : Int) (xs : List Val) (n : Int) : Bool := decide (inT t) && (validRow xs && decide (inN n))
abbrev nChg (c : ChR) : Value := .agg #[.int .i64 c.1, rowv c.2.1, .int .i64 c.2.2]
abbrev oChg (c : ChR) : Obj := .cells #[.int .i64 c.1, rowv c.2.1, .int .i64 c.2.2] 40

theorem refTime_any (t : Int) (w : World) : Calls Tryz.prog 44 #[.int .i64 t] w fun e w' => e = .returned (.bool (decide (inT t))) ∧ w = w' := by
  have HW : ∀ W : World, Calls Tryz.prog 100 #[.int .i64 t, .int .i64 (-1000000000000), .int .i64 1000000000000] W fun e w' => e = .returned (.bool (decide (inT t))) ∧ W = w' := fun W => by
    by_cases h : -1000000000000 ≤ t
    · have e : decide (inT t) = decide (t ≤ 1000000000000) := by simp [inT, h]
      rw [e]
      clear e
      go_enter Tryz.func100, Tryz.ntmps100
      go_wp2
      go_ret
      exact ⟨rfl, rfl⟩
    · have e : decide (inT t) = false := decide_eq_false fun hh => h hh.1
      have h' : t < -1000000000000 := by omega
      rw [e]
      clear e h
      go_enter Tryz.func100, Tryz.ntmps100
      go_wp2
      go_ret
      exact ⟨rfl, rfl⟩
  have H := Lib.hid HW
  clear HW
  go_enter Tryz.func44, Tryz.ntmps44
  go_wp2_with fail
  refine (H.out _).mono ?_
  rintro e w1 ⟨rfl, rfl⟩
  go_wp2_with fail
  go_ret
  exact ⟨rfl, rfl⟩

set_option maxRecDepth 100000 in
theorem bagVC_any (t : Int) (r : RowV) (n : Int) (w : World) (hR : RowOK w r) :
    Calls Tryz.prog 92 #[nChg (t, r, n)] w (BelowB w (chgOK t r.2.1 n)) := by
  have hbA : Below w.heap.size w (w.alloc (oChg (t, r, n))) := (Below.refl _ _).alloc (Nat.le_refl _) _
  have K0 := Blk.new w 40 #[.int .i64 t, rowv r, .int .i64 n]
  have ht := fun W => isTime_any t W
  have hn := fun W => isCount_any n W
  have hr := rowValid_any r.1 r.2.1 r.2.2 (w.alloc (oChg (t, r, n))) (hR.belowV hbA).2
  obtain ⟨q, xs, qc⟩ := r
  dsimp only [rowv, nChg, oChg] at *
  unfold chgOK
  clear hR
  have HK0 := Lib.hid K0
  clear K0
  cases h1 : decide (inT t) with
  | false =>
    rw [h1] at ht
    have HT := Lib.hid ht
    clear ht hn hr h1
    rw [Bool.false_and]
    go_enter Tryz.func92, Tryz.ntmps92
    go_wp2_with fail
    refine (HT.out _).mono ?_
    rintro e w1 ⟨rfl, rfl⟩
    go_wp2_with fail
    go_ret
    exact ⟨rfl, hbA⟩
  | true =>
    rw [h1] at ht
    have HT := Lib.hid ht
    clear ht h1
    rw [Bool.true_and]
    cases h2 : validRow xs with
    | false =>
      rw [h2] at hr
      have HR := Lib.hid hr
      clear hn hr h2
      rw [Bool.false_and]
      go_enter Tryz.func92, Tryz.ntmps92
      go_wp2_with fail
      refine (HT.out _).mono ?_
      rintro e w1 ⟨rfl, rfl⟩
      go_wp2_with fail
      refine HR.out.mono ?_
      rintro e w1 ⟨rfl, hb⟩
      go_wp2_with fail
      go_ret
      exact ⟨rfl, hbA.trans (hb.mono hbA.size)⟩
    | true =>
      rw [h2] at hr
      have HR := Lib.hid hr
      have HN := Lib.hid hn
      clear hn hr h2
      rw [Bool.true_and]
      go_enter Tryz.func92, Tryz.ntmps92
      go_wp2_with fail
      refine (HT.out _).mono ?_
      rintro e w1 ⟨rfl, rfl⟩
      go_wp2_with fail
      refine HR.out.mono ?_
      rintro e w1 ⟨rfl, hb⟩
      have K1 := HK0.out.belowV hb (by simp)
      have e1 := K1.cell 2
      simp only [List.getElem?_toArray, List.getElem?_cons_zero, List.getElem?_cons_succ] at e1
      clear K1
      go_wp2_with fail
      refine (HN.out _).mono ?_
      rintro e w2 ⟨rfl, rfl⟩
      go_wp2_with fail
      go_ret
      exact ⟨rfl, hbA.trans (hb.mono hbA.size)⟩

set_option maxRecDepth 100000 in
theorem refVC_any (t : Int) (r : RowV) (n : Int) (w : World) (hR : RowOK w r) :
    Calls Tryz.prog 97 #[nChg (t, r, n)] w (BelowB w (chgOK t r.2.1 n)) := by
  have hbA : Below w.heap.size w (w.alloc (oChg (t, r, n))) := (Below.refl _ _).alloc (Nat.le_refl _) _
  have K0 := Blk.new w 40 #[.int .i64 t, rowv r, .int .i64 n]
  have ht := fun W => refTime_any t W
  have hn := fun W => refWithin_any n (-1000000) 1000000 W
  have hr := refValid_any r.1 r.2.1 r.2.2 hR.1 (w.alloc (oChg (t, r, n))) (hR.belowV hbA).2
  obtain ⟨q, xs, qc⟩ := r
  dsimp only [rowv, nChg, oChg] at *
  unfold chgOK
  clear hR
  have HK0 := Lib.hid K0
  clear K0
  cases h1 : decide (inT t) with
  | false =>
    rw [h1] at ht
    have HT := Lib.hid ht
    clear ht hn hr h1
    rw [Bool.false_and]
    go_enter Tryz.func97, Tryz.ntmps97
    go_wp2_with fail
    refine (HT.out _).mono ?_
    rintro e w1 ⟨rfl, rfl⟩
    go_wp2_with fail
    go_ret
    exact ⟨rfl, hbA⟩
  | true =>
    rw [h1] at ht
    have HT := Lib.hid ht
    clear ht h1
    rw [Bool.true_and]
    cases h2 : validRow xs with
    | false =>
      rw [h2] at hr
      have HR := Lib.hid hr
      clear hn hr h2
      rw [Bool.false_and]
      go_enter Tryz.func97, Tryz.ntmps97
      go_wp2_with fail
      refine (HT.out _).mono ?_
      rintro e w1 ⟨rfl, rfl⟩
      go_wp2_with fail
      refine HR.out.mono ?_
      rintro e w1 ⟨rfl, hb⟩
      go_wp2_with fail
      go_ret
      exact ⟨rfl, hbA.trans (hb.mono hbA.size)⟩
    | true =>
      rw [h2] at hr
      have HR := Lib.hid hr
      rw [Bool.true_and]
      by_cases h0 : n = 0
      · have e : decide (inN n) = false := decide_eq_false fun h => h.1 h0
        have hd : (n != 0) = false := by rw [bne_eq_false_iff_eq]; exact h0
        rw [e]
        clear hn hr h2 e h0
        go_enter Tryz.func97, Tryz.ntmps97
        go_wp2_with fail
        refine (HT.out _).mono ?_
        rintro e w1 ⟨rfl, rfl⟩
        go_wp2_with fail
        refine HR.out.mono ?_
        rintro e w1 ⟨rfl, hb⟩
        have K1 := HK0.out.belowV hb (by simp)
        have e1 := K1.cell 2
        simp only [List.getElem?_toArray, List.getElem?_cons_zero, List.getElem?_cons_succ] at e1
        clear K1
        go_wp2_with fail
        go_ret
        exact ⟨rfl, hbA.trans (hb.mono hbA.size)⟩
      · have e : decide (inN n) = decide (-1000000 ≤ n ∧ n ≤ 1000000) := by simp [inN, h0]
        have hd : (n != 0) = true := by rw [bne_iff_ne]; exact h0
        rw [e]
        have HN := Lib.hid hn
        clear hn hr h2 e h0
        go_enter Tryz.func97, Tryz.ntmps97
        go_wp2_with fail
        refine (HT.out _).mono ?_
        rintro e w1 ⟨rfl, rfl⟩
        go_wp2_with fail
        refine HR.out.mono ?_
        rintro e w1 ⟨rfl, hb⟩
        have K1 := HK0.out.belowV hb (by simp)
        have e1 := K1.cell 2
        simp only [List.getElem?_toArray, List.getElem?_cons_zero, List.getElem?_cons_succ] at e1
        clear K1
        go_wp2_with fail
        refine (HN.out _).mono ?_
        rintro e w2 ⟨rfl, rfl⟩
        go_wp2_with fail
        go_ret
        exact ⟨by rw [Bool.decide_and] <;> rfl, hbA.trans (hb.mono hbA.size)⟩
end Go.Proofs.YthoimepdioeckaaGreatDoor
