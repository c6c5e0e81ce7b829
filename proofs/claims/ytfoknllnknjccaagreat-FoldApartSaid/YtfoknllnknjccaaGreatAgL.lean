/-
  Which lists of aggregates are valid, in both packages; a list of one's own.
-/
import Derived.Test.YtfoknllnknjccaaGreatAgV
import Derived.Laws.OwnMore
namespace Go.Proofs.YtfoknllnknjccaaGreat
open Go.RowKit

def validL (n : Int) (gs : List Ag) : Bool := decide (1 ≤ gs.length ∧ gs.length ≤ 8) && gs.all (aggOK n)

set_option maxRecDepth 100000 in
theorem validFn_any (B : Nat) (a : Ag) (n : Int) (w : World) (b : Bool) (hb : aggOK n a = b) (hc : w.cell? ⟨B, 0, none⟩ = some (.int .i64 n)) (hB : B < w.heap.size) :
    Calls Tryz.prog 58 #[nAg a, .pointer (some ⟨B, 0, none⟩)] w (AgPost w (!b)) := by
  have hbA : Below w.heap.size w (w.alloc (oAg a)) := below_new _ _
  have hc1 := (hbA.cell (p := ⟨B, 0, none⟩) hB).trans hc
  have hK := Blk.new w 59 #[.int .i64 a.1, .int .i64 a.2]
  have c0 := hK.cell 0
  have c1 := hK.cell 1
  simp only [List.getElem?_toArray, List.getElem?_cons_zero, List.getElem?_cons_succ] at c0 c1
  have hv := fun W => validAgg_any a n W
  rw [hb] at hv
  have HV := Lib.hid hv
  have HB := Lib.hid hbA
  clear hK hbA hc hv hb
  obtain ⟨k, c⟩ := a
  dsimp only [oAg] at *
  go_enter Tryz.func58, Tryz.ntmps58
  go_wp2_with fail
  refine (HV.out _).mono ?_
  rintro e w1 ⟨rfl, hb1⟩
  have hB4 := HB.out.trans (hb1.mono HB.out.size)
  go_wp2_with fail
  go_ret
  exact ⟨by cases b <;> rfl, hB4⟩

theorem anyBad_at {n : Int} {l : List Ag} {i : Nat} (hi : i < l.length) (h : aggOK n (l[i]?.getD ag0) = false) : l.all (aggOK n) = false := by
  rw [List.all_eq_false]
  rw [List.getElem?_eq_getElem hi] at h
  exact ⟨l[i], List.getElem_mem hi, by simpa using h⟩
theorem allGood {n : Int} {l : List Ag} (h : ∀ k, k < l.length → aggOK n (l[k]?.getD ag0) = true) : l.all (aggOK n) = true := by
  rw [List.all_eq_true]
  intro x hx
  obtain ⟨k, hk, rfl⟩ := List.mem_iff_getElem.1 hx
  have := h k hk
  rw [List.getElem?_eq_getElem hk] at this
  exact this
/-- Where one is not valid the index is not below 0. -/
def BadPost (w : World) (b : Bool) (e : Ending) (w' : World) : Prop := ∃ k : Int, e = .returned (.int .i64 k) ∧ decide (0 ≤ k) = !b ∧ Below w.heap.size w w'

set_option maxRecDepth 100000 in
set_option maxHeartbeats 1000000 in
theorem indexBad_any (B : Nat) (p : Option Addr) (gs : List Ag) (c : Nat) (n : Int) (hm : gs.length ≤ 9223372036854775807) (w : World) (hX : AggsIn w p gs) (hc : w.cell? ⟨B, 0, none⟩ = some (.int .i64 n)) (hB : B < w.heap.size) :
    Calls Tryz.prog 81 #[.slice p gs.length c, .func (.func 58) #[] #[.pointer (some ⟨B, 0, none⟩)]] w (BadPost w (gs.all (aggOK n))) := by
  have HX := Lib.hid hX
  have HCL := Lib.hid fun W (h : Below w.heap.size w W) a b (hb : aggOK n a = b) => validFn_any B a n W b hb ((h.cell (p := ⟨B, 0, none⟩) hB).trans hc) (Nat.lt_of_lt_of_le hB h.size)
  clear hX hc hB
  go_enter Tryz.func81, Tryz.ntmps81
  go_wp2_with fail
  go_loopw [8] (fun s wr => ∃ i : Nat, i ≤ gs.length ∧ s = .int .i64 i ∧ Hid (∀ k, k < i → aggOK n (gs[k]?.getD ag0) = true) ∧ Below w.heap.size w wr) (fun s _ => gs.length - (intOf s).toNat)
  case atStart => exact ⟨0, Nat.zero_le _, rfl, (fun k hk => by omega), Below.refl _ _⟩
  case round =>
    obtain ⟨i, hi, rfl, hE, hB⟩ := hrel
    by_cases hlt : i < gs.length
    · obtain ⟨b, off, rfl, hbl, hra⟩ := HX.out (by omega)
      obtain ⟨c0, c1⟩ := (hra.belowV hB hbl) i hlt
      have hi0 : (0 : Int) ≤ (i : Int) := by omega
      have hi1 : (i : Int) < (gs.length : Int) := by omega
      clear hra
      cases hn : aggOK n (gs[i]?.getD ag0) with
      | true =>
        have HE := Lib.hid (show ∀ k, k < i + 1 → aggOK n (gs[k]?.getD ag0) = true from fun k hk => by
          by_cases hki : k = i
          · rw [hki]; exact hn
          · exact hE.out k (by omega))
        have HC := Lib.hid (HCL.out wr hB _ true hn)
        clear hE hn
        generalize (gs[i]?.getD ag0) = x at c0 c1 HC
        obtain ⟨k, m⟩ := x
        dsimp only [nAg] at *
        go_wp2_with fail
        refine HC.out.mono ?_
        rintro e w1 ⟨rfl, hb1⟩
        have hB4 := hB.trans (hb1.mono hB.size)
        go_wp2_with fail
        go_roundw
        case rel => exact ⟨i + 1, by omega, by go_num, HE.out, hB4⟩
        case measure => simp [intOf]; omega
      | false =>
        have HE := Lib.hid (anyBad_at hlt hn)
        have HC := Lib.hid (HCL.out wr hB _ false hn)
        clear hE hn
        generalize (gs[i]?.getD ag0) = x at c0 c1 HC
        obtain ⟨k, m⟩ := x
        dsimp only [nAg] at *
        go_wp2_with fail
        refine HC.out.mono ?_
        rintro e w1 ⟨rfl, hb1⟩
        have hB4 := hB.trans (hb1.mono hB.size)
        go_wp2_with fail
        go_ret
        exact ⟨_, rfl, by rw [HE.out]; exact decide_eq_true hi0, hB4⟩
    · have hge : gs.length ≤ i := by omega
      have HE := Lib.hid (allGood (n := n) (l := gs) fun k hk => hE.out k (by omega))
      go_wp2_with fail
      go_ret
      exact ⟨_, rfl, by rw [HE.out]; decide, hB⟩

theorem containsBad_any (B : Nat) (p : Option Addr) (gs : List Ag) (c : Nat) (n : Int) (hm : gs.length ≤ 9223372036854775807) (w : World) (hX : AggsIn w p gs) (hc : w.cell? ⟨B, 0, none⟩ = some (.int .i64 n)) (hB : B < w.heap.size) :
    Calls Tryz.prog 57 #[.slice p gs.length c, .func (.func 58) #[] #[.pointer (some ⟨B, 0, none⟩)]] w (AgPost w (!(gs.all (aggOK n)))) := by
  have H := Lib.hid (indexBad_any B p gs c n hm w hX hc hB)
  clear hX hc hB
  generalize gs.all (aggOK n) = b at H ⊢
  go_enter Tryz.func57, Tryz.ntmps57
  go_wp2_with fail
  refine H.out.mono ?_
  rintro e w1 ⟨k, rfl, hk, hb⟩
  have HK := Lib.hid hk
  clear hk
  go_wp2_with fail
  go_ret
  exact ⟨by rw [← HK.out] <;> rfl, hb⟩

set_option maxRecDepth 100000 in
theorem foldValid_any (p : Option Addr) (gs : List Ag) (c : Nat) (n : Int) (hm : gs.length ≤ 9223372036854775807) (w : World) (hX : AggsIn w p gs) :
    Calls Tryz.prog 28 #[.slice p gs.length c, .int .i64 n] w (AgPost w (validL n gs)) := by
  have hbA : Below w.heap.size w (w.alloc (.cells #[.int .i64 n] 3)) := below_new _ _
  have hC := Lib.hid (containsBad_any w.heap.size p gs c n hm _ (hX.belowV hbA) ((Blk.new w 3 #[.int .i64 n]).cell 0) (by simp))
  have HB := Lib.hid hbA
  unfold validL
  clear hX hbA
  by_cases h0 : gs.length = 0
  · have hz : ((gs.length : Int) == 0) = true := by rw [beq_iff_eq]; omega
    rw [decide_eq_false (by omega), Bool.false_and]
    clear h0
    go_enter Tryz.func28, Tryz.ntmps28
    go_wp2_with fail
    go_ret
    exact ⟨rfl, HB.out⟩
  · have hz : ((gs.length : Int) == 0) = false := by rw [beq_eq_false_iff_ne]; omega
    by_cases h8 : 8 < gs.length
    · have h8' : (8 : Int) < (gs.length : Int) := by omega
      rw [decide_eq_false (by omega), Bool.false_and]
      clear h0
      go_enter Tryz.func28, Tryz.ntmps28
      go_wp2_with fail
      go_ret
      exact ⟨rfl, HB.out⟩
    · have h8' : (gs.length : Int) ≤ 8 := by omega
      rw [decide_eq_true (by omega), Bool.true_and]
      generalize gs.all (aggOK n) = b at hC ⊢
      clear h0 h8
      go_enter Tryz.func28, Tryz.ntmps28
      go_wp2_with fail
      refine hC.out.mono ?_
      rintro e w1 ⟨rfl, hb1⟩
      have hB4 := HB.out.trans (hb1.mono HB.out.size)
      go_wp2_with fail
      go_ret
      exact ⟨by cases b <;> rfl, hB4⟩

set_option maxRecDepth 100000 in
set_option maxHeartbeats 1000000 in
theorem refValidL_any (p : Option Addr) (gs : List Ag) (c : Nat) (n : Int) (hm : gs.length ≤ 9223372036854775807) (w : World) (hX : AggsIn w p gs) :
    Calls Tryz.prog 30 #[.slice p gs.length c, .int .i64 n] w (AgPost w (validL n gs)) := by
  have HX := Lib.hid hX
  have HV := Lib.hid fun a W => refValidAgg_any a n W
  have HW := Lib.hid fun W => within5_any (gs.length : Int) 1 8 W
  clear hX
  go_enter Tryz.func30, Tryz.ntmps30
  go_wp2_with fail
  go_loopw [5] (fun s wr => ∃ i : Nat, i ≤ gs.length ∧ s = .int .i64 i ∧ Hid (∀ k, k < i → aggOK n (gs[k]?.getD ag0) = true) ∧ Below w.heap.size w wr) (fun s _ => gs.length - (intOf s).toNat)
  case atStart => exact ⟨0, Nat.zero_le _, rfl, (fun k hk => by omega), Below.refl _ _⟩
  case round =>
    obtain ⟨i, hi, rfl, hE, hB⟩ := hrel
    by_cases hlt : i < gs.length
    · obtain ⟨b, off, rfl, hbl, hra⟩ := HX.out (by omega)
      obtain ⟨c0, c1⟩ := (hra.belowV hB hbl) i hlt
      have hi0 : (0 : Int) ≤ (i : Int) := by omega
      have hi1 : (i : Int) < (gs.length : Int) := by omega
      have hv := HV.out (gs[i]?.getD ag0) wr
      clear hra
      cases hn : aggOK n (gs[i]?.getD ag0) with
      | true =>
        have HE := Lib.hid (show ∀ k, k < i + 1 → aggOK n (gs[k]?.getD ag0) = true from fun k hk => by
          by_cases hki : k = i
          · rw [hki]; exact hn
          · exact hE.out k (by omega))
        rw [hn] at hv
        have HC := Lib.hid hv
        clear hE hn hv
        generalize (gs[i]?.getD ag0) = x at c0 c1 HC
        obtain ⟨k, m⟩ := x
        dsimp only [nAg] at *
        go_wp2_with fail
        refine HC.out.mono ?_
        rintro e w1 ⟨rfl, hb1⟩
        have hB4 := hB.trans (hb1.mono hB.size)
        go_wp2_with fail
        go_roundw
        case rel => exact ⟨i + 1, by omega, by go_num, HE.out, hB4⟩
        case measure => simp [intOf]; omega
      | false =>
        have HE := Lib.hid (anyBad_at hlt hn)
        rw [hn] at hv
        have HC := Lib.hid hv
        clear hE hn hv
        generalize (gs[i]?.getD ag0) = x at c0 c1 HC
        obtain ⟨k, m⟩ := x
        dsimp only [nAg] at *
        go_wp2_with fail
        refine HC.out.mono ?_
        rintro e w1 ⟨rfl, hb1⟩
        have hB4 := hB.trans (hb1.mono hB.size)
        go_wp2_with fail
        go_ret
        exact ⟨retB (by unfold validL; rw [HE.out, Bool.and_false]), hB4⟩
    · have hge : gs.length ≤ i := by omega
      have HE := Lib.hid (allGood (n := n) (l := gs) fun k hk => hE.out k (by omega))
      go_wp2_with fail
      refine (HW.out _).mono ?_
      rintro e w1 ⟨rfl, rfl⟩
      go_wp2_with fail
      go_ret
      exact ⟨retB (by unfold validL; rw [HE.out, Bool.and_true, ← Bool.decide_and]; exact decide_eq_decide.2 (by omega)), hB⟩
end Go.Proofs.YtfoknllnknjccaaGreat
