/-
  slices.BinarySearchFunc with the closure of Add.
  Whether a row fits an accumulator, and whether a number is beyond; package fold.
-/
import Derived.Test.YtfoknllnknjccaaGreatFollows
import Derived.Test.YtfoknllnknjccaaGreatAccO
namespace Go.Proofs.YtfoknllnknjccaaGreat
open Go.RowKit

def cmpAt (rs : List ItR) (ys : List Val) (k : Nat) : Int := cmpRow (rs[k]?.getD ir0).1.2.1 ys

theorem cnt_mem {l : List It} (h : Up l) {x : It} (hx : x ∈ l) {r : List Val} (e : cmpRow x.1 r = 0) : cnt l r = x.2 := by
  induction l with
  | nil => cases hx
  | cons y l ih =>
    rw [cnt]
    rcases List.mem_cons.1 hx with rfl | hx
    · rw [if_pos e]
    · have h1 := up_head h hx
      have h2 := cmp_lt_eq h1 e
      rw [if_neg (by omega), ih (up_tail h) hx]
theorem up_lt {l : List It} (h : Up l) {i j : Nat} (hij : i < j) (hj : j < l.length) : cmpRow (l[i]?.getD it0).1 (l[j]?.getD it0).1 < 0 := by
  have := List.pairwise_iff_getElem.1 h i j (by omega) hj hij
  rw [List.getElem?_eq_getElem hj, List.getElem?_eq_getElem (by omega)]
  exact this
theorem up_le {l : List It} (h : Up l) {i j : Nat} (hij : i ≤ j) (hj : j < l.length) : cmpRow (l[i]?.getD it0).1 (l[j]?.getD it0).1 ≤ 0 := by
  by_cases e : i = j
  · rw [e, cmpRow_ok.refl]; omega
  · have := up_lt h (show i < j by omega) hj; omega
theorem cnt_absent {l : List It} (h : Up l) {r : List Val} {i : Nat} (hi : i ≤ l.length) (h1 : i = 0 ∨ cmpRow (l[i - 1]?.getD it0).1 r < 0) (h2 : i = l.length ∨ 0 < cmpRow (l[i]?.getD it0).1 r) : cnt l r = 0 := by
  refine cnt_none fun x hx => ?_
  obtain ⟨k, hk, rfl⟩ := List.mem_iff_getElem.1 hx
  have hg : l[k] = l[k]?.getD it0 := by rw [List.getElem?_eq_getElem hk]; rfl
  rw [hg]
  by_cases hki : k < i
  · have h1 : cmpRow (l[i - 1]?.getD it0).1 r < 0 := h1.resolve_left (by omega)
    have ht := cmpRow_ok.trans _ _ r (up_le h (show k ≤ i - 1 by omega) (by omega)) (by omega)
    intro e
    have := (ht.2 e).2
    omega
  · have h2 : 0 < cmpRow (l[i]?.getD it0).1 r := h2.resolve_left (by omega)
    have a1 := cmpRow_ok.anti (l[i]?.getD it0).1 r
    have ht := cmpRow_ok.trans r _ _ (by omega) (up_le h (show i ≤ k by omega) hk)
    intro e
    have a2 := cmpRow_ok.anti (l[k]?.getD it0).1 r
    have := (ht.2 (by omega)).1
    omega
theorem cnt_found {l : List It} (h : Up l) {r : List Val} {i : Nat} (hi : i < l.length) (e : cmpRow (l[i]?.getD it0).1 r = 0) : cnt l r = (l[i]?.getD it0).2 := by
  rw [List.getElem?_eq_getElem hi] at e ⊢
  exact cnt_mem h (List.getElem_mem hi) e

theorem cmpItem_any (r : ItR) (q : Option Addr) (ys : List Val) (c : Nat) (hmy : ys.length ≤ 9223372036854775807) (w : World) (hR : RowOK w r.1) (hY : ValsIn w q ys) :
    Calls Tryz.prog 36 #[nItem r, .slice q ys.length c] w (BelowInt w (cmpRow r.1.2.1 ys)) := by
  have hbA : Below w.heap.size w (w.alloc (oItem r)) := (Below.refl _ _).alloc (Nat.le_refl _) _
  have H := Lib.hid (rowCompare_any r.1.1 q r.1.2.1 ys r.1.2.2 c hR.1 hmy (w.alloc (oItem r)) (hR.belowV hbA).2 (hY.belowV hbA))
  clear hR hY
  obtain ⟨⟨xq, xs, xc⟩, xn⟩ := r
  dsimp only [nItem, oItem, rowv] at *
  generalize cmpRow xs ys = cv at H ⊢
  go_enter Tryz.func36, Tryz.ntmps36
  go_wp2_with fail
  refine H.out.mono ?_
  rintro e w1 ⟨rfl, hb⟩
  go_wp2_with fail
  go_ret
  exact ⟨rfl, hbA.trans (hb.mono hbA.size)⟩

def BinPost (w : World) (rs : List ItR) (ys : List Val) (e : Ending) (w' : World) : Prop :=
  ∃ (i : Nat) (f : Bool), e = .returned (.tuple #[.int .i64 i, .bool f]) ∧ i ≤ rs.length ∧ (i = 0 ∨ cmpAt rs ys (i - 1) < 0) ∧ (f = true → i < rs.length ∧ cmpAt rs ys i = 0) ∧ (f = false → i = rs.length ∨ 0 < cmpAt rs ys i) ∧ Below w.heap.size w w'

set_option maxRecDepth 100000 in
set_option maxHeartbeats 1000000 in
theorem search_any (p q : Option Addr) (rs : List ItR) (cap : Nat) (ys : List Val) (c : Nat) (hm : rs.length ≤ 1000000) (hmy : ys.length ≤ 9223372036854775807) (w : World) (hX : ItemsIn w p rs) (hY : ValsIn w q ys) :
    Calls Tryz.prog 35 #[.slice p rs.length cap, .slice q ys.length c, .func (.func 36) #[] #[]] w (BinPost w rs ys) := by
  have HX := Lib.hid hX
  have HY := Lib.hid hY
  clear hX hY
  go_enter Tryz.func35, Tryz.ntmps35
  go_wp2_with fail
  go_loopw [9, 10] (fun s t wr => ∃ i j : Nat, s = .int .i64 i ∧ t = .int .i64 j ∧ i ≤ j ∧ j ≤ rs.length ∧ Hid (i = 0 ∨ cmpAt rs ys (i - 1) < 0) ∧ Hid (j = rs.length ∨ 0 ≤ cmpAt rs ys j) ∧ Below w.heap.size w wr) (fun s t _ => (intOf t).toNat - (intOf s).toNat)
  case atStart => exact ⟨0, rs.length, rfl, rfl, Nat.zero_le _, Nat.le_refl _, .inl rfl, .inl rfl, Below.refl _ _⟩
  case round =>
    obtain ⟨i, j, rfl, rfl, hij, hj, h1, h2, hB⟩ := hrel
    by_cases hlt : i < j
    · obtain ⟨m, hmd⟩ : ∃ m : Nat, m = (i + j) / 2 := ⟨_, rfl⟩
      have hmj : m < j := by omega
      have hmi : i ≤ m := by omega
      obtain ⟨b, off, rfl, hbl, hra⟩ := HX.out (by omega)
      obtain ⟨c0, c1, c2, _⟩ := (hra.belowV hB hbl) m (by omega)
      have hq0 : ((i : Int) + (j : Int)) / 2 = (m : Int) := by omega
      have hm0 : (0 : Int) ≤ (m : Int) := by omega
      have hm1 : (m : Int) < (rs.length : Int) := by omega
      have HC := Lib.hid (cmpItem_any (rs[m]?.getD ir0) q ys c hmy wr c2 (HY.out.belowV hB))
      have hcv : cmpRow (rs[m]?.getD ir0).1.2.1 ys = cmpAt rs ys m := rfl
      rw [hcv] at HC
      obtain ⟨cv, hcv2⟩ : ∃ cv, cv = cmpAt rs ys m := ⟨_, rfl⟩
      rw [← hcv2] at HC
      have HCV := Lib.hid hcv2
      clear hra c2 hcv hcv2
      generalize (rs[m]?.getD ir0) = x at c0 c1 HC
      obtain ⟨⟨xq, xs, xc⟩, xn⟩ := x
      dsimp only [nItem, rowv] at *
      clear hmd
      by_cases hneg : cv < 0
      · go_wp2_with fail
        refine HC.out.mono ?_
        rintro e w1 ⟨rfl, hb1⟩
        have hB4 := hB.trans (hb1.mono hB.size)
        go_wp2_with fail
        go_roundw
        case rel => exact ⟨m + 1, j, by go_num, rfl, by omega, hj, .inr (by rw [Nat.add_sub_cancel, ← HCV.out]; exact hneg), h2, hB4⟩
        case measure => simp [intOf]; omega
      · have hneg2 : decide (cv < 0) = false := decide_eq_false hneg
        go_wp2_with fail
        refine HC.out.mono ?_
        rintro e w1 ⟨rfl, hb1⟩
        have hB4 := hB.trans (hb1.mono hB.size)
        go_wp2_with fail
        go_roundw
        case rel => exact ⟨i, m, rfl, rfl, by omega, by omega, h1, .inr (by rw [← HCV.out]; omega), hB4⟩
        case measure => simp [intOf]; omega
    · have hijE : i = j := by omega
      subst hijE
      have hge : (i : Int) ≤ (i : Int) := Int.le_refl _
      clear hij hlt
      by_cases hil : i < rs.length
      · obtain ⟨b, off, rfl, hbl, hra⟩ := HX.out (by omega)
        obtain ⟨c0, c1, c2, _⟩ := (hra.belowV hB hbl) i hil
        have hi0 : (0 : Int) ≤ (i : Int) := by omega
        have hi1 : (i : Int) < (rs.length : Int) := by omega
        have HC := Lib.hid (cmpItem_any (rs[i]?.getD ir0) q ys c hmy wr c2 (HY.out.belowV hB))
        have hcv : cmpRow (rs[i]?.getD ir0).1.2.1 ys = cmpAt rs ys i := rfl
        rw [hcv] at HC
        have h3 : 0 ≤ cmpAt rs ys i := h2.out.resolve_left (by omega)
        obtain ⟨cv, hcv2⟩ : ∃ cv, cv = cmpAt rs ys i := ⟨_, rfl⟩
        rw [← hcv2] at HC
        have HF := Lib.hid (show ∀ f : Bool, f = (cv == 0) → (f = true → i < rs.length ∧ cmpAt rs ys i = 0) ∧ (f = false → i = rs.length ∨ 0 < cmpAt rs ys i) from fun f hf => by
          refine ⟨fun e => ⟨hil, ?_⟩, fun e => .inr ?_⟩
          · rw [e] at hf; rw [← hcv2]; exact beq_iff_eq.1 hf.symm
          · rw [e] at hf; have := beq_eq_false_iff_ne.1 hf.symm; omega)
        clear hra c2 hcv h3 h2 hcv2
        generalize (rs[i]?.getD ir0) = x at c0 c1 HC
        obtain ⟨⟨xq, xs, xc⟩, xn⟩ := x
        dsimp only [nItem, rowv] at *
        go_wp2_with fail
        refine HC.out.mono ?_
        rintro e w1 ⟨rfl, hb1⟩
        have hB4 := hB.trans (hb1.mono hB.size)
        go_wp2_with fail
        go_ret2
        exact ⟨i, _, rfl, hj, h1.out, (HF.out _ rfl).1, (HF.out _ rfl).2, hB4⟩
      · have hge2 : rs.length ≤ i := by omega
        go_wp2_with fail
        go_ret2
        exact ⟨i, false, rfl, hj, h1.out, (fun h => by cases h), fun _ => .inl (by omega), hB⟩

end Go.Proofs.YtfoknllnknjccaaGreat

namespace Go.Proofs.YtfoknllnknjccaaGreat
open Go.RowKit Go.Lib

def fitsR (n : Int) (xs : List Val) : Bool := validRow xs && decide ((xs.length : Int) = n)
set_option maxRecDepth 100000 in
theorem fitsRow_any (p q : Option Addr) (gs : List Ag) (c d : Nat) (n : Int) (xs : List Val) (w : World) (hX : ValsIn w q xs) :
    Calls Tryz.prog 33 #[.agg #[.slice p gs.length c, .int .i64 n], .slice q xs.length d] w (BelowB w (fitsR n xs)) := by
  have b1 : Below w.heap.size w (w.alloc (.cells #[.slice p gs.length c, .int .i64 n] 64)) := below_new _ _
  have k1 := Blk.new w 64 #[.slice p gs.length c, .int .i64 n]
  have hv := rowValid_any q xs d _ (hX.belowV b1)
  have HK := Lib.hid fun W (h : Below (w.alloc (.cells #[.slice p gs.length c, .int .i64 n] 64)).heap.size (w.alloc (.cells #[.slice p gs.length c, .int .i64 n] 64)) W) => (show W.cell? ⟨w.heap.size, 1, none⟩ = some (.int .i64 n) from (k1.belowV h (by simp)).cell 1)
  have HB := Lib.hid b1
  unfold fitsR
  cases q1 : validRow xs with
  | false =>
    rw [q1] at hv
    have HV := Lib.hid hv
    clear hv k1 b1 hX q1
    go_enter Tryz.func33, Tryz.ntmps33
    go_wp2_with fail
    refine HV.out.mono ?_
    rintro e w1 ⟨rfl, hb1⟩
    have hB4 := HB.out.trans (hb1.mono HB.out.size)
    clear hb1
    go_wp2_with fail
    go_ret
    exact ⟨rfl, hB4⟩
  | true =>
    rw [q1] at hv
    have HV := Lib.hid hv
    rw [Bool.true_and]
    have hd : decide ((xs.length : Int) = n) = ((xs.length : Int) == n) := rfl
    rw [hd]
    clear hv k1 b1 hX q1 hd
    go_enter Tryz.func33, Tryz.ntmps33
    go_wp2_with fail
    refine HV.out.mono ?_
    rintro e w1 ⟨rfl, hb1⟩
    have hB4 := HB.out.trans (hb1.mono HB.out.size)
    have hc := HK.out _ hb1
    clear hb1
    go_wp2_with fail
    go_ret
    exact ⟨rfl, hB4⟩
def far (k : Int) : Bool := decide (k < -1000000) || decide (1000000 < k)
theorem beyond_any (k : Int) (w : World) : Calls Tryz.prog 34 #[.int .i64 k] w fun e w' => e = .returned (.bool (far k)) ∧ w = w' := by
  unfold far
  by_cases h : k < -1000000
  · rw [decide_eq_true h]
    go_enter Tryz.func34, Tryz.ntmps34
    go_wp2_with fail
    go_ret
    exact ⟨rfl, rfl⟩
  · rw [decide_eq_false h]
    have h' : decide (k < -1000000) = false := decide_eq_false h
    rw [Bool.false_or]
    go_enter Tryz.func34, Tryz.ntmps34
    go_wp2_with fail
    go_ret
    exact ⟨rfl, rfl⟩
end Go.Proofs.YtfoknllnknjccaaGreat
