/-
  Which parts package fold takes: bags of rows with so many values; one part.
-/
import Derived.Test.YtfoknllnknjccaaGreatMerge5
namespace Go.Proofs.YtfoknllnknjccaaGreat
open Go.RowKit

/-- Not of n values. -/
def othr (n : Int) (x : It) : Bool := decide ((x.1.length : Int) ≠ n)
def partOK (n : Int) (l : List It) : Bool := validBag l && !(l.any (othr n))
theorem othr_any (C : Nat) (r : ItR) (n : Int) (w : World) (b : Bool) (hb : othr n (itv r) = b) (hc : w.cell? ⟨C, 0, none⟩ = some (.int .i64 n)) (hC : C < w.heap.size) :
    Calls Tryz.prog 99 #[nItem r, .pointer (some ⟨C, 0, none⟩)] w (AgPost w b) := by
  have hbA : Below w.heap.size w (w.alloc (oItem r)) := below_new _ _
  have hc1 := (hbA.cell (p := ⟨C, 0, none⟩) hC).trans hc
  obtain ⟨⟨q, xs, qc⟩, m⟩ := r
  have hK := Blk.new w 53 #[.slice q xs.length qc, .int .i64 m]
  have c0 := hK.cell 0
  simp only [List.getElem?_toArray, List.getElem?_cons_zero] at c0
  dsimp only [rowv, itv, nItem, oItem, othr] at *
  have HB := Lib.hid hbA
  clear hK hbA hc
  cases b with
  | true =>
    have hd : ((xs.length : Int) != n) = true := by rw [bne_iff_ne]; exact of_decide_eq_true hb
    clear hb
    go_enter Tryz.func99, Tryz.ntmps99
    go_wp2_with fail
    go_ret
    exact ⟨rfl, HB.out⟩
  | false =>
    have hd : ((xs.length : Int) != n) = false := by rw [bne_eq_false_iff_eq]; have := of_decide_eq_false hb; omega
    clear hb
    go_enter Tryz.func99, Tryz.ntmps99
    go_wp2_with fail
    go_ret
    exact ⟨rfl, HB.out⟩

theorem othr_at {n : Int} {l : List It} {i : Nat} (hi : i < l.length) (h : othr n (l[i]?.getD it0) = true) : l.any (othr n) = true := by
  rw [List.any_eq_true]
  rw [List.getElem?_eq_getElem hi] at h
  exact ⟨l[i], List.getElem_mem hi, h⟩
theorem othr_none {n : Int} {l : List It} (h : ∀ k, k < l.length → othr n (l[k]?.getD it0) = false) : l.any (othr n) = false := by
  rw [List.any_eq_false]
  intro x hx
  obtain ⟨k, hk, rfl⟩ := List.mem_iff_getElem.1 hx
  have := h k hk
  rw [List.getElem?_eq_getElem hk] at this
  simpa using this

set_option maxRecDepth 100000 in
set_option maxHeartbeats 1000000 in
theorem indexOthr_any (C : Nat) (p : Option Addr) (rs : List ItR) (c : Nat) (n : Int) (hm : rs.length ≤ 9223372036854775807) (w : World) (hX : ItemsIn w p rs) (hc : w.cell? ⟨C, 0, none⟩ = some (.int .i64 n)) (hC : C < w.heap.size) :
    Calls Tryz.prog 94 #[.slice p rs.length c, .func (.func 99) #[] #[.pointer (some ⟨C, 0, none⟩)]] w (NegPost w ((vals rs).any (othr n))) := by
  have HX := Lib.hid hX
  have HCL := Lib.hid fun W (h : Below w.heap.size w W) r b (hb : othr n (itv r) = b) => othr_any C r n W b hb ((h.cell (p := ⟨C, 0, none⟩) hC).trans hc) (Nat.lt_of_lt_of_le hC h.size)
  clear hX hc hC
  go_enter Tryz.func94, Tryz.ntmps94
  go_wp2_with fail
  go_loopw [8] (fun s wr => ∃ i : Nat, i ≤ rs.length ∧ s = .int .i64 i ∧ Hid (∀ k, k < i → othr n (itv (rs[k]?.getD ir0)) = false) ∧ Below w.heap.size w wr) (fun s _ => rs.length - (intOf s).toNat)
  case atStart => exact ⟨0, Nat.zero_le _, rfl, (fun k hk => by omega), Below.refl _ _⟩
  case round =>
    obtain ⟨i, hi, rfl, hE, hB⟩ := hrel
    by_cases hlt : i < rs.length
    · obtain ⟨b, off, rfl, hbl, hra⟩ := HX.out (by omega)
      obtain ⟨c0, c1, _, _⟩ := (hra.belowV hB hbl) i hlt
      have hi0 : (0 : Int) ≤ (i : Int) := by omega
      have hi1 : (i : Int) < (rs.length : Int) := by omega
      clear hra
      cases hn : othr n (itv (rs[i]?.getD ir0)) with
      | false =>
        have HE := Lib.hid (show ∀ k, k < i + 1 → othr n (itv (rs[k]?.getD ir0)) = false from fun k hk => by
          by_cases hki : k = i
          · rw [hki]; exact hn
          · exact hE.out k (by omega))
        have HC := Lib.hid (HCL.out wr hB _ false hn)
        clear hE hn
        generalize (rs[i]?.getD ir0) = x at c0 c1 HC
        obtain ⟨⟨xq, xs, xc⟩, xn⟩ := x
        dsimp only [nItem, rowv] at *
        go_wp2_with fail
        refine HC.out.mono ?_
        rintro e w1 ⟨rfl, hb1⟩
        have hB4 := hB.trans (hb1.mono hB.size)
        go_wp2_with fail
        go_roundw
        case rel => exact ⟨i + 1, by omega, by go_num, HE.out, hB4⟩
        case measure => simp [intOf]; omega
      | true =>
        have HE := Lib.hid (show (vals rs).any (othr n) = true from othr_at (by rw [vals_len]; exact hlt) (by rw [vals_get]; exact hn))
        have HC := Lib.hid (HCL.out wr hB _ true hn)
        clear hE hn
        generalize (rs[i]?.getD ir0) = x at c0 c1 HC
        obtain ⟨⟨xq, xs, xc⟩, xn⟩ := x
        dsimp only [nItem, rowv] at *
        go_wp2_with fail
        refine HC.out.mono ?_
        rintro e w1 ⟨rfl, hb1⟩
        have hB4 := hB.trans (hb1.mono hB.size)
        go_wp2_with fail
        go_ret
        exact ⟨_, rfl, by rw [HE.out]; exact decide_eq_true hi0, hB4⟩
    · have hge : rs.length ≤ i := by omega
      have HE := Lib.hid (show (vals rs).any (othr n) = false from othr_none fun k hk => by rw [vals_get]; exact hE.out k (by rw [vals_len] at hk; omega))
      go_wp2_with fail
      go_ret
      exact ⟨_, rfl, by rw [HE.out]; decide, hB⟩

theorem containsOthr_any (C : Nat) (p : Option Addr) (rs : List ItR) (c : Nat) (n : Int) (hm : rs.length ≤ 9223372036854775807) (w : World) (hX : ItemsIn w p rs) (hc : w.cell? ⟨C, 0, none⟩ = some (.int .i64 n)) (hC : C < w.heap.size) :
    Calls Tryz.prog 73 #[.slice p rs.length c, .func (.func 99) #[] #[.pointer (some ⟨C, 0, none⟩)]] w (AgPost w ((vals rs).any (othr n))) := by
  have H := Lib.hid (indexOthr_any C p rs c n hm w hX hc hC)
  clear hX hc hC
  generalize (vals rs).any (othr n) = b at H ⊢
  go_enter Tryz.func73, Tryz.ntmps73
  go_wp2_with fail
  refine H.out.mono ?_
  rintro e w1 ⟨k, rfl, hk, hb⟩
  have HK := Lib.hid hk
  clear hk
  go_wp2_with fail
  go_ret
  exact ⟨by rw [← HK.out] <;> rfl, hb⟩

set_option maxRecDepth 100000 in
theorem wrong_any (C D : Nat) (p : Option Addr) (rs : List ItR) (c : Nat) (n : Int) (hm : rs.length ≤ 9223372036854775807) (hcc : rs.length ≤ c) (w : World) (hX : ItemsIn w p rs) (hc : w.cell? ⟨C, 0, none⟩ = some (.int .i64 n)) (hC : C < w.heap.size)
    (hd : w.cell? ⟨D, 0, none⟩ = some (.func (.func 99) #[] #[.pointer (some ⟨C, 0, none⟩)])) (hD : D < w.heap.size) :
    Calls Tryz.prog 100 #[.slice p rs.length c, .pointer (some ⟨D, 0, none⟩)] w (AgPost w (!(partOK n (vals rs)))) := by
  have hv := bagValid_any p rs c hm hcc w hX
  have HO := Lib.hid fun W (h : Below w.heap.size w W) => containsOthr_any C p rs c n hm W (hX.belowV h) ((h.cell (p := ⟨C, 0, none⟩) hC).trans hc) (Nat.lt_of_lt_of_le hC h.size)
  have HDC := Lib.hid fun W (h : Below w.heap.size w W) => (h.cell (p := ⟨D, 0, none⟩) hD).trans hd
  unfold partOK
  generalize (vals rs).any (othr n) = b at HO ⊢
  clear hX hc hC hd hD
  cases q : validBag (vals rs) with
  | false =>
    rw [q] at hv
    have HV := Lib.hid hv
    clear hv q
    go_enter Tryz.func100, Tryz.ntmps100
    go_wp2_with fail
    refine HV.out.mono ?_
    rintro e w1 ⟨rfl, hb1⟩
    go_wp2_with fail
    go_ret
    exact ⟨by cases b <;> rfl, hb1⟩
  | true =>
    rw [q] at hv
    have HV := Lib.hid hv
    clear hv q
    go_enter Tryz.func100, Tryz.ntmps100
    go_wp2_with fail
    refine HV.out.mono ?_
    rintro e w1 ⟨rfl, hb1⟩
    have d0 := HDC.out w1 hb1
    go_wp2_with fail
    refine (HO.out w1 hb1).mono ?_
    rintro e w2 ⟨rfl, hb2⟩
    have hB2 := hb1.trans (hb2.mono hb1.size)
    go_wp2_with fail
    go_ret
    exact ⟨by cases b <;> rfl, hB2⟩
end Go.Proofs.YtfoknllnknjccaaGreat
