/-
  The reader of package row at any text: quoted.
-/
import Derived.Test.YtmjobnakaamlpaaDoorRo
namespace Go.Proofs.YtmjobnakaamlpaaDoor
open Go.RowKit Go.Lib
set_option linter.unusedSimpArgs false
set_option linter.unusedVariables false

/-- A value is read, or none; what is left is no longer; where one is read, shorter. -/
def ValPost (w : World) (R k : Nat) (e : Ending) (w' : World) : Prop := ∃ (x0 x1 : Int) (x2 : ByteArray) (b : Bool) (t' : List UInt8), e = .returned (.tuple #[.agg #[.int .i64 x0, .int .i64 x1, .string x2], .bool b]) ∧ Rdr w' R t' ∧ t'.length ≤ k ∧ (b = true → t'.length < k) ∧ Grew w R w'
def restLen (W : World) (R : Nat) : Nat := match W.cell? ⟨R, 0, none⟩ with
  | some (.string s) => s.size
  | _ => 0
theorem rest_len_of {W : World} {R : Nat} {t : List UInt8} (h : Rdr W R t) : restLen W R = t.length := by
  have c0 : W.cell? ⟨R, 0, none⟩ = some (.string (bs t)) := Blk.cell h 0
  unfold restLen
  rw [c0]
  exact bs_size t

set_option maxRecDepth 100000 in
set_option maxHeartbeats 2000000 in
theorem quoted_any (R B : Nat) (t : List UInt8) (hl : t.length ≤ 70000) (w : World) (h : Rdr w R t) (hE : Env B w) (hB : B ≤ R) :
    Calls Tryd.prog 35 #[.pointer (some ⟨R, 0, none⟩)] w (ValPost w R t.length) := by
  obtain ⟨i0, hi, hz0, hz1, hz2⟩ := info_parts infoB
  have hRl : R < w.heap.size := Blk.lt h
  have hb1 : Below w.heap.size w (w.alloc (.cells #[.int .i64 0, .int .i64 0, .string ⟨#[]⟩] 37)) := (Below.refl _ _).alloc (Nat.le_refl _) _
  have h1 := h.belowV hb1
  have hk1 : Blk (w.alloc (.cells #[.int .i64 0, .int .i64 0, .string ⟨#[]⟩] 37)) w.heap.size 37 #[.int .i64 0, .int .i64 0, .string ⟨#[]⟩] := Blk.new _ _ _
  have hs1 : (w.alloc (.cells #[.int .i64 0, .int .i64 0, .string ⟨#[]⟩] 37)).heap.size = w.heap.size + 1 := by simp
  have hg1 := grew_below R hb1
  generalize hw1 : w.alloc (.cells #[.int .i64 0, .int .i64 0, .string ⟨#[]⟩] 37) = w1 at h1 hk1 hs1 hg1
  have HT := take_any R t [34] w1 h1
  unfold bs at HT
  simp only [List.toArray] at HT
  have HK1 := Lib.hid (And.intro hk1 hg1)
  have HTK := Lib.hid fun W t (h : Rdr W R t) => take_any R t [34] W h
  unfold bs at HTK
  simp only [List.toArray] at HTK
  have HCH := Lib.hid fun W r' (hr : r'.length ≤ 70000) (h : Rdr W R r') (k : Below B w W) => char_any R B r' hr W h (hE.on k) hB
  clear h h1 hk1 hg1 hb1 hE
  cases hp : Lib.hasPrefix t [34] with
  | false =>
    rw [hp, trim_no hp] at HT
    have HT := Lib.hid HT
    clear HTK HCH hp
    go_enter Tryd.func35, Tryd.ntmps35
    go_wp2_with fail
    refine HT.out.mono ?_
    rintro e w3 ⟨rfl, r3, k3⟩
    have HG3 := Lib.hid (HK1.out.2.and k3)
    have HK3 := Lib.hid (HK1.out.1.keepG k3 (by simp only [ne_eq, Option.some.injEq]; omega))
    have HR3 := Lib.hid r3
    have hk3 := HK3.out
    have c0 := hk3.cell 0
    have c1 := hk3.cell 1
    have c2 := hk3.cell 2
    have f0 := hk3.froz 0
    have f1 := hk3.froz 1
    have f2 := hk3.froz 2
    simp only [List.getElem?_toArray, List.getElem?_cons_zero, List.getElem?_cons_succ] at c0 c1 c2
    clear r3 k3 hk3 HT HK1
    have HF := Lib.hid (show Rdr (((w3.setCell ⟨w.heap.size, 0, none⟩ (.int .i64 0)).setCell ⟨w.heap.size, 1, none⟩ (.int .i64 0)).setCell ⟨w.heap.size, 2, none⟩ (.string ⟨#[]⟩)) R t ∧ Grew w R (((w3.setCell ⟨w.heap.size, 0, none⟩ (.int .i64 0)).setCell ⟨w.heap.size, 1, none⟩ (.int .i64 0)).setCell ⟨w.heap.size, 2, none⟩ (.string ⟨#[]⟩)) ∧ Blk (((w3.setCell ⟨w.heap.size, 0, none⟩ (.int .i64 0)).setCell ⟨w.heap.size, 1, none⟩ (.int .i64 0)).setCell ⟨w.heap.size, 2, none⟩ (.string ⟨#[]⟩)) w.heap.size 37 #[.int .i64 0, .int .i64 0, .string ⟨#[]⟩] from
      ⟨Blk.setOther (Blk.setOther (Blk.setOther HR3.out (by omega) _) (by omega) _) (by omega) _, grew_low HG3.out (((Below.refl w.heap.size w3).setCell (p := ⟨w.heap.size, 0, none⟩) (Nat.le_refl _) _).setCell (p := ⟨w.heap.size, 1, none⟩) (Nat.le_refl _) _ |>.setCell (p := ⟨w.heap.size, 2, none⟩) (Nat.le_refl _) _) (Nat.le_refl _), ((HK3.out.setG 0 _).setG 1 _).setG 2 _⟩)
    go_wp2_with fail
    have r0 := HF.out.2.2.cell 0
    have r1 := HF.out.2.2.cell 1
    have r2 := HF.out.2.2.cell 2
    simp only [List.getElem?_toArray, List.getElem?_cons_zero, List.getElem?_cons_succ] at r0 r1 r2
    refine bodyPost_ret (v := .tuple #[.agg #[.int .i64 0, .int .i64 0, .string ⟨#[]⟩], .bool false]) (by simp [results, Tryd.f35, go_sem, r0, r1, r2]) rfl ?_
    exact ⟨0, 0, ⟨#[]⟩, false, t, rfl, HF.out.1, Nat.le_refl _, fun h => (by cases h), HF.out.2.1⟩
  | true =>
    have HL := Lib.hid (trim_less hp (by decide))
    rw [hp] at HT
    have HT := Lib.hid HT
    clear hp
    have HLL := Lib.hid hl
    generalize t.length = T at HL hl HLL ⊢
    generalize Lib.trimPrefix t [34] = t1 at HT HL
    go_enter Tryd.func35, Tryd.ntmps35
    go_wp2_with fail
    refine HT.out.mono ?_
    rintro e w2 ⟨rfl, r2, k2⟩
    have HR2 := Lib.hid r2
    have HG2 := Lib.hid (HK1.out.2.and k2)
    have HK2 := Lib.hid (HK1.out.1.keepG k2 (by simp only [ne_eq, Option.some.injEq]; omega))
    have hs2 : w.heap.size + 1 ≤ w2.heap.size := by have := k2.size; omega
    clear r2 k2 HT HK1 hl
    go_wp2_with fail
    go_loopw [4] (fun tv wr => ∃ (l t' : List UInt8), Hid (l.length + t'.length < T) ∧ Hid (wr.ownsRow (w.heap.size + 1) 5 1 tv l.length (byteCells l)) ∧ Hid (Rdr wr R t') ∧ Hid (Grew w R wr) ∧ Hid (Blk wr w.heap.size 37 #[.int .i64 0, .int .i64 0, .string ⟨#[]⟩]) ∧ w.heap.size + 1 ≤ wr.heap.size) (fun _ wr => restLen wr R)
    case atStart => exact ⟨[], t1, Lib.hid (by have := HL.out; simpa using this), World.ownsRow_nil _ _ _ _, HR2.out, HG2.out, HK2.out, hs2⟩
    case round =>
      clear HR2 HG2 HK2 hs2
      obtain ⟨l, t', HLT, HO, HR, HG, HK, hsz⟩ := hrel
      have hrl := rest_len_of HR.out
      obtain ⟨q, cap, rfl⟩ := slice_of_bytes HO.out
      have HA := HTK.out wr t' HR.out
      cases hp : Lib.hasPrefix t' [34] with
      | true =>
        have HS := Lib.hid (trim_less hp (by decide))
        rw [hp] at HA
        have HA := Lib.hid HA
        clear hp HTK HCH HR hrl
        generalize Lib.trimPrefix t' [34] = r at HA HS
        go_wp2_with fail
        refine HA.out.mono ?_
        rintro e w3 ⟨rfl, r3, k3⟩
        have hO3 := own_grew HO.out k3 (by omega)
        have hcv := owns_string rfl hO3
        have HG3 := Lib.hid (HG.out.and k3)
        have HK3 := Lib.hid (HK.out.keepG k3 (by simp only [ne_eq, Option.some.injEq]; omega))
        have HR3 := Lib.hid r3
        have hk3 := HK3.out
        have c0 := hk3.cell 0
        have c1 := hk3.cell 1
        have c2 := hk3.cell 2
        have f0 := hk3.froz 0
        have f1 := hk3.froz 1
        have f2 := hk3.froz 2
        simp only [List.getElem?_toArray, List.getElem?_cons_zero, List.getElem?_cons_succ] at c0 c1 c2
        rw [show (⟨l.toArray⟩ : ByteArray) = bs l from rfl] at hcv
        clear r3 k3 HA HO HG HK hO3 hk3
        obtain ⟨x, HX⟩ : ∃ x, Hid (bs l = x) := ⟨_, rfl⟩
        rw [HX.out] at hcv
        have HF := Lib.hid (show Rdr (((w3.setCell ⟨w.heap.size, 0, none⟩ (.int .i64 2)).setCell ⟨w.heap.size, 1, none⟩ (.int .i64 0)).setCell ⟨w.heap.size, 2, none⟩ (.string x)) R r ∧ Grew w R (((w3.setCell ⟨w.heap.size, 0, none⟩ (.int .i64 2)).setCell ⟨w.heap.size, 1, none⟩ (.int .i64 0)).setCell ⟨w.heap.size, 2, none⟩ (.string x)) ∧ Blk (((w3.setCell ⟨w.heap.size, 0, none⟩ (.int .i64 2)).setCell ⟨w.heap.size, 1, none⟩ (.int .i64 0)).setCell ⟨w.heap.size, 2, none⟩ (.string x)) w.heap.size 37 #[.int .i64 2, .int .i64 0, .string x] from
          ⟨Blk.setOther (Blk.setOther (Blk.setOther HR3.out (by omega) _) (by omega) _) (by omega) _, grew_low HG3.out (((Below.refl w.heap.size w3).setCell (p := ⟨w.heap.size, 0, none⟩) (Nat.le_refl _) _).setCell (p := ⟨w.heap.size, 1, none⟩) (Nat.le_refl _) _ |>.setCell (p := ⟨w.heap.size, 2, none⟩) (Nat.le_refl _) _) (Nat.le_refl _), ((HK3.out.setG 0 _).setG 1 _).setG 2 _⟩)
        go_wp2_with fail
        have r0 := HF.out.2.2.cell 0
        have r1 := HF.out.2.2.cell 1
        have r2 := HF.out.2.2.cell 2
        simp only [List.getElem?_toArray, List.getElem?_cons_zero, List.getElem?_cons_succ] at r0 r1 r2
        refine bodyPost_ret (v := .tuple #[.agg #[.int .i64 2, .int .i64 0, .string x], .bool true]) (by simp [results, Tryd.f35, go_sem, r0, r1, r2]) rfl ?_
        exact ⟨2, 0, x, true, r, rfl, HF.out.1, by have := HLT.out; have := HS.out; omega, fun _ => by have := HLT.out; have := HS.out; omega, HF.out.2.1⟩
      | false =>
        rw [hp, trim_no hp] at HA
        have HA := Lib.hid HA
        have HRL := Lib.hid hrl
        clear hp HTK HR hrl
        go_wp2_with fail
        refine HA.out.mono ?_
        rintro e w3 ⟨rfl, r3, k3⟩
        have HO3 := Lib.hid (own_grew HO.out k3 (by omega))
        have HG3 := Lib.hid (HG.out.and k3)
        have HK3 := Lib.hid (HK.out.keepG k3 (by simp only [ne_eq, Option.some.injEq]; omega))
        have hs3 : w.heap.size + 1 ≤ w3.heap.size := by have := k3.size; omega
        have HB := Lib.hid (HCH.out w3 t' (by have := HLT.out; have := HLL.out; omega) r3 (HG3.out.low hB (by omega)))
        clear r3 k3 HA HO HG HK HCH
        go_wp2_with fail
        refine HB.out.mono ?_
        rintro e w4 ⟨c, b, t4, rfl, hc0, hc1, r4, l4, l5, k4⟩
        have HO4 := own_grew HO3.out k4 (by omega)
        have HG4 := Lib.hid (HG3.out.and k4)
        have HK4 := Lib.hid (HK3.out.keepG k4 (by simp only [ne_eq, Option.some.injEq]; omega))
        have hs4 : w.heap.size + 1 ≤ w4.heap.size := by have := k4.size; omega
        have HR4 := Lib.hid r4
        have HC := Lib.hid (And.intro hc0 hc1)
        have HL4 := Lib.hid (And.intro l4 l5)
        have HRL4 := Lib.hid (rest_len_of r4)
        clear r4 k4 HB HO3 HG3 HK3 hc0 hc1 l4 l5
        cases b with
        | false =>
          have hk3 := HK4.out
          have c0 := hk3.cell 0
          have c1 := hk3.cell 1
          have c2 := hk3.cell 2
          have f0 := hk3.froz 0
          have f1 := hk3.froz 1
          have f2 := hk3.froz 2
          simp only [List.getElem?_toArray, List.getElem?_cons_zero, List.getElem?_cons_succ] at c0 c1 c2
          clear hk3 HO4
          have HF := Lib.hid (show Rdr (((w4.setCell ⟨w.heap.size, 0, none⟩ (.int .i64 0)).setCell ⟨w.heap.size, 1, none⟩ (.int .i64 0)).setCell ⟨w.heap.size, 2, none⟩ (.string ⟨#[]⟩)) R t4 ∧ Grew w R (((w4.setCell ⟨w.heap.size, 0, none⟩ (.int .i64 0)).setCell ⟨w.heap.size, 1, none⟩ (.int .i64 0)).setCell ⟨w.heap.size, 2, none⟩ (.string ⟨#[]⟩)) ∧ Blk (((w4.setCell ⟨w.heap.size, 0, none⟩ (.int .i64 0)).setCell ⟨w.heap.size, 1, none⟩ (.int .i64 0)).setCell ⟨w.heap.size, 2, none⟩ (.string ⟨#[]⟩)) w.heap.size 37 #[.int .i64 0, .int .i64 0, .string ⟨#[]⟩] from
            ⟨Blk.setOther (Blk.setOther (Blk.setOther HR4.out (by omega) _) (by omega) _) (by omega) _, grew_low HG4.out (((Below.refl w.heap.size w4).setCell (p := ⟨w.heap.size, 0, none⟩) (Nat.le_refl _) _).setCell (p := ⟨w.heap.size, 1, none⟩) (Nat.le_refl _) _ |>.setCell (p := ⟨w.heap.size, 2, none⟩) (Nat.le_refl _) _) (Nat.le_refl _), ((HK4.out.setG 0 _).setG 1 _).setG 2 _⟩)
          go_wp2_with fail
          have r0 := HF.out.2.2.cell 0
          have r1 := HF.out.2.2.cell 1
          have r2 := HF.out.2.2.cell 2
          simp only [List.getElem?_toArray, List.getElem?_cons_zero, List.getElem?_cons_succ] at r0 r1 r2
          refine bodyPost_ret (v := .tuple #[.agg #[.int .i64 0, .int .i64 0, .string ⟨#[]⟩], .bool false]) (by simp [results, Tryd.f35, go_sem, r0, r1, r2]) rfl ?_
          exact ⟨0, 0, ⟨#[]⟩, false, t4, rfl, HF.out.1, by have := HLT.out; have := HL4.out.1; omega, fun h => (by cases h), HF.out.2.1⟩
        | true =>
          obtain ⟨x, rfl⟩ : ∃ x : UInt8, c = (x.toNat : Int) := ⟨UInt8.ofNat c.toNat, by have := HC.out; simp; omega⟩
          have HLL4 := Lib.hid (show l.length ≤ 70000 by have := HLT.out; have := HLL.out; omega)
          go_wp2_with (at_builtin; refine wpList_append_bytes rfl _ _ rfl (w.heap.size + 1) _ l.length (byteCells l) rfl (HO4.alloc _) ⟨w4.heap.size, 0, none⟩ 1 1 [x] rfl rfl (cells_new _ _ _) (by have := HLL4.out; omega) (by have := HLL4.out; simp <;> omega) ?_; intro v5 w5 hown5 hb5 _; have HF := Lib.hid (show w5.ownsRow (w.heap.size + 1) 5 1 v5 (l ++ [x]).length (byteCells (l ++ [x])) ∧ Below (w.heap.size + 1) w4 w5 from ⟨by simpa [byteCells] using hown5, ((Below.refl _ w4).alloc hs4 _).trans hb5⟩); clear hown5 hb5)
          obtain ⟨q', cap', hv'⟩ := slice_of_bytes HF.out.1
          subst hv'
          go_roundw
          case rel => exact ⟨l ++ [x], t4, Lib.hid (by have := HLT.out; have := HL4.out.2 trivial; simp; omega), HF.out.1, Blk.belowV HR4.out HF.out.2 (by omega), grew_low HG4.out HF.out.2 (by omega), Blk.belowV HK4.out HF.out.2 (by omega), Nat.le_trans hs4 HF.out.2.size⟩
          case measure => 
            have h5 := rest_len_of (Blk.belowV HR4.out HF.out.2 (by omega) : Rdr _ R t4)
            have := HRL.out; have := HL4.out.2 trivial; omega
end Go.Proofs.YtmjobnakaamlpaaDoor
