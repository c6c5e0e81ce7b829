/-
  Several texts in one.
-/
import Derived.Test.YtledgnolmiecfaaGreatDoorPv
import Derived.Test.YtledgnolmiecfaaGreatDoorJB
/-!
  The reader of package row at any text: next, hex, char.
-/
namespace Go.Proofs.YtledgnolmiecfaaGreatDoor
open Go.RowKit Go.Lib
set_option linter.unusedSimpArgs false
set_option linter.unusedVariables false

set_option maxRecDepth 100000 in
theorem next_short (R : Nat) (t : List UInt8) (n : Nat) (hn : t.length < n) (w : World) (h : Rdr w R t) :
    Calls Tryz.prog 126 #[.pointer (some ⟨R, 0, none⟩), .int .i64 (n : Int)] w fun e w' => e = .returned (.tuple #[.string ⟨#[]⟩, .bool false]) ∧ w = w' := by
  have c0 : w.cell? ⟨R, 0, none⟩ = some (.string (bs t)) := Blk.cell h 0
  have hsz : (bs t).size = t.length := bs_size t
  generalize bs t = y at c0 hsz
  have g1 : (y.size : Int) < (n : Int) := by omega
  clear hsz hn h
  go_enter Tryz.func126, Tryz.ntmps126
  go_wp2_with fail
  go_ret2
  exact ⟨rfl, rfl⟩
/-- A byte is read, or none; what is left is no longer; where one is read, shorter. -/
def BytePost (w : World) (R k : Nat) (e : Ending) (w' : World) : Prop := ∃ (c : Int) (b : Bool) (t' : List UInt8), e = .returned (.tuple #[.int .u8 c, .bool b]) ∧ 0 ≤ c ∧ c < 256 ∧ Rdr w' R t' ∧ t'.length ≤ k ∧ (b = true → t'.length < k) ∧ Grew w R w'
set_option maxRecDepth 100000 in
set_option maxHeartbeats 1000000 in
theorem hex_any (R B : Nat) (t : List UInt8) (ht : t.length ≤ 70000) (w : World) (h : Rdr w R t) (hE : Env B w) (hB : B ≤ R) :
    Calls Tryz.prog 125 #[.pointer (some ⟨R, 0, none⟩)] w (BytePost w R t.length) := by
  have hRl : R < w.heap.size := Blk.lt h
  by_cases hl : t.length < 2
  · have HN := Lib.hid (next_short R t 2 hl w h)
    have HF := Lib.hid (And.intro h (grew_refl w R))
    clear h hE
    go_enter Tryz.func125, Tryz.ntmps125
    go_wp2_with fail
    refine HN.out.mono ?_
    rintro e w1 ⟨rfl, rfl⟩
    go_wp2_with fail
    go_ret2
    exact ⟨0, false, t, rfl, by omega, by omega, HF.out.1, Nat.le_refl _, fun h => (by cases h), HF.out.2⟩
  · have HN := Lib.hid (next_any R t 2 (by omega) (by omega) w h)
    have hts : (bs (t.take 2)).size = 2 := by rw [bs_size, List.length_take]; omega
    have hdl : (t.drop 2).length < t.length := by rw [List.length_drop]; omega
    have HP := Lib.hid fun W (k : Below B w W) => parseUint_two (bs (t.take 2)) hts B W (by have := k.size; omega) (hE.on k)
    generalize bs (t.take 2) = x at HN HP
    have HDL := Lib.hid hdl
    clear h hE hts hdl
    generalize t.drop 2 = t' at HN HDL
    go_enter Tryz.func125, Tryz.ntmps125
    go_wp2_with fail
    refine HN.out.mono ?_
    rintro e w1 ⟨rfl, r1, k1⟩
    have HPP := Lib.hid (HP.out w1 (k1.low hB (by omega)))
    have H1 := Lib.hid (And.intro r1 k1)
    clear r1 k1 HN HP
    go_wp2_with fail
    refine HPP.out.mono ?_
    rintro e w2 ⟨⟨n, r, n0, n1, rfl, hr⟩, k2⟩
    have HF := Lib.hid (show Rdr w2 R t' ∧ Grew w R w2 from ⟨H1.out.1.belowV k2, H1.out.2.and (grew_below R k2)⟩)
    have hw : IntKind.u8.wrap n = n := by rw [IntKind.wrap_u8]; omega
    clear k2 HPP
    rcases hr with rfl | ⟨tt, qq, rfl⟩
    · have HN01 := Lib.hid (And.intro n0 n1)
      go_wp2_with fail
      go_ret2
      exact ⟨n, true, t', rfl, HN01.out.1, HN01.out.2, HF.out.1, Nat.le_of_lt HDL.out, fun _ => HDL.out, HF.out.2⟩
    · clear n0 n1
      go_wp2_with fail
      go_ret2
      exact ⟨0, false, t', rfl, by omega, by omega, HF.out.1, Nat.le_of_lt HDL.out, fun _ => HDL.out, HF.out.2⟩
theorem trim_len (t p : List UInt8) : (Lib.trimPrefix t p).length ≤ t.length := by
  unfold Lib.trimPrefix
  split
  · rw [List.length_drop]; omega
  · exact Nat.le_refl _
theorem trim_less {t p : List UInt8} (h : Lib.hasPrefix t p = true) (hp : 0 < p.length) : (Lib.trimPrefix t p).length < t.length := by
  unfold Lib.trimPrefix
  rw [if_pos h, List.length_drop]
  have : p.length ≤ t.length := by
    unfold Lib.hasPrefix at h
    exact (List.isPrefixOf_iff_prefix.1 h).length_le
  omega

set_option maxRecDepth 100000 in
set_option maxHeartbeats 2000000 in
theorem char_any (R B : Nat) (t : List UInt8) (ht : t.length ≤ 70000) (w : World) (h : Rdr w R t) (hE : Env B w) (hB : B ≤ R) :
    Calls Tryz.prog 122 #[.pointer (some ⟨R, 0, none⟩)] w (BytePost w R t.length) := by
  have hRl : R < w.heap.size := Blk.lt h
  have HA := take_any R t [92, 110] w h
  have HB := Lib.hid fun W (h : Rdr W R t) => take_any R t [92, 120] W h
  have HC := Lib.hid fun W (h : Rdr W R t) => take_any R t [92] W h
  have HH := Lib.hid fun W t' (hl : t'.length ≤ 70000) (h : Rdr W R t') (k : Below B w W) => hex_any R B t' hl W h (hE.on k) hB
  unfold bs at HA HB HC
  simp only [List.toArray] at HA HB HC
  cases hp1 : Lib.hasPrefix t [92, 110] with
  | true =>
    rw [hp1] at HA
    have HL := Lib.hid (trim_less hp1 (by decide))
    have HA := Lib.hid HA
    clear h hE HB HC HH hp1
    generalize Lib.trimPrefix t [92, 110] = t' at HA HL
    go_enter Tryz.func122, Tryz.ntmps122
    go_wp2_with fail
    refine HA.out.mono ?_
    rintro e w1 ⟨rfl, r1, k1⟩
    have H1 := Lib.hid (And.intro r1 k1)
    clear r1 k1
    go_wp2_with fail
    go_ret2
    exact ⟨10, true, t', rfl, by omega, by omega, H1.out.1, Nat.le_of_lt HL.out, fun _ => HL.out, H1.out.2⟩
  | false =>
    rw [hp1, trim_no hp1] at HA
    have HA := Lib.hid HA
    clear h hE hp1
    cases hp2 : Lib.hasPrefix t [92, 120] with
    | true =>
      rw [hp2] at HB
      have HL := Lib.hid (trim_less hp2 (by decide))
      clear HC hp2
      generalize Lib.trimPrefix t [92, 120] = t' at HB HL
      go_enter Tryz.func122, Tryz.ntmps122
      go_wp2_with fail
      refine HA.out.mono ?_
      rintro e w1 ⟨rfl, r1, k1⟩
      have HBB := Lib.hid (HB.out w1 r1)
      have H1 := Lib.hid k1
      clear r1 k1 HA HB
      go_wp2_with fail
      refine HBB.out.mono ?_
      rintro e w2 ⟨rfl, r2, k2⟩
      have HG2 := Lib.hid (H1.out.and k2)
      have HHH := Lib.hid (HH.out w2 t' (by have := HL.out; omega) r2 (HG2.out.low hB (by omega)))
      clear r2 k2 HBB HH H1
      go_wp2_with fail
      refine HHH.out.mono ?_
      rintro e w3 ⟨c, b, t3, rfl, c0, c1, r3, l3, _, k3⟩
      have HF := Lib.hid (And.intro (And.intro c0 c1) (And.intro r3 (And.intro l3 (HG2.out.and k3))))
      clear c0 c1 r3 l3 k3
      go_wp2_with fail
      go_ret2
      exact ⟨c, b, t3, rfl, HF.out.1.1, HF.out.1.2, HF.out.2.1, by have := HF.out.2.2.1; have := HL.out; omega, fun _ => by have := HF.out.2.2.1; have := HL.out; omega, HF.out.2.2.2⟩
    | false =>
      rw [hp2, trim_no hp2] at HB
      have HL := Lib.hid (trim_len t [92])
      clear HH hp2
      generalize Lib.trimPrefix t [92] = t' at HC HL
      generalize Lib.hasPrefix t [92] = b0 at HC
      by_cases hn : t'.length < 1
      · have HN := Lib.hid fun W (h : Rdr W R t') => next_short R t' 1 hn W h
        go_enter Tryz.func122, Tryz.ntmps122
        go_wp2_with fail
        refine HA.out.mono ?_
        rintro e w1 ⟨rfl, r1, k1⟩
        have HBB := Lib.hid (HB.out w1 r1)
        have H1 := Lib.hid k1
        clear r1 k1 HA HB
        go_wp2_with fail
        refine HBB.out.mono ?_
        rintro e w2 ⟨rfl, r2, k2⟩
        have HG2 := Lib.hid (H1.out.and k2)
        have HCC := Lib.hid (HC.out w2 r2)
        clear r2 k2 HBB H1 HC
        go_wp2_with fail
        refine HCC.out.mono ?_
        rintro e w3 ⟨rfl, r3, k3⟩
        have HG3 := Lib.hid (HG2.out.and k3)
        have HR3 := Lib.hid r3
        have HNN := Lib.hid (HN.out w3 r3)
        clear r3 k3 HCC HG2 HN
        go_wp2_with fail
        refine HNN.out.mono ?_
        rintro e w4 ⟨rfl, rfl⟩
        go_wp2_with fail
        go_ret2
        exact ⟨0, false, t', rfl, by omega, by omega, HR3.out, HL.out, fun h => (by cases h), HG3.out⟩
      · match t', hn with
        | c :: r, _ =>
          have HN := Lib.hid fun W (h : Rdr W R (c :: r)) => next_any R (c :: r) 1 (by simp) (by have := HL.out; omega) W h
          rw [show (c :: r).take 1 = [c] from rfl, show (c :: r).drop 1 = r from rfl] at HN
          have HX := Lib.hid (index_one c)
          have hc256 := c.toNat_lt
          go_enter Tryz.func122, Tryz.ntmps122
          go_wp2_with fail
          refine HA.out.mono ?_
          rintro e w1 ⟨rfl, r1, k1⟩
          have HBB := Lib.hid (HB.out w1 r1)
          have H1 := Lib.hid k1
          clear r1 k1 HA HB
          go_wp2_with fail
          refine HBB.out.mono ?_
          rintro e w2 ⟨rfl, r2, k2⟩
          have HG2 := Lib.hid (H1.out.and k2)
          have HCC := Lib.hid (HC.out w2 r2)
          clear r2 k2 HBB H1 HC
          go_wp2_with fail
          refine HCC.out.mono ?_
          rintro e w3 ⟨rfl, r3, k3⟩
          have HG3 := Lib.hid (HG2.out.and k3)
          have HNN := Lib.hid (HN.out w3 r3)
          clear r3 k3 HCC HG2 HN
          go_wp2_with fail
          refine HNN.out.mono ?_
          rintro e w4 ⟨rfl, r4, k4⟩
          have H4 := Lib.hid (And.intro r4 (HG3.out.and k4))
          clear r4 k4 HNN HG3
          have hx := HX.out
          go_wp2_with fail
          go_ret2
          exact ⟨(c.toNat : Int), true, r, rfl, by omega, by omega, H4.out.1, by have := HL.out; simp only [List.length_cons] at this; omega, fun _ => by have := HL.out; simp only [List.length_cons] at this; omega, H4.out.2⟩
end Go.Proofs.YtledgnolmiecfaaGreatDoor

/-!
  The reader of package row at any text: quoted.
-/
namespace Go.Proofs.YtledgnolmiecfaaGreatDoor
open Go.RowKit Go.Lib
set_option linter.unusedSimpArgs false
set_option linter.unusedVariables false

/-- A value is read, or none; what is left is no longer; where one is read, shorter. -/
def ValPost (w : World) (R k : Nat) (e : Ending) (w' : World) : Prop := ∃ (x0 x1 : Int) (x2 : ByteArray) (b : Bool) (t' : List UInt8), e = .returned (.tuple #[.agg #[.int .i64 x0, .int .i64 x1, .string x2], .bool b]) ∧ Rdr w' R t' ∧ t'.length ≤ k ∧ (b = true → t'.length < k) ∧ Grew w R w'
def restLen (W : World) (R : Nat) : Nat := match W.cell? ⟨R, 0, none⟩ with
  | some (.string s) => s.size
  | _ => 0
theorem rest_len_of {W : World} {R : Nat} {t : List UInt8} (h : Rdr W R t) : restLen W R = t.length := by
  have c0 : W.cell? ⟨R, 0, none⟩ = some (.string (bs t)) := Blk.cell h 0
  unfold restLen
  rw [c0]
  exact bs_size t

set_option maxRecDepth 100000 in
set_option maxHeartbeats 2000000 in
theorem quoted_any (R B : Nat) (t : List UInt8) (hl : t.length ≤ 70000) (w : World) (h : Rdr w R t) (hE : Env B w) (hB : B ≤ R) :
    Calls Tryz.prog 111 #[.pointer (some ⟨R, 0, none⟩)] w (ValPost w R t.length) := by
  obtain ⟨i0, hi, hz0, hz1, hz2⟩ := info_parts infoB
  have hRl : R < w.heap.size := Blk.lt h
  have hb1 : Below w.heap.size w (w.alloc (.cells #[.int .i64 0, .int .i64 0, .string ⟨#[]⟩] 40)) := (Below.refl _ _).alloc (Nat.le_refl _) _
  have h1 := h.belowV hb1
  have hk1 : Blk (w.alloc (.cells #[.int .i64 0, .int .i64 0, .string ⟨#[]⟩] 40)) w.heap.size 40 #[.int .i64 0, .int .i64 0, .string ⟨#[]⟩] := Blk.new _ _ _
  have hs1 : (w.alloc (.cells #[.int .i64 0, .int .i64 0, .string ⟨#[]⟩] 40)).heap.size = w.heap.size + 1 := by simp
  have hg1 := grew_below R hb1
  generalize hw1 : w.alloc (.cells #[.int .i64 0, .int .i64 0, .string ⟨#[]⟩] 40) = w1 at h1 hk1 hs1 hg1
  have HT := take_any R t [34] w1 h1
  unfold bs at HT
  simp only [List.toArray] at HT
  have HK1 := Lib.hid (And.intro hk1 hg1)
  have HTK := Lib.hid fun W t (h : Rdr W R t) => take_any R t [34] W h
  unfold bs at HTK
  simp only [List.toArray] at HTK
  have HCH := Lib.hid fun W r' (hr : r'.length ≤ 70000) (h : Rdr W R r') (k : Below B w W) => char_any R B r' hr W h (hE.on k) hB
  clear h h1 hk1 hg1 hb1 hE
  cases hp : Lib.hasPrefix t [34] with
  | false =>
    rw [hp, trim_no hp] at HT
    have HT := Lib.hid HT
    clear HTK HCH hp
    go_enter Tryz.func111, Tryz.ntmps111
    go_wp2_with fail
    refine HT.out.mono ?_
    rintro e w3 ⟨rfl, r3, k3⟩
    have HG3 := Lib.hid (HK1.out.2.and k3)
    have HK3 := Lib.hid (HK1.out.1.keepG k3 (by simp only [ne_eq, Option.some.injEq]; omega))
    have HR3 := Lib.hid r3
    have hk3 := HK3.out
    have c0 := hk3.cell 0
    have c1 := hk3.cell 1
    have c2 := hk3.cell 2
    have f0 := hk3.froz 0
    have f1 := hk3.froz 1
    have f2 := hk3.froz 2
    simp only [List.getElem?_toArray, List.getElem?_cons_zero, List.getElem?_cons_succ] at c0 c1 c2
    clear r3 k3 hk3 HT HK1
    have HF := Lib.hid (show Rdr (((w3.setCell ⟨w.heap.size, 0, none⟩ (.int .i64 0)).setCell ⟨w.heap.size, 1, none⟩ (.int .i64 0)).setCell ⟨w.heap.size, 2, none⟩ (.string ⟨#[]⟩)) R t ∧ Grew w R (((w3.setCell ⟨w.heap.size, 0, none⟩ (.int .i64 0)).setCell ⟨w.heap.size, 1, none⟩ (.int .i64 0)).setCell ⟨w.heap.size, 2, none⟩ (.string ⟨#[]⟩)) ∧ Blk (((w3.setCell ⟨w.heap.size, 0, none⟩ (.int .i64 0)).setCell ⟨w.heap.size, 1, none⟩ (.int .i64 0)).setCell ⟨w.heap.size, 2, none⟩ (.string ⟨#[]⟩)) w.heap.size 40 #[.int .i64 0, .int .i64 0, .string ⟨#[]⟩] from
      ⟨Blk.setOther (Blk.setOther (Blk.setOther HR3.out (by omega) _) (by omega) _) (by omega) _, grew_low HG3.out (((Below.refl w.heap.size w3).setCell (p := ⟨w.heap.size, 0, none⟩) (Nat.le_refl _) _).setCell (p := ⟨w.heap.size, 1, none⟩) (Nat.le_refl _) _ |>.setCell (p := ⟨w.heap.size, 2, none⟩) (Nat.le_refl _) _) (Nat.le_refl _), ((HK3.out.setG 0 _).setG 1 _).setG 2 _⟩)
    go_wp2_with fail
    have r0 := HF.out.2.2.cell 0
    have r1 := HF.out.2.2.cell 1
    have r2 := HF.out.2.2.cell 2
    simp only [List.getElem?_toArray, List.getElem?_cons_zero, List.getElem?_cons_succ] at r0 r1 r2
    refine bodyPost_ret (v := .tuple #[.agg #[.int .i64 0, .int .i64 0, .string ⟨#[]⟩], .bool false]) (by simp [results, Tryz.f111, go_sem, r0, r1, r2]) rfl ?_
    exact ⟨0, 0, ⟨#[]⟩, false, t, rfl, HF.out.1, Nat.le_refl _, fun h => (by cases h), HF.out.2.1⟩
  | true =>
    have HL := Lib.hid (trim_less hp (by decide))
    rw [hp] at HT
    have HT := Lib.hid HT
    clear hp
    have HLL := Lib.hid hl
    generalize t.length = T at HL hl HLL ⊢
    generalize Lib.trimPrefix t [34] = t1 at HT HL
    go_enter Tryz.func111, Tryz.ntmps111
    go_wp2_with fail
    refine HT.out.mono ?_
    rintro e w2 ⟨rfl, r2, k2⟩
    have HR2 := Lib.hid r2
    have HG2 := Lib.hid (HK1.out.2.and k2)
    have HK2 := Lib.hid (HK1.out.1.keepG k2 (by simp only [ne_eq, Option.some.injEq]; omega))
    have hs2 : w.heap.size + 1 ≤ w2.heap.size := by have := k2.size; omega
    clear r2 k2 HT HK1 hl
    go_wp2_with fail
    go_loopw [4] (fun tv wr => ∃ (l t' : List UInt8), Hid (l.length + t'.length < T) ∧ Hid (wr.ownsRow (w.heap.size + 1) 5 1 tv l.length (byteCells l)) ∧ Hid (Rdr wr R t') ∧ Hid (Grew w R wr) ∧ Hid (Blk wr w.heap.size 40 #[.int .i64 0, .int .i64 0, .string ⟨#[]⟩]) ∧ w.heap.size + 1 ≤ wr.heap.size) (fun _ wr => restLen wr R)
    case atStart => exact ⟨[], t1, Lib.hid (by have := HL.out; simpa using this), World.ownsRow_nil _ _ _ _, HR2.out, HG2.out, HK2.out, hs2⟩
    case round =>
      clear HR2 HG2 HK2 hs2
      obtain ⟨l, t', HLT, HO, HR, HG, HK, hsz⟩ := hrel
      have hrl := rest_len_of HR.out
      obtain ⟨q, cap, rfl⟩ := slice_of_bytes HO.out
      have HA := HTK.out wr t' HR.out
      cases hp : Lib.hasPrefix t' [34] with
      | true =>
        have HS := Lib.hid (trim_less hp (by decide))
        rw [hp] at HA
        have HA := Lib.hid HA
        clear hp HTK HCH HR hrl
        generalize Lib.trimPrefix t' [34] = r at HA HS
        go_wp2_with fail
        refine HA.out.mono ?_
        rintro e w3 ⟨rfl, r3, k3⟩
        have hO3 := own_grew HO.out k3 (by omega)
        have hcv := owns_string rfl hO3
        have HG3 := Lib.hid (HG.out.and k3)
        have HK3 := Lib.hid (HK.out.keepG k3 (by simp only [ne_eq, Option.some.injEq]; omega))
        have HR3 := Lib.hid r3
        have hk3 := HK3.out
        have c0 := hk3.cell 0
        have c1 := hk3.cell 1
        have c2 := hk3.cell 2
        have f0 := hk3.froz 0
        have f1 := hk3.froz 1
        have f2 := hk3.froz 2
        simp only [List.getElem?_toArray, List.getElem?_cons_zero, List.getElem?_cons_succ] at c0 c1 c2
        rw [show (⟨l.toArray⟩ : ByteArray) = bs l from rfl] at hcv
        clear r3 k3 HA HO HG HK hO3 hk3
        obtain ⟨x, HX⟩ : ∃ x, Hid (bs l = x) := ⟨_, rfl⟩
        rw [HX.out] at hcv
        have HF := Lib.hid (show Rdr (((w3.setCell ⟨w.heap.size, 0, none⟩ (.int .i64 2)).setCell ⟨w.heap.size, 1, none⟩ (.int .i64 0)).setCell ⟨w.heap.size, 2, none⟩ (.string x)) R r ∧ Grew w R (((w3.setCell ⟨w.heap.size, 0, none⟩ (.int .i64 2)).setCell ⟨w.heap.size, 1, none⟩ (.int .i64 0)).setCell ⟨w.heap.size, 2, none⟩ (.string x)) ∧ Blk (((w3.setCell ⟨w.heap.size, 0, none⟩ (.int .i64 2)).setCell ⟨w.heap.size, 1, none⟩ (.int .i64 0)).setCell ⟨w.heap.size, 2, none⟩ (.string x)) w.heap.size 40 #[.int .i64 2, .int .i64 0, .string x] from
          ⟨Blk.setOther (Blk.setOther (Blk.setOther HR3.out (by omega) _) (by omega) _) (by omega) _, grew_low HG3.out (((Below.refl w.heap.size w3).setCell (p := ⟨w.heap.size, 0, none⟩) (Nat.le_refl _) _).setCell (p := ⟨w.heap.size, 1, none⟩) (Nat.le_refl _) _ |>.setCell (p := ⟨w.heap.size, 2, none⟩) (Nat.le_refl _) _) (Nat.le_refl _), ((HK3.out.setG 0 _).setG 1 _).setG 2 _⟩)
        go_wp2_with fail
        have r0 := HF.out.2.2.cell 0
        have r1 := HF.out.2.2.cell 1
        have r2 := HF.out.2.2.cell 2
        simp only [List.getElem?_toArray, List.getElem?_cons_zero, List.getElem?_cons_succ] at r0 r1 r2
        refine bodyPost_ret (v := .tuple #[.agg #[.int .i64 2, .int .i64 0, .string x], .bool true]) (by simp [results, Tryz.f111, go_sem, r0, r1, r2]) rfl ?_
        exact ⟨2, 0, x, true, r, rfl, HF.out.1, by have := HLT.out; have := HS.out; omega, fun _ => by have := HLT.out; have := HS.out; omega, HF.out.2.1⟩
      | false =>
        rw [hp, trim_no hp] at HA
        have HA := Lib.hid HA
        have HRL := Lib.hid hrl
        clear hp HTK HR hrl
        go_wp2_with fail
        refine HA.out.mono ?_
        rintro e w3 ⟨rfl, r3, k3⟩
        have HO3 := Lib.hid (own_grew HO.out k3 (by omega))
        have HG3 := Lib.hid (HG.out.and k3)
        have HK3 := Lib.hid (HK.out.keepG k3 (by simp only [ne_eq, Option.some.injEq]; omega))
        have hs3 : w.heap.size + 1 ≤ w3.heap.size := by have := k3.size; omega
        have HB := Lib.hid (HCH.out w3 t' (by have := HLT.out; have := HLL.out; omega) r3 (HG3.out.low hB (by omega)))
        clear r3 k3 HA HO HG HK HCH
        go_wp2_with fail
        refine HB.out.mono ?_
        rintro e w4 ⟨c, b, t4, rfl, hc0, hc1, r4, l4, l5, k4⟩
        have HO4 := own_grew HO3.out k4 (by omega)
        have HG4 := Lib.hid (HG3.out.and k4)
        have HK4 := Lib.hid (HK3.out.keepG k4 (by simp only [ne_eq, Option.some.injEq]; omega))
        have hs4 : w.heap.size + 1 ≤ w4.heap.size := by have := k4.size; omega
        have HR4 := Lib.hid r4
        have HC := Lib.hid (And.intro hc0 hc1)
        have HL4 := Lib.hid (And.intro l4 l5)
        have HRL4 := Lib.hid (rest_len_of r4)
        clear r4 k4 HB HO3 HG3 HK3 hc0 hc1 l4 l5
        cases b with
        | false =>
          have hk3 := HK4.out
          have c0 := hk3.cell 0
          have c1 := hk3.cell 1
          have c2 := hk3.cell 2
          have f0 := hk3.froz 0
          have f1 := hk3.froz 1
          have f2 := hk3.froz 2
          simp only [List.getElem?_toArray, List.getElem?_cons_zero, List.getElem?_cons_succ] at c0 c1 c2
          clear hk3 HO4
          have HF := Lib.hid (show Rdr (((w4.setCell ⟨w.heap.size, 0, none⟩ (.int .i64 0)).setCell ⟨w.heap.size, 1, none⟩ (.int .i64 0)).setCell ⟨w.heap.size, 2, none⟩ (.string ⟨#[]⟩)) R t4 ∧ Grew w R (((w4.setCell ⟨w.heap.size, 0, none⟩ (.int .i64 0)).setCell ⟨w.heap.size, 1, none⟩ (.int .i64 0)).setCell ⟨w.heap.size, 2, none⟩ (.string ⟨#[]⟩)) ∧ Blk (((w4.setCell ⟨w.heap.size, 0, none⟩ (.int .i64 0)).setCell ⟨w.heap.size, 1, none⟩ (.int .i64 0)).setCell ⟨w.heap.size, 2, none⟩ (.string ⟨#[]⟩)) w.heap.size 40 #[.int .i64 0, .int .i64 0, .string ⟨#[]⟩] from
            ⟨Blk.setOther (Blk.setOther (Blk.setOther HR4.out (by omega) _) (by omega) _) (by omega) _, grew_low HG4.out (((Below.refl w.heap.size w4).setCell (p := ⟨w.heap.size, 0, none⟩) (Nat.le_refl _) _).setCell (p := ⟨w.heap.size, 1, none⟩) (Nat.le_refl _) _ |>.setCell (p := ⟨w.heap.size, 2, none⟩) (Nat.le_refl _) _) (Nat.le_refl _), ((HK4.out.setG 0 _).setG 1 _).setG 2 _⟩)
          go_wp2_with fail
          have r0 := HF.out.2.2.cell 0
          have r1 := HF.out.2.2.cell 1
          have r2 := HF.out.2.2.cell 2
          simp only [List.getElem?_toArray, List.getElem?_cons_zero, List.getElem?_cons_succ] at r0 r1 r2
          refine bodyPost_ret (v := .tuple #[.agg #[.int .i64 0, .int .i64 0, .string ⟨#[]⟩], .bool false]) (by simp [results, Tryz.f111, go_sem, r0, r1, r2]) rfl ?_
          exact ⟨0, 0, ⟨#[]⟩, false, t4, rfl, HF.out.1, by have := HLT.out; have := HL4.out.1; omega, fun h => (by cases h), HF.out.2.1⟩
        | true =>
          obtain ⟨x, rfl⟩ : ∃ x : UInt8, c = (x.toNat : Int) := ⟨UInt8.ofNat c.toNat, by have := HC.out; simp; omega⟩
          have HLL4 := Lib.hid (show l.length ≤ 70000 by have := HLT.out; have := HLL.out; omega)
          go_wp2_with (at_builtin; refine wpList_append_bytes rfl _ _ rfl (w.heap.size + 1) _ l.length (byteCells l) rfl (HO4.alloc _) ⟨w4.heap.size, 0, none⟩ 1 1 [x] rfl rfl (cells_new _ _ _) (by have := HLL4.out; omega) (by have := HLL4.out; simp <;> omega) ?_; intro v5 w5 hown5 hb5 _; have HF := Lib.hid (show w5.ownsRow (w.heap.size + 1) 5 1 v5 (l ++ [x]).length (byteCells (l ++ [x])) ∧ Below (w.heap.size + 1) w4 w5 from ⟨by simpa [byteCells] using hown5, ((Below.refl _ w4).alloc hs4 _).trans hb5⟩); clear hown5 hb5)
          obtain ⟨q', cap', hv'⟩ := slice_of_bytes HF.out.1
          subst hv'
          go_roundw
          case rel => exact ⟨l ++ [x], t4, Lib.hid (by have := HLT.out; have := HL4.out.2 trivial; simp; omega), HF.out.1, Blk.belowV HR4.out HF.out.2 (by omega), grew_low HG4.out HF.out.2 (by omega), Blk.belowV HK4.out HF.out.2 (by omega), Nat.le_trans hs4 HF.out.2.size⟩
          case measure => 
            have h5 := rest_len_of (Blk.belowV HR4.out HF.out.2 (by omega) : Rdr _ R t4)
            have := HRL.out; have := HL4.out.2 trivial; omega
end Go.Proofs.YtledgnolmiecfaaGreatDoor

/-!
  The reader of package row at any text: null, number.
-/
namespace Go.Proofs.YtledgnolmiecfaaGreatDoor
open Go.RowKit Go.Lib
set_option linter.unusedSimpArgs false
set_option linter.unusedVariables false

theorem cut_first (t s : List UInt8) : ∃ r, t = (Lib.cut t s).1 ++ r := by
  unfold Lib.cut
  split
  · exact ⟨_, (List.take_append_drop _ _).symm⟩
  · exact ⟨[], by simp⟩
set_option maxRecDepth 100000 in
set_option maxHeartbeats 2000000 in
theorem number_at (R B : Nat) (t : List UInt8) (hl : t.length ≤ 70000) (n : Int) (D r : List UInt8) (ht : t = D ++ r) (hc : (Lib.cut t [44]).1 = D) (hn : wordNum D = some n) (w : World) (h : Rdr w R t) (hE : Env B w) (hB : B ≤ R) :
    Calls Tryz.prog 110 #[.pointer (some ⟨R, 0, none⟩)] w (RdPost w R (.tuple #[.agg #[.int .i64 1, .int .i64 n, .string ⟨#[]⟩], .bool true]) r) := by
  have hRl : R < w.heap.size := Blk.lt h
  have hb1 : Below w.heap.size w (w.alloc (.cells #[.int .i64 0, .int .i64 0, .string ⟨#[]⟩] 40)) := (Below.refl _ _).alloc (Nat.le_refl _) _
  have h1 := h.belowV hb1
  have hk1 : Blk (w.alloc (.cells #[.int .i64 0, .int .i64 0, .string ⟨#[]⟩] 40)) w.heap.size 40 #[.int .i64 0, .int .i64 0, .string ⟨#[]⟩] := Blk.new _ _ _
  have hs1 : (w.alloc (.cells #[.int .i64 0, .int .i64 0, .string ⟨#[]⟩] 40)).heap.size = w.heap.size + 1 := by simp
  have hg1 := grew_below R hb1
  have hE1 := hE.on (hb1.mono (by omega))
  generalize hw1 : w.alloc (.cells #[.int .i64 0, .int .i64 0, .string ⟨#[]⟩] 40) = w1 at h1 hk1 hs1 hg1 hE1
  have hc0 : w1.cell? ⟨R, 0, none⟩ = some (.string (bs t)) := Blk.cell h1 0
  obtain ⟨m, hm⟩ := hE1.max w1 (Below.refl _ _)
  have HC := Tryz.strings_Cut (bs t) ⟨#[44]⟩ m w1 (by rw [bs_size]; omega) hm
  rw [bs_data, show (⟨#[44]⟩ : ByteArray).data.toList = [44] from rfl] at HC
  rw [hc] at HC
  have hq : D.length ≤ t.length := by rw [ht, List.length_append]; omega
  have HC := Lib.hid HC
  have HA := Lib.hid fun W (k : Below B w1 W) => atoi_any ⟨D.toArray⟩ (by show D.toArray.size ≤ 1000000; rw [List.size_toArray]; omega) B W (hE1.on k)
  rw [show (⟨D.toArray⟩ : ByteArray).data.toList = D from rfl] at HA
  unfold AtoiPost at HA
  rw [hn] at HA
  have hds : (⟨D.toArray⟩ : ByteArray).size = D.length := bs_size _
  have hts : (bs t).size = t.length := bs_size _
  have hdr : (bs t).extract D.length (bs t).size = bs r := by rw [bs_drop, ht, List.drop_left]
  have HK1 := Lib.hid (And.intro hk1 hg1)
  have HR1 := Lib.hid h1
  have hBw : B ≤ w1.heap.size := by omega
  clear h h1 hk1 hg1 hb1 hE hE1 hm hc
  have g1 : (0 : Int) ≤ ((⟨D.toArray⟩ : ByteArray).size : Int) := by omega
  have g2 : ((⟨D.toArray⟩ : ByteArray).size : Int) ≤ ((bs t).size : Int) := by omega
  have g3 : (⟨D.toArray⟩ : ByteArray).size ≤ (bs t).size := by omega
  rw [← hds] at hdr
  generalize (⟨D.toArray⟩ : ByteArray) = dg at HC HA hdr g1 g2 g3 hds
  clear hds hts hq ht hl hn
  generalize (⟨(Lib.cut t [44]).2.1.toArray⟩ : ByteArray) = ds at HC
  generalize (Lib.cut t [44]).2.2 = db at HC
  go_enter Tryz.func110, Tryz.ntmps110
  go_wp2_with fail
  refine HC.out.mono ?_
  rintro e w2 ⟨rfl, kk, hw2⟩
  have kb : Below w1.heap.size w1 w2 := by rw [hw2]; exact ⟨rfl, rfl, rfl, Nat.le_refl _, fun _ _ => rfl⟩
  have HK2 := Lib.hid (And.intro (HK1.out.1.belowV kb HK1.out.1.lt) (HK1.out.2.and (grew_below R kb)))
  have HR2 := Lib.hid (HR1.out.belowV kb)
  have HA2 := Lib.hid (HA.out w2 (kb.mono hBw))
  have hs2 : w1.heap.size ≤ w2.heap.size := kb.size
  clear hw2 kb HC HA HK1 HR1
  go_wp2_with fail
  refine HA2.out.mono ?_
  rintro e w3 ⟨v, rr, rfl, h3 | ⟨h3, _⟩, k3⟩
  rotate_left
  · cases h3
  obtain ⟨h3, rfl⟩ := h3
  obtain rfl := Option.some.inj h3
  have hk3 := HK2.out.1.belowV k3 HK2.out.1.lt
  have HG := Lib.hid (HK2.out.2.and (grew_below R k3))
  have HK := Lib.hid hk3
  have hr3 := HR2.out.belowV k3
  have HR := Lib.hid hr3
  have c0 := hk3.cell 0
  have c1 := hk3.cell 1
  have c2 := hk3.cell 2
  have f0 := hk3.froz 0
  have f1 := hk3.froz 1
  have f2 := hk3.froz 2
  simp only [List.getElem?_toArray, List.getElem?_cons_zero, List.getElem?_cons_succ] at c0 c1 c2
  have e0 : w3.cell? ⟨R, 0, none⟩ = some (.string (bs t)) := Blk.cell hr3 0
  have e1 := Blk.froz hr3 0
  clear hk3 hr3 k3 HA2 HK2 HR2 h3
  have HRS := Lib.hid (show Rdr (w3.setCell ⟨R, 0, none⟩ (.string (bs r))) R r ∧ Grew w R (w3.setCell ⟨R, 0, none⟩ (.string (bs r))) ∧ Blk (w3.setCell ⟨R, 0, none⟩ (.string (bs r))) w.heap.size 40 #[.int .i64 0, .int .i64 0, .string ⟨#[]⟩] from ⟨HR.out.set _, HG.out.and (grew_set _ _ _), HK.out.setOther (by omega) _⟩)
  have HF := Lib.hid (show Rdr ((((w3.setCell ⟨R, 0, none⟩ (.string (bs r))).setCell ⟨w.heap.size, 0, none⟩ (.int .i64 1)).setCell ⟨w.heap.size, 1, none⟩ (.int .i64 n)).setCell ⟨w.heap.size, 2, none⟩ (.string ⟨#[]⟩)) R r ∧ Grew w R ((((w3.setCell ⟨R, 0, none⟩ (.string (bs r))).setCell ⟨w.heap.size, 0, none⟩ (.int .i64 1)).setCell ⟨w.heap.size, 1, none⟩ (.int .i64 n)).setCell ⟨w.heap.size, 2, none⟩ (.string ⟨#[]⟩)) ∧ Blk ((((w3.setCell ⟨R, 0, none⟩ (.string (bs r))).setCell ⟨w.heap.size, 0, none⟩ (.int .i64 1)).setCell ⟨w.heap.size, 1, none⟩ (.int .i64 n)).setCell ⟨w.heap.size, 2, none⟩ (.string ⟨#[]⟩)) w.heap.size 40 #[.int .i64 1, .int .i64 n, .string ⟨#[]⟩] from
    ⟨Blk.setOther (Blk.setOther (Blk.setOther HRS.out.1 (by omega) _) (by omega) _) (by omega) _, grew_low HRS.out.2.1 (((Below.refl w.heap.size (w3.setCell ⟨R, 0, none⟩ (.string (bs r)))).setCell (p := ⟨w.heap.size, 0, none⟩) (Nat.le_refl _) _).setCell (p := ⟨w.heap.size, 1, none⟩) (Nat.le_refl _) _ |>.setCell (p := ⟨w.heap.size, 2, none⟩) (Nat.le_refl _) _) (Nat.le_refl _), ((HRS.out.2.2.setG 0 _).setG 1 _).setG 2 _⟩)
  go_wp2_with fail
  have r0 := HF.out.2.2.cell 0
  have r1 := HF.out.2.2.cell 1
  have r2 := HF.out.2.2.cell 2
  simp only [List.getElem?_toArray, List.getElem?_cons_zero, List.getElem?_cons_succ] at r0 r1 r2
  refine bodyPost_ret (v := .tuple #[.agg #[.int .i64 1, .int .i64 n, .string ⟨#[]⟩], .bool true]) (by simp [results, Tryz.f110, go_sem, r0, r1, r2]) rfl ?_
  exact ⟨rfl, HF.out.1, HF.out.2.1⟩

theorem wordNum_pos {D : List UInt8} {n : Int} (h : wordNum D = some n) : 0 < D.length := by
  cases D with
  | nil => rw [show wordNum [] = none from by decide] at h; cases h
  | cons a r => simp
theorem number_any (R B : Nat) (t : List UInt8) (hl : t.length ≤ 70000) (w : World) (h : Rdr w R t) (hE : Env B w) (hB : B ≤ R) :
    Calls Tryz.prog 110 #[.pointer (some ⟨R, 0, none⟩)] w (ValPost w R t.length) := by
  cases hn : wordNum (Lib.cut t [44]).1 with
  | none =>
    refine (number_bad R B t hl hn w h hE hB).mono ?_
    rintro e w' ⟨rfl, h1, h2⟩
    exact ⟨0, 0, ⟨#[]⟩, false, t, rfl, h1, Nat.le_refl _, fun h => (by cases h), h2⟩
  | some n =>
    obtain ⟨r, hr⟩ := cut_first t [44]
    have hp := wordNum_pos hn
    refine (number_at R B t hl n (Lib.cut t [44]).1 r hr rfl hn w h hE hB).mono ?_
    rintro e w' ⟨rfl, h1, h2⟩
    have hlen : t.length = (Lib.cut t [44]).1.length + r.length := by conv => lhs; rw [hr, List.length_append]
    exact ⟨1, n, ⟨#[]⟩, true, r, rfl, h1, by omega, fun _ => by omega, h2⟩
theorem null_val (R : Nat) (t : List UInt8) (w : World) (h : Rdr w R t) :
    Calls Tryz.prog 109 #[.pointer (some ⟨R, 0, none⟩)] w (ValPost w R t.length) := by
  refine (null_any R t w h).mono ?_
  rintro e w' ⟨rfl, h1, h2⟩
  exact ⟨0, 0, ⟨#[]⟩, _, _, rfl, h1, trim_len _ _, fun h => trim_less h (by decide), h2⟩
end Go.Proofs.YtledgnolmiecfaaGreatDoor

/-!
  The reader of package row at any text: value.
-/
namespace Go.Proofs.YtledgnolmiecfaaGreatDoor
open Go.RowKit Go.Lib
set_option linter.unusedSimpArgs false
set_option linter.unusedVariables false
attribute [local go_sem] run_store_funcR

set_option maxRecDepth 100000 in
set_option maxHeartbeats 4000000 in
theorem value_any (R B : Nat) (t : List UInt8) (hl : t.length ≤ 70000) (w : World) (h : Rdr w R t) (hE : Env B w) (hB : B ≤ R) :
    Calls Tryz.prog 82 #[.pointer (some ⟨R, 0, none⟩)] w (ValPost w R t.length) := by
  have hRl : R < w.heap.size := Blk.lt h
  have H0 := Lib.hid fun W t' (h : Rdr W R t') (hl : t'.length ≤ 70000) (k : Below B w W) => null_val R t' W h
  have H1 := Lib.hid fun W t' (h : Rdr W R t') (hl : t'.length ≤ 70000) (k : Below B w W) => number_any R B t' hl W h (hE.on k) hB
  have H2 := Lib.hid fun W t' (h : Rdr W R t') (hl : t'.length ≤ 70000) (k : Below B w W) => quoted_any R B t' hl W h (hE.on k) hB
  have hb1 : Below w.heap.size w (w.alloc (.cells #[.int .i64 0, .int .i64 0, .string ⟨#[]⟩] 40)) := (Below.refl _ _).alloc (Nat.le_refl _) _
  have HR1 := Lib.hid (h.belowV hb1)
  have HK1 := Lib.hid (show Blk (w.alloc (.cells #[.int .i64 0, .int .i64 0, .string ⟨#[]⟩] 40)) w.heap.size 40 #[.int .i64 0, .int .i64 0, .string ⟨#[]⟩] from Blk.new _ _ _)
  have HG1 := Lib.hid (grew_below R hb1)
  have hs1 : (w.alloc (.cells #[.int .i64 0, .int .i64 0, .string ⟨#[]⟩] 40)).heap.size = w.heap.size + 1 := by simp
  have HN2 := Lib.hid (Blk.newAt (w.alloc (.cells #[.int .i64 0, .int .i64 0, .string ⟨#[]⟩] 40)) 150 #[.nilFunc, .nilFunc, .nilFunc] hs1)
  have n0 := HN2.out.cell 0
  have n1 := HN2.out.cell 1
  have n2 := HN2.out.cell 2
  have m0 := HN2.out.froz 0
  have m1 := HN2.out.froz 1
  have m2 := HN2.out.froz 2
  simp only [List.getElem?_toArray, List.getElem?_cons_zero, List.getElem?_cons_succ] at n0 n1 n2
  have HS := Lib.hid (show Rdr ((w.alloc (.cells #[.int .i64 0, .int .i64 0, .string ⟨#[]⟩] 40)).alloc (.cells #[.func (.func 109) #[] #[], .func (.func 110) #[] #[], .func (.func 111) #[] #[]] 150)) R t ∧ Grew w R ((w.alloc (.cells #[.int .i64 0, .int .i64 0, .string ⟨#[]⟩] 40)).alloc (.cells #[.func (.func 109) #[] #[], .func (.func 110) #[] #[], .func (.func 111) #[] #[]] 150)) ∧ Blk ((w.alloc (.cells #[.int .i64 0, .int .i64 0, .string ⟨#[]⟩] 40)).alloc (.cells #[.func (.func 109) #[] #[], .func (.func 110) #[] #[], .func (.func 111) #[] #[]] 150)) w.heap.size 40 #[.int .i64 0, .int .i64 0, .string ⟨#[]⟩] ∧ w.heap.size + 1 ≤ ((w.alloc (.cells #[.int .i64 0, .int .i64 0, .string ⟨#[]⟩] 40)).alloc (.cells #[.func (.func 109) #[] #[], .func (.func 110) #[] #[], .func (.func 111) #[] #[]] 150)).heap.size from
    ⟨Blk.allocG HR1.out _, HG1.out.and (grew_below R ((Below.refl _ _).alloc (Nat.le_refl _) _)), Blk.allocG HK1.out _, by simp⟩)
  have HLL := Lib.hid hl
  clear h hb1 hs1 hE hl
  generalize HTE : t.length = T at HLL ⊢
  go_enter Tryz.func82, Tryz.ntmps82
  go_wp2_with fail
  go_loopw [11] (fun a wr => ∃ (i : Nat) (t' : List UInt8), a = .int .i64 i ∧ i ≤ 3 ∧ Hid (Rdr wr R t') ∧ Hid (t'.length ≤ T ∧ T ≤ 70000) ∧ Hid (Grew w R wr) ∧ Hid (Blk wr w.heap.size 40 #[.int .i64 0, .int .i64 0, .string ⟨#[]⟩]) ∧ w.heap.size + 1 ≤ wr.heap.size) (fun a _ => 3 - (RowKit.intOf a).toNat)
  case atStart =>
    exact ⟨0, t, rfl, Nat.zero_le _, HS.out.1, Lib.hid ⟨Nat.le_of_eq HTE, HLL.out⟩, HS.out.2.1, HS.out.2.2.1, HS.out.2.2.2⟩
  case round =>
    clear HR1 HK1 HG1 HS HN2 n0 n1 n2 m0 m1 m2 HTE HLL
    obtain ⟨i, t', rfl, hi, HR, HTL, HG, HK, hsz⟩ := hrel
    have HBW := Lib.hid (HG.out.low hB (by omega))
    have hcase : i = 0 ∨ i = 1 ∨ i = 2 ∨ i = 3 := by omega
    rcases hcase with rfl | rfl | rfl | rfl
    · skip
      have HC := Lib.hid (H0.out wr t' HR.out (by have := HTL.out; omega) HBW.out)
      have hix := index_0
      clear HBW
      go_wp2_with fail
      refine HC.out.mono ?_
      rintro e w2 ⟨x0, x1, x2, b, t2, rfl, r2, l2, l3, k2⟩
      have HR2 := Lib.hid (Blk.allocG r2 (.cells #[.int .i64 x0, .int .i64 x1, .string x2] 40))
      have HG2 := Lib.hid ((HG.out.and k2).and (grew_below R ((Below.refl _ w2).alloc (Nat.le_refl _) (.cells #[.int .i64 x0, .int .i64 x1, .string x2] 40))))
      have HK2 := Lib.hid ((HK.out.keepG k2 (by simp only [ne_eq, Option.some.injEq]; omega)).allocG (.cells #[.int .i64 x0, .int .i64 x1, .string x2] 40))
      have HV2 := Lib.hid (show Blk (w2.alloc (.cells #[.int .i64 x0, .int .i64 x1, .string x2] 40)) w2.heap.size 40 #[.int .i64 x0, .int .i64 x1, .string x2] from Blk.new _ _ _)
      have hs2 : w.heap.size + 1 ≤ w2.heap.size := by have := k2.size; omega
      have HL2 := Lib.hid (And.intro l2 l3)
      clear r2 k2 HC HR HG HK l2 l3
      cases b with
      | false =>
        go_wp2_with fail
        go_roundw
        case rel => exact ⟨0 + 1, t2, by go_num, by omega, HR2.out, Lib.hid (by have := HTL.out; have := HL2.out.1; omega), HG2.out, HK2.out, by simp; omega⟩
        case measure => simp [RowKit.intOf]
      | true =>
        have hs3 : (w2.alloc (.cells #[.int .i64 x0, .int .i64 x1, .string x2] 40)).heap.size = w2.heap.size + 1 := by simp
        generalize hw3 : w2.alloc (.cells #[.int .i64 x0, .int .i64 x1, .string x2] 40) = w3 at HR2 HG2 HK2 HV2 hs3
        have c0 := HK2.out.cell 0
        have c1 := HK2.out.cell 1
        have c2 := HK2.out.cell 2
        have f0 := HK2.out.froz 0
        have f1 := HK2.out.froz 1
        have f2 := HK2.out.froz 2
        simp only [List.getElem?_toArray, List.getElem?_cons_zero, List.getElem?_cons_succ] at c0 c1 c2
        have d0 := HV2.out.cell 0
        have d1 := HV2.out.cell 1
        have d2 := HV2.out.cell 2
        simp only [List.getElem?_toArray, List.getElem?_cons_zero, List.getElem?_cons_succ] at d0 d1 d2
        have HF := Lib.hid (show Rdr (((w3.setCell ⟨w.heap.size, 0, none⟩ (.int .i64 x0)).setCell ⟨w.heap.size, 1, none⟩ (.int .i64 x1)).setCell ⟨w.heap.size, 2, none⟩ (.string x2)) R t2 ∧ Grew w R (((w3.setCell ⟨w.heap.size, 0, none⟩ (.int .i64 x0)).setCell ⟨w.heap.size, 1, none⟩ (.int .i64 x1)).setCell ⟨w.heap.size, 2, none⟩ (.string x2)) ∧ Blk (((w3.setCell ⟨w.heap.size, 0, none⟩ (.int .i64 x0)).setCell ⟨w.heap.size, 1, none⟩ (.int .i64 x1)).setCell ⟨w.heap.size, 2, none⟩ (.string x2)) w.heap.size 40 #[.int .i64 x0, .int .i64 x1, .string x2] from
          ⟨Blk.setOther (Blk.setOther (Blk.setOther HR2.out (by omega) _) (by omega) _) (by omega) _, grew_low HG2.out (((Below.refl w.heap.size w3).setCell (p := ⟨w.heap.size, 0, none⟩) (Nat.le_refl _) _).setCell (p := ⟨w.heap.size, 1, none⟩) (Nat.le_refl _) _ |>.setCell (p := ⟨w.heap.size, 2, none⟩) (Nat.le_refl _) _) (Nat.le_refl _), ((HK2.out.setG 0 _).setG 1 _).setG 2 _⟩)
        clear hs3
        go_wp2_with fail
        have r0 := HF.out.2.2.cell 0
        have r1 := HF.out.2.2.cell 1
        have r2 := HF.out.2.2.cell 2
        simp only [List.getElem?_toArray, List.getElem?_cons_zero, List.getElem?_cons_succ] at r0 r1 r2
        refine bodyPost_ret (v := .tuple #[.agg #[.int .i64 x0, .int .i64 x1, .string x2], .bool true]) (by simp [results, Tryz.f82, go_sem, r0, r1, r2]) rfl ?_
        exact ⟨x0, x1, x2, true, t2, rfl, HF.out.1, by have := HTL.out; have := HL2.out.1; omega, fun _ => by have := HTL.out; have := HL2.out.2 trivial; omega, HF.out.2.1⟩
    · skip
      have HC := Lib.hid (H1.out wr t' HR.out (by have := HTL.out; omega) HBW.out)
      have hix := index_1
      clear HBW
      go_wp2_with fail
      refine HC.out.mono ?_
      rintro e w2 ⟨x0, x1, x2, b, t2, rfl, r2, l2, l3, k2⟩
      have HR2 := Lib.hid (Blk.allocG r2 (.cells #[.int .i64 x0, .int .i64 x1, .string x2] 40))
      have HG2 := Lib.hid ((HG.out.and k2).and (grew_below R ((Below.refl _ w2).alloc (Nat.le_refl _) (.cells #[.int .i64 x0, .int .i64 x1, .string x2] 40))))
      have HK2 := Lib.hid ((HK.out.keepG k2 (by simp only [ne_eq, Option.some.injEq]; omega)).allocG (.cells #[.int .i64 x0, .int .i64 x1, .string x2] 40))
      have HV2 := Lib.hid (show Blk (w2.alloc (.cells #[.int .i64 x0, .int .i64 x1, .string x2] 40)) w2.heap.size 40 #[.int .i64 x0, .int .i64 x1, .string x2] from Blk.new _ _ _)
      have hs2 : w.heap.size + 1 ≤ w2.heap.size := by have := k2.size; omega
      have HL2 := Lib.hid (And.intro l2 l3)
      clear r2 k2 HC HR HG HK l2 l3
      cases b with
      | false =>
        go_wp2_with fail
        go_roundw
        case rel => exact ⟨1 + 1, t2, by go_num, by omega, HR2.out, Lib.hid (by have := HTL.out; have := HL2.out.1; omega), HG2.out, HK2.out, by simp; omega⟩
        case measure => simp [RowKit.intOf]
      | true =>
        have hs3 : (w2.alloc (.cells #[.int .i64 x0, .int .i64 x1, .string x2] 40)).heap.size = w2.heap.size + 1 := by simp
        generalize hw3 : w2.alloc (.cells #[.int .i64 x0, .int .i64 x1, .string x2] 40) = w3 at HR2 HG2 HK2 HV2 hs3
        have c0 := HK2.out.cell 0
        have c1 := HK2.out.cell 1
        have c2 := HK2.out.cell 2
        have f0 := HK2.out.froz 0
        have f1 := HK2.out.froz 1
        have f2 := HK2.out.froz 2
        simp only [List.getElem?_toArray, List.getElem?_cons_zero, List.getElem?_cons_succ] at c0 c1 c2
        have d0 := HV2.out.cell 0
        have d1 := HV2.out.cell 1
        have d2 := HV2.out.cell 2
        simp only [List.getElem?_toArray, List.getElem?_cons_zero, List.getElem?_cons_succ] at d0 d1 d2
        have HF := Lib.hid (show Rdr (((w3.setCell ⟨w.heap.size, 0, none⟩ (.int .i64 x0)).setCell ⟨w.heap.size, 1, none⟩ (.int .i64 x1)).setCell ⟨w.heap.size, 2, none⟩ (.string x2)) R t2 ∧ Grew w R (((w3.setCell ⟨w.heap.size, 0, none⟩ (.int .i64 x0)).setCell ⟨w.heap.size, 1, none⟩ (.int .i64 x1)).setCell ⟨w.heap.size, 2, none⟩ (.string x2)) ∧ Blk (((w3.setCell ⟨w.heap.size, 0, none⟩ (.int .i64 x0)).setCell ⟨w.heap.size, 1, none⟩ (.int .i64 x1)).setCell ⟨w.heap.size, 2, none⟩ (.string x2)) w.heap.size 40 #[.int .i64 x0, .int .i64 x1, .string x2] from
          ⟨Blk.setOther (Blk.setOther (Blk.setOther HR2.out (by omega) _) (by omega) _) (by omega) _, grew_low HG2.out (((Below.refl w.heap.size w3).setCell (p := ⟨w.heap.size, 0, none⟩) (Nat.le_refl _) _).setCell (p := ⟨w.heap.size, 1, none⟩) (Nat.le_refl _) _ |>.setCell (p := ⟨w.heap.size, 2, none⟩) (Nat.le_refl _) _) (Nat.le_refl _), ((HK2.out.setG 0 _).setG 1 _).setG 2 _⟩)
        clear hs3
        go_wp2_with fail
        have r0 := HF.out.2.2.cell 0
        have r1 := HF.out.2.2.cell 1
        have r2 := HF.out.2.2.cell 2
        simp only [List.getElem?_toArray, List.getElem?_cons_zero, List.getElem?_cons_succ] at r0 r1 r2
        refine bodyPost_ret (v := .tuple #[.agg #[.int .i64 x0, .int .i64 x1, .string x2], .bool true]) (by simp [results, Tryz.f82, go_sem, r0, r1, r2]) rfl ?_
        exact ⟨x0, x1, x2, true, t2, rfl, HF.out.1, by have := HTL.out; have := HL2.out.1; omega, fun _ => by have := HTL.out; have := HL2.out.2 trivial; omega, HF.out.2.1⟩
    · skip
      have HC := Lib.hid (H2.out wr t' HR.out (by have := HTL.out; omega) HBW.out)
      have hix := index_2
      clear HBW
      go_wp2_with fail
      refine HC.out.mono ?_
      rintro e w2 ⟨x0, x1, x2, b, t2, rfl, r2, l2, l3, k2⟩
      have HR2 := Lib.hid (Blk.allocG r2 (.cells #[.int .i64 x0, .int .i64 x1, .string x2] 40))
      have HG2 := Lib.hid ((HG.out.and k2).and (grew_below R ((Below.refl _ w2).alloc (Nat.le_refl _) (.cells #[.int .i64 x0, .int .i64 x1, .string x2] 40))))
      have HK2 := Lib.hid ((HK.out.keepG k2 (by simp only [ne_eq, Option.some.injEq]; omega)).allocG (.cells #[.int .i64 x0, .int .i64 x1, .string x2] 40))
      have HV2 := Lib.hid (show Blk (w2.alloc (.cells #[.int .i64 x0, .int .i64 x1, .string x2] 40)) w2.heap.size 40 #[.int .i64 x0, .int .i64 x1, .string x2] from Blk.new _ _ _)
      have hs2 : w.heap.size + 1 ≤ w2.heap.size := by have := k2.size; omega
      have HL2 := Lib.hid (And.intro l2 l3)
      clear r2 k2 HC HR HG HK l2 l3
      cases b with
      | false =>
        go_wp2_with fail
        go_roundw
        case rel => exact ⟨2 + 1, t2, by go_num, by omega, HR2.out, Lib.hid (by have := HTL.out; have := HL2.out.1; omega), HG2.out, HK2.out, by simp; omega⟩
        case measure => simp [RowKit.intOf]
      | true =>
        have hs3 : (w2.alloc (.cells #[.int .i64 x0, .int .i64 x1, .string x2] 40)).heap.size = w2.heap.size + 1 := by simp
        generalize hw3 : w2.alloc (.cells #[.int .i64 x0, .int .i64 x1, .string x2] 40) = w3 at HR2 HG2 HK2 HV2 hs3
        have c0 := HK2.out.cell 0
        have c1 := HK2.out.cell 1
        have c2 := HK2.out.cell 2
        have f0 := HK2.out.froz 0
        have f1 := HK2.out.froz 1
        have f2 := HK2.out.froz 2
        simp only [List.getElem?_toArray, List.getElem?_cons_zero, List.getElem?_cons_succ] at c0 c1 c2
        have d0 := HV2.out.cell 0
        have d1 := HV2.out.cell 1
        have d2 := HV2.out.cell 2
        simp only [List.getElem?_toArray, List.getElem?_cons_zero, List.getElem?_cons_succ] at d0 d1 d2
        have HF := Lib.hid (show Rdr (((w3.setCell ⟨w.heap.size, 0, none⟩ (.int .i64 x0)).setCell ⟨w.heap.size, 1, none⟩ (.int .i64 x1)).setCell ⟨w.heap.size, 2, none⟩ (.string x2)) R t2 ∧ Grew w R (((w3.setCell ⟨w.heap.size, 0, none⟩ (.int .i64 x0)).setCell ⟨w.heap.size, 1, none⟩ (.int .i64 x1)).setCell ⟨w.heap.size, 2, none⟩ (.string x2)) ∧ Blk (((w3.setCell ⟨w.heap.size, 0, none⟩ (.int .i64 x0)).setCell ⟨w.heap.size, 1, none⟩ (.int .i64 x1)).setCell ⟨w.heap.size, 2, none⟩ (.string x2)) w.heap.size 40 #[.int .i64 x0, .int .i64 x1, .string x2] from
          ⟨Blk.setOther (Blk.setOther (Blk.setOther HR2.out (by omega) _) (by omega) _) (by omega) _, grew_low HG2.out (((Below.refl w.heap.size w3).setCell (p := ⟨w.heap.size, 0, none⟩) (Nat.le_refl _) _).setCell (p := ⟨w.heap.size, 1, none⟩) (Nat.le_refl _) _ |>.setCell (p := ⟨w.heap.size, 2, none⟩) (Nat.le_refl _) _) (Nat.le_refl _), ((HK2.out.setG 0 _).setG 1 _).setG 2 _⟩)
        clear hs3
        go_wp2_with fail
        have r0 := HF.out.2.2.cell 0
        have r1 := HF.out.2.2.cell 1
        have r2 := HF.out.2.2.cell 2
        simp only [List.getElem?_toArray, List.getElem?_cons_zero, List.getElem?_cons_succ] at r0 r1 r2
        refine bodyPost_ret (v := .tuple #[.agg #[.int .i64 x0, .int .i64 x1, .string x2], .bool true]) (by simp [results, Tryz.f82, go_sem, r0, r1, r2]) rfl ?_
        exact ⟨x0, x1, x2, true, t2, rfl, HF.out.1, by have := HTL.out; have := HL2.out.1; omega, fun _ => by have := HTL.out; have := HL2.out.2 trivial; omega, HF.out.2.1⟩
    · clear HBW
      have c0 := HK.out.cell 0
      have c1 := HK.out.cell 1
      have c2 := HK.out.cell 2
      have f0 := HK.out.froz 0
      have f1 := HK.out.froz 1
      have f2 := HK.out.froz 2
      simp only [List.getElem?_toArray, List.getElem?_cons_zero, List.getElem?_cons_succ] at c0 c1 c2
      have HF := Lib.hid (show Rdr (((wr.setCell ⟨w.heap.size, 0, none⟩ (.int .i64 0)).setCell ⟨w.heap.size, 1, none⟩ (.int .i64 0)).setCell ⟨w.heap.size, 2, none⟩ (.string ⟨#[]⟩)) R t' ∧ Grew w R (((wr.setCell ⟨w.heap.size, 0, none⟩ (.int .i64 0)).setCell ⟨w.heap.size, 1, none⟩ (.int .i64 0)).setCell ⟨w.heap.size, 2, none⟩ (.string ⟨#[]⟩)) ∧ Blk (((wr.setCell ⟨w.heap.size, 0, none⟩ (.int .i64 0)).setCell ⟨w.heap.size, 1, none⟩ (.int .i64 0)).setCell ⟨w.heap.size, 2, none⟩ (.string ⟨#[]⟩)) w.heap.size 40 #[.int .i64 0, .int .i64 0, .string ⟨#[]⟩] from
        ⟨Blk.setOther (Blk.setOther (Blk.setOther HR.out (by omega) _) (by omega) _) (by omega) _, grew_low HG.out (((Below.refl w.heap.size wr).setCell (p := ⟨w.heap.size, 0, none⟩) (Nat.le_refl _) _).setCell (p := ⟨w.heap.size, 1, none⟩) (Nat.le_refl _) _ |>.setCell (p := ⟨w.heap.size, 2, none⟩) (Nat.le_refl _) _) (Nat.le_refl _), ((HK.out.setG 0 _).setG 1 _).setG 2 _⟩)
      go_wp2_with fail
      have r0 := HF.out.2.2.cell 0
      have r1 := HF.out.2.2.cell 1
      have r2 := HF.out.2.2.cell 2
      simp only [List.getElem?_toArray, List.getElem?_cons_zero, List.getElem?_cons_succ] at r0 r1 r2
      refine bodyPost_ret (v := .tuple #[.agg #[.int .i64 0, .int .i64 0, .string ⟨#[]⟩], .bool false]) (by simp [results, Tryz.f82, go_sem, r0, r1, r2]) rfl ?_
      exact ⟨0, 0, ⟨#[]⟩, false, t', rfl, HF.out.1, HTL.out.1, fun h => (by cases h), HF.out.2.1⟩
end Go.Proofs.YtledgnolmiecfaaGreatDoor

/-!
  The reader of package row at any text: row.
-/
namespace Go.Proofs.YtledgnolmiecfaaGreatDoor
open Go.RowKit Go.Lib
set_option linter.unusedSimpArgs false
set_option linter.unusedVariables false

def RowsPost (w : World) (R : Nat) (e : Ending) (w' : World) : Prop := ∃ (v : Value) (b : Bool) (xs : List Val), e = .returned (.tuple #[v, .bool b]) ∧ OwnsV w' w.heap.size v xs ∧ Grew w R w'
theorem bs_ends (l : List UInt8) : (bs l).toList.isEmpty = l.isEmpty ∧ ((bs l).toList = [] ↔ l = []) := by
  rw [ByteArray.toList_eq]
  exact ⟨rfl, Iff.rfl⟩

set_option maxRecDepth 100000 in
set_option maxHeartbeats 4000000 in
theorem row_any (R B : Nat) (t : List UInt8) (ht : t ≠ []) (hl : t.length ≤ 70000) (w : World) (h : Rdr w R t) (hE : Env B w) (hB : B ≤ R) :
    Calls Tryz.prog 59 #[.pointer (some ⟨R, 0, none⟩)] w (RowsPost w R) := by
  obtain ⟨i0, hi, hz0, hz1, hz2⟩ := info_parts infoV
  have hRl : R < w.heap.size := Blk.lt h
  have HVA := Lib.hid fun W t' (h : Rdr W R t') (hl : t'.length ≤ 70000) (k : Below B w W) => value_any R B t' hl W h (hE.on k) hB
  have HTK := Lib.hid fun W t (h : Rdr W R t) => take_any R t [44] W h
  unfold bs at HTK
  simp only [List.toArray] at HTK
  have c0 : w.cell? ⟨R, 0, none⟩ = some (.string (bs t)) := Blk.cell h 0
  obtain ⟨y1, y2⟩ := bs_empty ht
  have H0 := Lib.hid h
  have HLL := Lib.hid hl
  generalize bs t = y at c0 y1 y2
  clear h hE ht hl
  go_enter Tryz.func59, Tryz.ntmps59
  go_wp2_with fail
  go_loopw [4] (fun a wr => ∃ (xs : List Val) (cap : Nat) (q : Option Addr) (t' : List UInt8), a = .slice q xs.length cap ∧ xs.length ≤ 8 ∧ Hid (t'.length ≤ 70000) ∧ Hid (OwnsV wr w.heap.size a xs) ∧ Hid (Rdr wr R t') ∧ Hid (Grew w R wr)) (fun a _ => 8 - lenOf a)
  case atStart => exact ⟨[], 0, none, t, rfl, Nat.zero_le _, HLL.out, World.ownsRow_nil _ _ _ _, H0.out, grew_refl _ _⟩
  case round =>
    clear H0 c0 y1 y2 HLL
    obtain ⟨xs, cap, q, t', rfl, h8, HTL, HO, HR, HG⟩ := hrel
    have hsz : w.heap.size ≤ wr.heap.size := HG.out.size
    by_cases hlt : xs.length < 8
    · have g8 : (xs.length : Int) < 8 := by omega
      have HC := Lib.hid (HVA.out wr t' HR.out HTL.out (HG.out.low hB (by omega)))
      clear HR HVA
      go_wp2_with fail
      refine HC.out.mono ?_
      rintro e w2 ⟨x0, x1, x2, b, t2, rfl, r2, l2, _, k2⟩
      have HR2 := Lib.hid (Blk.allocG r2 (.cells #[.int .i64 x0, .int .i64 x1, .string x2] 40))
      have HG2 := Lib.hid ((HG.out.and k2).and (grew_below R ((Below.refl _ w2).alloc (Nat.le_refl _) (.cells #[.int .i64 x0, .int .i64 x1, .string x2] 40))))
      have HO2 := Lib.hid (World.ownsRow.alloc (own_grew HO.out k2 (by omega)) (.cells #[.int .i64 x0, .int .i64 x1, .string x2] 40))
      have HV2 := Lib.hid (show Blk (w2.alloc (.cells #[.int .i64 x0, .int .i64 x1, .string x2] 40)) w2.heap.size 40 #[.int .i64 x0, .int .i64 x1, .string x2] from Blk.new _ _ _)
      have hs2 : w.heap.size ≤ w2.heap.size := Nat.le_trans hsz k2.size
      have HL2 := Lib.hid (show t2.length ≤ 70000 by have := HTL.out; omega)
      clear r2 k2 HC HO HG l2 HTL
      cases b with
      | false =>
        clear HTK HV2 HR2 HO2
        go_wp2_with fail
        go_ret2
        exact ⟨_, false, [], rfl, World.ownsRow_nil _ _ _ _, HG2.out⟩
      | true =>
        have hs3 : (w2.alloc (.cells #[.int .i64 x0, .int .i64 x1, .string x2] 40)).heap.size = w2.heap.size + 1 := by simp
        generalize hw3 : w2.alloc (.cells #[.int .i64 x0, .int .i64 x1, .string x2] 40) = w3 at HR2 HG2 HO2 HV2 hs3
        have d0 := HV2.out.cell 0
        have d1 := HV2.out.cell 1
        have d2 := HV2.out.cell 2
        simp only [List.getElem?_toArray, List.getElem?_cons_zero, List.getElem?_cons_succ] at d0 d1 d2
        have hO3 := HO2.out
        have c0 : w3.cell? ⟨R, 0, none⟩ = some (.string (bs t2)) := Blk.cell HR2.out 0
        have hs4 : w.heap.size ≤ w3.heap.size := by omega
        by_cases hn : t2 = []
        · subst hn
          have hy := bs_nil
          generalize bs [] = y at c0 hy
          obtain ⟨y1, y2⟩ := hy
          clear hs3
          go_wp2_with (at_builtin; refine wpList_append_own _ rfl _ _ 36 rfl w.heap.size 40 i0 (.agg #[.int .i64 0, .int .i64 0, .string ⟨#[]⟩]) 3 32 Tryz.underlying36 hi hz0 hz1 hz2 rfl (by decide) _ _ _ rfl (World.ownsRow.alloc hO3 _) ⟨w3.heap.size, 0, none⟩ 1 1 [.int .i64 x0, .int .i64 x1, .string x2] rfl rfl (cells_newR _ _ _) (by simp [Value.oneCell']) (by unfold maxLen; omega) (by omega) (by simp <;> omega) ?_; intro v' w5 hown' hgrow _; have HF := Lib.hid (show w5.ownsRow w.heap.size 40 3 v' (xs.length + 1) (flatV (xs ++ [(x0, x1, x2)])) ∧ Below w.heap.size w3 w5 from ⟨by rw [flatV_app]; simpa [flatV, cellsV] using hown', ((Below.refl w.heap.size w3).alloc hs4 (.cells #[.int .i64 x0, .int .i64 x1, .string x2] 40)).grown hgrow (by simp; omega) (fun k e => (World.ownsRow.lt hO3 k e).1)⟩); have c5 : w5.cell? ⟨R, 0, none⟩ = some (.string y) := (HF.out.2.cell (p := ⟨R, 0, none⟩) hRl).trans c0; clear hown' hgrow)
          obtain ⟨q', cap', hv'⟩ := slice_of_owns HF.out.1
          subst hv'
          have HFG := Lib.hid (grew_low HG2.out HF.out.2 (Nat.le_refl _))
          clear hO3
          go_wp2_with fail
          go_ret2
          exact ⟨_, true, xs ++ [(x0, x1, x2)], rfl, by have := HF.out.1; unfold OwnsV; rw [List.length_append]; exact this, HFG.out⟩
        · obtain ⟨y1, y2⟩ := bs_empty hn
          generalize bs t2 = y at c0 y1 y2
          clear hs3
          go_wp2_with (at_builtin; refine wpList_append_own _ rfl _ _ 36 rfl w.heap.size 40 i0 (.agg #[.int .i64 0, .int .i64 0, .string ⟨#[]⟩]) 3 32 Tryz.underlying36 hi hz0 hz1 hz2 rfl (by decide) _ _ _ rfl (World.ownsRow.alloc hO3 _) ⟨w3.heap.size, 0, none⟩ 1 1 [.int .i64 x0, .int .i64 x1, .string x2] rfl rfl (cells_newR _ _ _) (by simp [Value.oneCell']) (by unfold maxLen; omega) (by omega) (by simp <;> omega) ?_; intro v' w5 hown' hgrow _; have HF := Lib.hid (show w5.ownsRow w.heap.size 40 3 v' (xs.length + 1) (flatV (xs ++ [(x0, x1, x2)])) ∧ Below w.heap.size w3 w5 from ⟨by rw [flatV_app]; simpa [flatV, cellsV] using hown', ((Below.refl w.heap.size w3).alloc hs4 (.cells #[.int .i64 x0, .int .i64 x1, .string x2] 40)).grown hgrow (by simp; omega) (fun k e => (World.ownsRow.lt hO3 k e).1)⟩); have c5 : w5.cell? ⟨R, 0, none⟩ = some (.string y) := (HF.out.2.cell (p := ⟨R, 0, none⟩) hRl).trans c0; clear hown' hgrow)
          obtain ⟨q', cap', hv'⟩ := slice_of_owns HF.out.1
          subst hv'
          clear hO3
          have HR5 := Lib.hid (Blk.belowV HR2.out HF.out.2 (by omega))
          have HT := Lib.hid (HTK.out w5 t2 HR5.out)
          have HG5 := Lib.hid (grew_low HG2.out HF.out.2 (Nat.le_refl _))
          have HL6 := Lib.hid (trim_len t2 [44])
          generalize Lib.trimPrefix t2 [44] = t3 at HT HL6
          generalize Lib.hasPrefix t2 [44] = b2 at HT
          go_wp2_with fail
          refine HT.out.mono ?_
          rintro e w6 ⟨rfl, r6, k6⟩
          have HO6 := Lib.hid (own_grew HF.out.1 k6 (by omega))
          have HG6 := Lib.hid (HG5.out.and k6)
          have HR6 := Lib.hid r6
          clear r6 k6 HT
          cases b2 with
          | false =>
            go_wp2_with fail
            go_ret2
            exact ⟨_, false, [], rfl, World.ownsRow_nil _ _ _ _, HG6.out⟩
          | true =>
            go_wp2_with fail
            go_roundw
            case rel => exact ⟨xs ++ [(x0, x1, x2)], cap', q', t3, by simp, by simp; omega, Lib.hid (by have := HL2.out; have := HL6.out; omega), Lib.hid (by unfold OwnsV; rw [List.length_append]; exact HO6.out), HR6.out, HG6.out⟩
            case measure => simp [lenOf]; omega
    · have g8 : ¬ (xs.length : Int) < 8 := by omega
      clear HVA HTK HR HO
      go_wp2_with fail
      go_ret2
      exact ⟨_, false, [], rfl, World.ownsRow_nil _ _ _ _, HG.out⟩
end Go.Proofs.YtledgnolmiecfaaGreatDoor

/-!
  Parse of package row at a text that is no row's, and at a long one.
-/
namespace Go.Proofs.YtledgnolmiecfaaGreatDoor
open Go.RowKit Go.Lib
set_option linter.unusedSimpArgs false
set_option linter.unusedVariables false

/-- A row's text. -/
def IsRow (t : List UInt8) : Prop := ∃ xs, validRow xs = true ∧ textR xs = t
theorem not_row_ne {t : List UInt8} (h : ¬ IsRow t) : t ≠ [] := fun e => h ⟨[], by decide, by rw [e]; rfl⟩
theorem not_row_text {t : List UInt8} (h : ¬ IsRow t) (xs : List Val) : textOf xs ≠ t := by
  unfold textOf
  split
  · rename_i hv
    exact fun e => h ⟨xs, hv, e⟩
  · exact (not_row_ne h).symm
theorem bs_ne {a b : List UInt8} (h : a ≠ b) : (bs a).toList ≠ (bs b).toList := by rw [ByteArray.toList_eq, ByteArray.toList_eq]; exact h

set_option maxRecDepth 100000 in
set_option maxHeartbeats 2000000 in
theorem rowParse_not (t : List UInt8) (hn : ¬ IsRow t) (hl : t.length ≤ 65536) (w : World) (hE : Env w.heap.size w) :
    Calls Tryz.prog 41 #[.string (bs t)] w fun e w' => e = .returned (.tuple #[.slice none 0 0, .int .i64 2]) ∧ Below w.heap.size w w' := by
  have hsz : (bs t).size = t.length := bs_size t
  have hbA : Below w.heap.size w (w.alloc (.cells #[.string (bs t)] 97)) := (Below.refl _ _).alloc (Nat.le_refl _) _
  have hR : Rdr (w.alloc (.cells #[.string (bs t)] 97)) w.heap.size t := Blk.new _ _ _
  have hs1 : (w.alloc (.cells #[.string (bs t)] 97)).heap.size = w.heap.size + 1 := by simp
  have HR := Lib.hid (row_any w.heap.size w.heap.size t (not_row_ne hn) (by omega) _ hR (hE.on hbA) (Nat.le_refl _))
  have HB := Lib.hid hbA
  have HX := Lib.hid fun W (p : Option Addr) (cap : Nat) xs (hX : ValsIn W p xs) (hT : Tab W.heap.size W) => rowText_any p xs cap W hX hT
  have HNE := Lib.hid fun xs => bs_ne (not_row_text hn xs)
  have HE := Lib.hid hE
  clear hR hbA hE hn
  generalize bs t = y at hsz HR HB HNE hs1
  generalize hw1 : w.alloc (.cells #[.string y] 97) = w1 at HR HB hs1
  have g1 : (y.size : Int) ≤ 65536 := by omega
  have HS1 := Lib.hid hs1
  clear hs1 hsz
  go_enter Tryz.func41, Tryz.ntmps41
  go_wp2_with fail
  refine HR.out.mono ?_
  rintro e w2 ⟨v, b, xs, rfl, o2, k2⟩
  have hs0 := HS1.out
  have HB2 := Lib.hid (HB.out.trans (k2.low (Nat.le_refl _) (by omega)))
  clear HR
  cases b with
  | false =>
    clear HX HNE o2 k2 hs0
    go_wp2_with fail
    go_ret2
    exact ⟨rfl, HB2.out⟩
  | true =>
    obtain ⟨q, cap, rfl⟩ := slice_of_owns o2
    have HO2 := Lib.hid (ownsRow_base o2 (show w.heap.size ≤ w1.heap.size by omega))
    have HT := Lib.hid (HX.out w2 q cap xs (valsIn_of_owns HO2.out) ((HE.out.on HB2.out).up HB2.out.size).tab)
    have hne := HNE.out xs
    unfold TextPost at HT
    rw [show (⟨(textOf xs).toArray⟩ : ByteArray) = bs (textOf xs) from rfl] at HT
    generalize bs (textOf xs) = z at HT hne
    have hzy : (z.toList == y.toList) = false := by simpa using hne
    clear o2 k2 HX hs0 HNE
    go_wp2_with fail
    refine HT.out.mono ?_
    rintro e w3 ⟨rfl, k3⟩
    have HF := Lib.hid (show Below w.heap.size w w3 from HB2.out.trans (k3.mono HB2.out.size))
    clear k3 HT
    go_wp2_with fail
    go_ret2
    exact ⟨rfl, HF.out⟩
set_option maxRecDepth 100000 in
theorem rowParse_long (t : ByteArray) (hl : 65536 < t.size) (w : World) :
    Calls Tryz.prog 41 #[.string t] w fun e w' => e = .returned (.tuple #[.slice none 0 0, .int .i64 3]) ∧ Below w.heap.size w w' := by
  have g1 : (65536 : Int) < t.size := by omega
  clear hl
  go_enter Tryz.func41, Tryz.ntmps41
  go_wp2_with fail
  go_ret2
  exact ⟨rfl, Below.refl _ _⟩
end Go.Proofs.YtledgnolmiecfaaGreatDoor

