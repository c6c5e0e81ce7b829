/-
  The reader of package row at any text: next, hex, char.
-/
import Derived.Test.YtmjobnakaamlpaaDoorPv
import Derived.Test.YtmjobnakaamlpaaDoorRj
namespace Go.Proofs.YtmjobnakaamlpaaDoor
open Go.RowKit Go.Lib
set_option linter.unusedSimpArgs false
set_option linter.unusedVariables false

set_option maxRecDepth 100000 in
theorem next_short (R : Nat) (t : List UInt8) (n : Nat) (hn : t.length < n) (w : World) (h : Rdr w R t) :
    Calls Tryd.prog 52 #[.pointer (some ⟨R, 0, none⟩), .int .i64 (n : Int)] w fun e w' => e = .returned (.tuple #[.string ⟨#[]⟩, .bool false]) ∧ w = w' := by
  have c0 : w.cell? ⟨R, 0, none⟩ = some (.string (bs t)) := Blk.cell h 0
  have hsz : (bs t).size = t.length := bs_size t
  generalize bs t = y at c0 hsz
  have g1 : (y.size : Int) < (n : Int) := by omega
  clear hsz hn h
  go_enter Tryd.func52, Tryd.ntmps52
  go_wp2_with fail
  go_ret2
  exact ⟨rfl, rfl⟩
/-- A byte is read, or none; what is left is no longer; where one is read, shorter. -/
def BytePost (w : World) (R k : Nat) (e : Ending) (w' : World) : Prop := ∃ (c : Int) (b : Bool) (t' : List UInt8), e = .returned (.tuple #[.int .u8 c, .bool b]) ∧ 0 ≤ c ∧ c < 256 ∧ Rdr w' R t' ∧ t'.length ≤ k ∧ (b = true → t'.length < k) ∧ Grew w R w'
set_option maxRecDepth 100000 in
set_option maxHeartbeats 1000000 in
theorem hex_any (R B : Nat) (t : List UInt8) (ht : t.length ≤ 70000) (w : World) (h : Rdr w R t) (hE : Env B w) (hB : B ≤ R) :
    Calls Tryd.prog 51 #[.pointer (some ⟨R, 0, none⟩)] w (BytePost w R t.length) := by
  have hRl : R < w.heap.size := Blk.lt h
  by_cases hl : t.length < 2
  · have HN := Lib.hid (next_short R t 2 hl w h)
    have HF := Lib.hid (And.intro h (grew_refl w R))
    clear h hE
    go_enter Tryd.func51, Tryd.ntmps51
    go_wp2_with fail
    refine HN.out.mono ?_
    rintro e w1 ⟨rfl, rfl⟩
    go_wp2_with fail
    go_ret2
    exact ⟨0, false, t, rfl, by omega, by omega, HF.out.1, Nat.le_refl _, fun h => (by cases h), HF.out.2⟩
  · have HN := Lib.hid (next_any R t 2 (by omega) (by omega) w h)
    have hts : (bs (t.take 2)).size = 2 := by rw [bs_size, List.length_take]; omega
    have hdl : (t.drop 2).length < t.length := by rw [List.length_drop]; omega
    have HP := Lib.hid fun W (k : Below B w W) => parseUint_two (bs (t.take 2)) hts B W (by have := k.size; omega) (hE.on k)
    generalize bs (t.take 2) = x at HN HP
    have HDL := Lib.hid hdl
    clear h hE hts hdl
    generalize t.drop 2 = t' at HN HDL
    go_enter Tryd.func51, Tryd.ntmps51
    go_wp2_with fail
    refine HN.out.mono ?_
    rintro e w1 ⟨rfl, r1, k1⟩
    have HPP := Lib.hid (HP.out w1 (k1.low hB (by omega)))
    have H1 := Lib.hid (And.intro r1 k1)
    clear r1 k1 HN HP
    go_wp2_with fail
    refine HPP.out.mono ?_
    rintro e w2 ⟨⟨n, r, n0, n1, rfl, hr⟩, k2⟩
    have HF := Lib.hid (show Rdr w2 R t' ∧ Grew w R w2 from ⟨H1.out.1.belowV k2, H1.out.2.and (grew_below R k2)⟩)
    have hw : IntKind.u8.wrap n = n := by rw [IntKind.wrap_u8]; omega
    clear k2 HPP
    rcases hr with rfl | ⟨tt, qq, rfl⟩
    · have HN01 := Lib.hid (And.intro n0 n1)
      go_wp2_with fail
      go_ret2
      exact ⟨n, true, t', rfl, HN01.out.1, HN01.out.2, HF.out.1, Nat.le_of_lt HDL.out, fun _ => HDL.out, HF.out.2⟩
    · clear n0 n1
      go_wp2_with fail
      go_ret2
      exact ⟨0, false, t', rfl, by omega, by omega, HF.out.1, Nat.le_of_lt HDL.out, fun _ => HDL.out, HF.out.2⟩
theorem trim_len (t p : List UInt8) : (Lib.trimPrefix t p).length ≤ t.length := by
  unfold Lib.trimPrefix
  split
  · rw [List.length_drop]; omega
  · exact Nat.le_refl _
theorem trim_less {t p : List UInt8} (h : Lib.hasPrefix t p = true) (hp : 0 < p.length) : (Lib.trimPrefix t p).length < t.length := by
  unfold Lib.trimPrefix
  rw [if_pos h, List.length_drop]
  have : p.length ≤ t.length := by
    unfold Lib.hasPrefix at h
    exact (List.isPrefixOf_iff_prefix.1 h).length_le
  omega

set_option maxRecDepth 100000 in
set_option maxHeartbeats 2000000 in
theorem char_any (R B : Nat) (t : List UInt8) (ht : t.length ≤ 70000) (w : World) (h : Rdr w R t) (hE : Env B w) (hB : B ≤ R) :
    Calls Tryd.prog 42 #[.pointer (some ⟨R, 0, none⟩)] w (BytePost w R t.length) := by
  have hRl : R < w.heap.size := Blk.lt h
  have HA := take_any R t [92, 110] w h
  have HB := Lib.hid fun W (h : Rdr W R t) => take_any R t [92, 120] W h
  have HC := Lib.hid fun W (h : Rdr W R t) => take_any R t [92] W h
  have HH := Lib.hid fun W t' (hl : t'.length ≤ 70000) (h : Rdr W R t') (k : Below B w W) => hex_any R B t' hl W h (hE.on k) hB
  unfold bs at HA HB HC
  simp only [List.toArray] at HA HB HC
  cases hp1 : Lib.hasPrefix t [92, 110] with
  | true =>
    rw [hp1] at HA
    have HL := Lib.hid (trim_less hp1 (by decide))
    have HA := Lib.hid HA
    clear h hE HB HC HH hp1
    generalize Lib.trimPrefix t [92, 110] = t' at HA HL
    go_enter Tryd.func42, Tryd.ntmps42
    go_wp2_with fail
    refine HA.out.mono ?_
    rintro e w1 ⟨rfl, r1, k1⟩
    have H1 := Lib.hid (And.intro r1 k1)
    clear r1 k1
    go_wp2_with fail
    go_ret2
    exact ⟨10, true, t', rfl, by omega, by omega, H1.out.1, Nat.le_of_lt HL.out, fun _ => HL.out, H1.out.2⟩
  | false =>
    rw [hp1, trim_no hp1] at HA
    have HA := Lib.hid HA
    clear h hE hp1
    cases hp2 : Lib.hasPrefix t [92, 120] with
    | true =>
      rw [hp2] at HB
      have HL := Lib.hid (trim_less hp2 (by decide))
      clear HC hp2
      generalize Lib.trimPrefix t [92, 120] = t' at HB HL
      go_enter Tryd.func42, Tryd.ntmps42
      go_wp2_with fail
      refine HA.out.mono ?_
      rintro e w1 ⟨rfl, r1, k1⟩
      have HBB := Lib.hid (HB.out w1 r1)
      have H1 := Lib.hid k1
      clear r1 k1 HA HB
      go_wp2_with fail
      refine HBB.out.mono ?_
      rintro e w2 ⟨rfl, r2, k2⟩
      have HG2 := Lib.hid (H1.out.and k2)
      have HHH := Lib.hid (HH.out w2 t' (by have := HL.out; omega) r2 (HG2.out.low hB (by omega)))
      clear r2 k2 HBB HH H1
      go_wp2_with fail
      refine HHH.out.mono ?_
      rintro e w3 ⟨c, b, t3, rfl, c0, c1, r3, l3, _, k3⟩
      have HF := Lib.hid (And.intro (And.intro c0 c1) (And.intro r3 (And.intro l3 (HG2.out.and k3))))
      clear c0 c1 r3 l3 k3
      go_wp2_with fail
      go_ret2
      exact ⟨c, b, t3, rfl, HF.out.1.1, HF.out.1.2, HF.out.2.1, by have := HF.out.2.2.1; have := HL.out; omega, fun _ => by have := HF.out.2.2.1; have := HL.out; omega, HF.out.2.2.2⟩
    | false =>
      rw [hp2, trim_no hp2] at HB
      have HL := Lib.hid (trim_len t [92])
      clear HH hp2
      generalize Lib.trimPrefix t [92] = t' at HC HL
      generalize Lib.hasPrefix t [92] = b0 at HC
      by_cases hn : t'.length < 1
      · have HN := Lib.hid fun W (h : Rdr W R t') => next_short R t' 1 hn W h
        go_enter Tryd.func42, Tryd.ntmps42
        go_wp2_with fail
        refine HA.out.mono ?_
        rintro e w1 ⟨rfl, r1, k1⟩
        have HBB := Lib.hid (HB.out w1 r1)
        have H1 := Lib.hid k1
        clear r1 k1 HA HB
        go_wp2_with fail
        refine HBB.out.mono ?_
        rintro e w2 ⟨rfl, r2, k2⟩
        have HG2 := Lib.hid (H1.out.and k2)
        have HCC := Lib.hid (HC.out w2 r2)
        clear r2 k2 HBB H1 HC
        go_wp2_with fail
        refine HCC.out.mono ?_
        rintro e w3 ⟨rfl, r3, k3⟩
        have HG3 := Lib.hid (HG2.out.and k3)
        have HR3 := Lib.hid r3
        have HNN := Lib.hid (HN.out w3 r3)
        clear r3 k3 HCC HG2 HN
        go_wp2_with fail
        refine HNN.out.mono ?_
        rintro e w4 ⟨rfl, rfl⟩
        go_wp2_with fail
        go_ret2
        exact ⟨0, false, t', rfl, by omega, by omega, HR3.out, HL.out, fun h => (by cases h), HG3.out⟩
      · match t', hn with
        | c :: r, _ =>
          have HN := Lib.hid fun W (h : Rdr W R (c :: r)) => next_any R (c :: r) 1 (by simp) (by have := HL.out; omega) W h
          rw [show (c :: r).take 1 = [c] from rfl, show (c :: r).drop 1 = r from rfl] at HN
          have HX := Lib.hid (index_one c)
          have hc256 := c.toNat_lt
          go_enter Tryd.func42, Tryd.ntmps42
          go_wp2_with fail
          refine HA.out.mono ?_
          rintro e w1 ⟨rfl, r1, k1⟩
          have HBB := Lib.hid (HB.out w1 r1)
          have H1 := Lib.hid k1
          clear r1 k1 HA HB
          go_wp2_with fail
          refine HBB.out.mono ?_
          rintro e w2 ⟨rfl, r2, k2⟩
          have HG2 := Lib.hid (H1.out.and k2)
          have HCC := Lib.hid (HC.out w2 r2)
          clear r2 k2 HBB H1 HC
          go_wp2_with fail
          refine HCC.out.mono ?_
          rintro e w3 ⟨rfl, r3, k3⟩
          have HG3 := Lib.hid (HG2.out.and k3)
          have HNN := Lib.hid (HN.out w3 r3)
          clear r3 k3 HCC HG2 HN
          go_wp2_with fail
          refine HNN.out.mono ?_
          rintro e w4 ⟨rfl, r4, k4⟩
          have H4 := Lib.hid (And.intro r4 (HG3.out.and k4))
          clear r4 k4 HNN HG3
          have hx := HX.out
          go_wp2_with fail
          go_ret2
          exact ⟨(c.toNat : Int), true, r, rfl, by omega, by omega, H4.out.1, by have := HL.out; simp only [List.length_cons] at this; omega, fun _ => by have := HL.out; simp only [List.length_cons] at this; omega, H4.out.2⟩
end Go.Proofs.YtmjobnakaamlpaaDoor
