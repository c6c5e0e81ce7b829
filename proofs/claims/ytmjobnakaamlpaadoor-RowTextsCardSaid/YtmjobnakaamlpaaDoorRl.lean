/-
  The document's own 'Same' at two rows that are different.
-/
import Derived.Test.YtmjobnakaamlpaaDoorSameR
namespace Go.Proofs.YtmjobnakaamlpaaDoor
open Go.RowKit
set_option linter.unusedSimpArgs false
set_option linter.unusedVariables false

theorem bytes_inj {s t : ByteArray} (h : s.toList = t.toList) : s = t := by
  rw [ByteArray.toList_eq, ByteArray.toList_eq] at h
  cases s; cases t
  rw [ByteArray.mk.injEq]
  exact Array.toList_inj.1 h
theorem neqV2 (a0 a1 b0 b1 : Int) (s t : ByteArray) (h : ¬ (a0 = b0 ∧ a1 = b1 ∧ s = t)) (w : World) :
    (binOp .neq 37 (.agg #[.int .i64 a0, .int .i64 a1, .string s]) (.agg #[.int .i64 b0, .int .i64 b1, .string t])).run Tryd.prog w = .ok (.bool true) w := by
  have uI := Tryd.underlying3
  have gI := Tryd.isAgg3
  have zI := Tryd.sizeOf3
  have uS := Tryd.underlying9
  have gS := Tryd.isAgg9
  have zS := Tryd.sizeOf9
  have hS : Tryd.prog.underlying 37 = some (.struct (Tryd.prog.fieldsOf 37)) := by kernel_rfl
  have hp : Tryd.prog.stoodInHeld 37 = false := by kernel_rfl
  rw [run_neq_struct, show (10000 : Nat) = 9999 + 1 from rfl, run_equalIn_agg w 9999 37 _ _ hS hp]
  simp only [Program.fieldsOf, Tryd.underlying37]
  go_simp
  exact fun h0 h1 h2 => h ⟨h0, h1, bytes_inj h2⟩

set_option maxRecDepth 100000 in
set_option maxHeartbeats 1000000 in
theorem SameN_any (p q : Option Addr) (xs ys : List Val) (c d : Nat) (hne : xs ≠ ys) (hm : xs.length ≤ 9223372036854775807) (w : World) (hX : ValsIn w p xs) (hY : ValsIn w q ys) :
    Calls Tryd.prog 11 #[.slice p xs.length c, .slice q ys.length d] w fun e w' => e = .returned (.bool false) ∧ Below w.heap.size w w' := by
  have HX := Lib.hid hX
  have HY := Lib.hid hY
  clear hX hY
  by_cases hl : xs.length = ys.length
  · have HN := Lib.hid hne
    rw [← hl]
    have HL := Lib.hid hl
    clear hne hl
    go_enter Tryd.func11, Tryd.ntmps11
    have hm0 := guardV
    go_wp2_with fail
    go_loopw [5] (fun s wr => ∃ i : Nat, i ≤ xs.length ∧ s = .int .i64 i ∧ Hid (xs.take i = ys.take i) ∧ Below w.heap.size w wr) (fun s _ => xs.length - (intOf s).toNat)
    case atStart => exact ⟨0, Nat.zero_le _, rfl, rfl, Below.refl _ _⟩
    case round =>
      obtain ⟨i, hi, rfl, HT, hB⟩ := hrel
      by_cases hlt : i < xs.length
      · have hlt2 : i < ys.length := by have := HL.out; omega
        obtain ⟨b, off, rfl, hbl, hra⟩ := HX.out (by omega)
        obtain ⟨b2, off2, rfl, hbl2, hra2⟩ := HY.out (by omega)
        obtain ⟨c0, c1, c2⟩ := (hra.belowV hB hbl) i hlt
        obtain ⟨d0, d1, d2⟩ := (hra2.belowV hB hbl2) i hlt2
        have hi0 : (0 : Int) ≤ (i : Int) := by omega
        have hi1 : (i : Int) < (xs.length : Int) := by omega
        have ex : xs.take (i + 1) = xs.take i ++ [xs[i]?.getD v0] := by rw [List.take_succ_eq_append_getElem hlt, List.getElem?_eq_getElem hlt]; rfl
        have ey : ys.take (i + 1) = ys.take i ++ [ys[i]?.getD v0] := by rw [List.take_succ_eq_append_getElem hlt2, List.getElem?_eq_getElem hlt2]; rfl
        have HNX := Lib.hid (And.intro ex ey)
        clear hra hra2 ex ey
        generalize (xs[i]?.getD v0) = x at c0 c1 c2 HNX
        generalize (ys[i]?.getD v0) = y at d0 d1 d2 HNX
        obtain ⟨x0, x1, x2⟩ := x
        obtain ⟨y0, y1, y2⟩ := y
        dsimp only at c0 c1 c2 d0 d1 d2
        by_cases he : x0 = y0 ∧ x1 = y1 ∧ x2 = y2
        · obtain ⟨rfl, rfl, rfl⟩ := he
          have hq := fun W => neqV x0 x1 x2 W
          have HT2 := Lib.hid (show xs.take (i + 1) = ys.take (i + 1) by rw [HNX.out.1, HNX.out.2, HT.out])
          clear HNX HT hlt2
          go_wp2_with fail
          go_quiet (fail)
          go_wp2_with fail
          go_roundw
          case rel => exact ⟨i + 1, by omega, by go_num, HT2.out, ⟨hB.os, hB.tape, hB.output, hB.size, hB.block⟩⟩
          case measure => simp [intOf]; omega
        · have hq := fun W => neqV2 x0 x1 y0 y1 x2 y2 he W
          clear HNX HT hlt2 he
          go_wp2_with fail
          go_quiet (fail)
          go_wp2_with fail
          go_ret
          exact ⟨rfl, ⟨hB.os, hB.tape, hB.output, hB.size, hB.block⟩⟩
      · have hie : i = xs.length := by omega
        exfalso
        have := HT.out
        rw [hie, List.take_length, List.take_of_length_le (by have := HL.out; omega)] at this
        exact HN.out this
  · have hl2 : ((xs.length : Int) != (ys.length : Int)) = true := by rw [bne_iff_ne]; omega
    have hl3 : ¬ ((xs.length : Int) = (ys.length : Int)) := by omega
    clear hne hl
    go_enter Tryd.func11, Tryd.ntmps11
    go_wp2_with fail
    go_ret
    exact ⟨rfl, Below.refl _ _⟩
end Go.Proofs.YtmjobnakaamlpaaDoor
