/-
  strconv.ParseUint at any two bytes, base 16: it ends, with a byte's value or an error.
-/
import Derived.Test.YtledgnolmiecfaaGreatDoorPu
import Derived.Test.YtledgnolmiecfaaGreatDoorJA
namespace Go.Proofs.YtledgnolmiecfaaGreatDoor
open Go.RowKit
set_option linter.unusedSimpArgs false
set_option linter.unusedVariables false

def UintPost (w : World) (e : Ending) (w' : World) : Prop := ((∃ n : Int, 0 ≤ n ∧ n < 256 ∧ e = .returned (.tuple #[.int .u64 n, .nilIface])) ∨ e = .returned (.tuple #[.int .u64 0, .iface 120 (.int .i64 2)])) ∧ Below w.heap.size w w'

set_option maxHeartbeats 32000000 in
set_option maxRecDepth 100000 in
theorem iParseUint_two (t : ByteArray) (hts : t.size = 2) (w : World) :
    Calls Tryz.prog 106 #[.string t, .int .i64 16, .int .i64 8] w (UintPost w) := by
  have hcv := Lib.run_convert_string_bytes (P := Tryz.prog) w 9 48 5 t (u := .string) Tryz.underlying9 Tryz.underlying48 Tryz.underlying5
  have hB : ∀ j, j < 2 → ∃ c : Nat, c < 256 ∧ (Lib.bytesWorld w 5 t).cell? ⟨w.heap.size, j, none⟩ = some (.int .u8 (c : Int)) := fun j hj => ⟨(t.data.toList.getD j 0).toNat, (t.data.toList.getD j 0).toNat_lt, Lib.bytesWorld_cell w 5 t j (by omega)⟩
  have hl : t.data.toList.length = 2 := by rw [← hts]; simp
  have hemp2 : ¬ t.toList = [] := by
    rw [ByteArray.toList_eq]; intro e; rw [e] at hl; cases hl
  have hemp : t.toList.isEmpty = false := by simpa using hemp2
  have hbl := below_bytesT w 5 t
  obtain ⟨W1, hW1⟩ : ∃ W1, W1 = Lib.bytesWorld w 5 t := ⟨_, rfl⟩
  rw [← hW1] at hcv hB hbl
  clear hW1 hl
  have hmv : IntKind.u64.wrap (IntKind.u64.wrap 256 - 1) = 255 := by
    rw [IntKind.wrap_u64, IntKind.wrap_u64]
    decide
  have HB := Lib.hid hB
  have HBL := Lib.hid hbl
  clear hB hbl
  have htz : (t.size : Int) = 2 := by omega
  go_enter Tryz.func106, Tryz.ntmps106
  go_wp2
  go_loop [12, 13, 101] (fun vu vn vi => ∃ (k : Nat) (a : Int), vu = .bool false ∧ vn = .int .u64 a ∧ vi = .int .i64 k ∧ k ≤ 2 ∧ 0 ≤ a ∧ Hid ((k = 0 → a = 0) ∧ (k = 1 → a ≤ 15) ∧ a ≤ 255))
    (fun _ _ vi => 2 - (RowKit.intOf vi).toNat)
  case atStart => exact ⟨0, 0, rfl, rfl, rfl, by omega, by omega, fun _ => rfl, fun _ => by omega, by omega⟩
  case round =>
    obtain ⟨k, a, rfl, rfl, rfl, hk, a0, hh⟩ := hrel
    by_cases hkn : k < 2
    · obtain ⟨c, hc256, hc⟩ := HB.out k hkn
      have a1 : a ≤ 15 := by
        have := hh.out
        by_cases h0 : k = 0
        · have := this.1 h0; omega
        · exact this.2.1 (by omega)
      have hk0 : (0 : Int) ≤ (k : Int) := by omega
      have hk1 : (k : Int) < 2 := by omega
      have HN : ∀ d : Int, 0 ≤ d → d < 16 → Hid ((k + 1 = 0 → a * 16 + d = 0) ∧ (k + 1 = 1 → a * 16 + d ≤ 15) ∧ a * 16 + d ≤ 255) := fun d d0 d1 => Lib.hid ⟨fun h => by omega, fun h => by have := hh.out.1 (by omega); omega, by omega⟩
      have HN := Lib.hid HN
      clear hh
      by_cases hdig : 48 ≤ c ∧ c ≤ 57
      · obtain ⟨hd0, hd1⟩ := hdig
        have HK := Lib.hid (HN.out ((c : Int) - 48) (by omega) (by omega))
        clear HN HB HBL
        go_wp2
        refine ⟨⟨k + 1, a * 16 + ((c : Int) - 48), rfl, (by first | rfl | (congr 1; omega)), by go_num, by omega, by omega, HK.out⟩, by simp [RowKit.intOf]; omega⟩
      · have hv0 := bits_lo_u8 .or (c : Int) 32
        have hv1 := bits_hi_u8 .or (c : Int) 32
        have hu0 := bits_lo_u8 .or 95 32
        have hu1 := bits_hi_u8 .or 95 32
        by_cases h95 : c = 95
        · subst h95
          have h127 : bits .or .u8 95 32 = 127 := by decide +kernel
          clear HN
          go_wp2_with (go_at_call 120; refine (Tryz.internal_strconv_lower _ _).mono ?_; rintro e w' ⟨rfl, rfl⟩)
          all_goals go_ret2
          all_goals exact ⟨.inr rfl, HBL.out⟩
        · have hc95 : ¬ ((c : Int) = 95) := by omega
          by_cases hA : 97 ≤ bits .or .u8 (c : Int) 32 ∧ bits .or .u8 (c : Int) 32 ≤ 122
          · obtain ⟨hA0, hA1⟩ := hA
            by_cases hD : bits .or .u8 (c : Int) 32 - 97 + 10 < 16
            · have HK := Lib.hid (HN.out (bits .or .u8 (c : Int) 32 - 97 + 10) (by omega) hD)
              clear HN
              go_wp2_with (go_at_call 120; refine (Tryz.internal_strconv_lower _ _).mono ?_; rintro e w' ⟨rfl, rfl⟩)
              all_goals refine ⟨⟨k + 1, a * 16 + (bits .or .u8 (c : Int) 32 - 97 + 10), rfl, (by first | rfl | (congr 1; omega)), by go_num, by omega, by omega, HK.out⟩, by simp [RowKit.intOf]; omega⟩
            · clear HN
              go_wp2_with (go_at_call 120; refine (Tryz.internal_strconv_lower _ _).mono ?_; rintro e w' ⟨rfl, rfl⟩)
              all_goals go_ret2
              all_goals exact ⟨.inr rfl, HBL.out⟩
          · clear HN
            go_wp2_with (go_at_call 120; refine (Tryz.internal_strconv_lower _ _).mono ?_; rintro e w' ⟨rfl, rfl⟩)
            all_goals go_ret2
            all_goals exact ⟨.inr rfl, HBL.out⟩
    · have hkk : k = 2 := by omega
      subst hkk
      have HA := Lib.hid (show 0 ≤ a ∧ a < 256 from ⟨a0, by have := hh.out.2.2; omega⟩)
      clear hh
      go_wp2
      go_ret2
      exact ⟨.inl ⟨a, HA.out.1, HA.out.2, rfl⟩, HBL.out⟩

def UintPost2 (w : World) (e : Ending) (w' : World) : Prop := (∃ (n : Int) (r : Value), 0 ≤ n ∧ n < 256 ∧ e = .returned (.tuple #[.int .u64 n, r]) ∧ (r = .nilIface ∨ ∃ t q, r = .iface t q)) ∧ Below w.heap.size w w'
theorem parseUint_two (t : ByteArray) (hts : t.size = 2) (B : Nat) (w : World) (hBw : B ≤ w.heap.size) (hE : Env B w) :
    Calls Tryz.prog 129 #[.string t, .int .i64 16, .int .i64 8] w (UintPost2 w) := by
  have HI := Lib.hid (iParseUint_two t hts w)
  have HE := Lib.hid hE
  have hsz : t.size ≤ 281474976710656 := by omega
  clear hE hts
  go_enter Tryz.func129, Tryz.ntmps129
  go_wp2_with fail
  refine HI.out.mono ?_
  rintro e w1 ⟨⟨n, n0, n1, rfl⟩ | rfl, k1⟩
  · have HF := Lib.hid (And.intro (And.intro n0 n1) k1)
    clear n0 n1 k1
    go_wp2_with fail
    go_ret2
    exact ⟨⟨n, _, HF.out.1.1, HF.out.1.2, rfl, .inl rfl⟩, HF.out.2⟩
  · obtain ⟨te, pe, hv⟩ := HE.out.err w1 (k1.mono hBw)
    have HT := Lib.hid (Tryz.strconv_toError_syntax ⟨#[80, 97, 114, 115, 101, 85, 105, 110, 116]⟩ t 16 8 (.iface te pe) w1 hsz hv (.inr ⟨te, pe, rfl⟩))
    have HK := Lib.hid k1
    clear k1 hv
    go_wp2_with fail
    refine HT.out.mono ?_
    rintro e w2 ⟨N, rfl, _, _, k2⟩
    have HF := Lib.hid (HK.out.trans (k2.mono HK.out.size))
    clear k2
    go_wp2_with fail
    go_ret2
    exact ⟨⟨0, _, by omega, by omega, rfl, .inr ⟨_, _, rfl⟩⟩, HF.out⟩
end Go.Proofs.YtledgnolmiecfaaGreatDoor
