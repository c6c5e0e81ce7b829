/-
  strconv.ParseUint at two hexadecimal digits, as a contract.
-/
import Derived.Test.YtledgnolmiecfaaGreatDoorRefText
import Derived.Lib.Strings
import Derived.Lib.Walk
import Derived.Lib.ConvBytes
import Derived.Lib.ParseIntBMem
import Derived.Lib.Hide
import Derived.Laws.Strings3
import Derived.Laws.Closers25
import Derived.Laws.Closers25b
import Derived.WalkKit
import Derived.BigCall
import Derived.BigGuard
namespace Go.Proofs.YtledgnolmiecfaaGreatDoor
open Go.RowKit
set_option linter.unusedSimpArgs false
set_option linter.unusedVariables false

theorem or_low {d : Nat} (h : d < 16) (h9 : ¬ d < 10) : bits .or .u8 ((hexd d : Nat) : Int) 32 = ((hexd d : Nat) : Int) := by
  have : ∀ d : Nat, d < 16 → ¬ d < 10 → bits .or .u8 ((hexd d : Nat) : Int) 32 = ((hexd d : Nat) : Int) := by decide +kernel
  exact this d h h9
theorem hexd_lo {d : Nat} (h9 : d < 10) : hexd d = 48 + d := by unfold hexd; rw [if_pos h9]
theorem hexd_hi {d : Nat} (h9 : ¬ d < 10) : hexd d = 87 + d := by unfold hexd; rw [if_neg h9]
theorem hexd_byte {d : Nat} (h : d < 16) : (UInt8.ofNat (hexd d)).toNat = hexd d := by
  have : ∀ d : Nat, d < 16 → (UInt8.ofNat (hexd d)).toNat = hexd d := by decide +kernel
  exact this d h

set_option maxHeartbeats 32000000 in
set_option maxRecDepth 100000 in
theorem iParseUint_hex (u v : Nat) (hu : u < 16) (hv : v < 16) (w : World) :
    Calls Tryz.prog 106 #[.string (bs [UInt8.ofNat (hexd u), UInt8.ofNat (hexd v)]), .int .i64 16, .int .i64 8] w fun e w' => e = .returned (.tuple #[.int .u64 ((16 * u + v : Nat) : Int), .nilIface]) ∧ w' = Lib.bytesWorld w 5 (bs [UInt8.ofNat (hexd u), UInt8.ofNat (hexd v)]) := by
  have hts : (bs [UInt8.ofNat (hexd u), UInt8.ofNat (hexd v)]).size = 2 := bs_size _
  have hcv := Lib.run_convert_string_bytes (P := Tryz.prog) w 9 48 5 (bs [UInt8.ofNat (hexd u), UInt8.ofNat (hexd v)]) (u := .string) Tryz.underlying9 Tryz.underlying48 Tryz.underlying5
  have hB0 : (Lib.bytesWorld w 5 (bs [UInt8.ofNat (hexd u), UInt8.ofNat (hexd v)])).cell? ⟨w.heap.size, 0, none⟩ = some (.int .u8 (hexd u : Nat)) := by
    rw [Lib.bytesWorld_cell w 5 _ 0 (by rw [hts]; decide)]
    show some (Value.int .u8 ((UInt8.ofNat (hexd u)).toNat : Int)) = _
    rw [hexd_byte hu]
  have hB1 : (Lib.bytesWorld w 5 (bs [UInt8.ofNat (hexd u), UInt8.ofNat (hexd v)])).cell? ⟨w.heap.size, 1, none⟩ = some (.int .u8 (hexd v : Nat)) := by
    rw [Lib.bytesWorld_cell w 5 _ 1 (by rw [hts]; decide)]
    show some (Value.int .u8 ((UInt8.ofNat (hexd v)).toNat : Int)) = _
    rw [hexd_byte hv]
  have hemp : (bs [UInt8.ofNat (hexd u), UInt8.ofNat (hexd v)]).toList.isEmpty = false := by rw [ByteArray.toList_eq]; rfl
  have hemp2 : ¬ (bs [UInt8.ofNat (hexd u), UInt8.ofNat (hexd v)]).toList = [] := by rw [ByteArray.toList_eq]; simp [bs]
  obtain ⟨W1, hW1⟩ : ∃ W1, W1 = Lib.bytesWorld w 5 (bs [UInt8.ofNat (hexd u), UInt8.ofNat (hexd v)]) := ⟨_, rfl⟩
  rw [← hW1] at hcv hB0 hB1 ⊢
  clear hW1
  generalize bs [UInt8.ofNat (hexd u), UInt8.ofNat (hexd v)] = t at hts hcv hemp hemp2 ⊢
  have hmv : IntKind.u64.wrap (IntKind.u64.wrap 256 - 1) = 255 := by
    rw [IntKind.wrap_u64, IntKind.wrap_u64]
    decide
  have HB := Lib.hid (show ∀ k : Nat, k < 2 → ∃ d, d < 16 ∧ d = (if k = 0 then u else v) ∧ W1.cell? ⟨w.heap.size, k, none⟩ = some (.int .u8 (hexd d : Nat)) from fun k hk => by
    match k, hk with
    | 0, _ => exact ⟨u, hu, rfl, hB0⟩
    | 1, _ => exact ⟨v, hv, rfl, hB1⟩)
  have HUV := Lib.hid (And.intro hu hv)
  clear hB0 hB1 hu hv
  have htz : (t.size : Int) = 2 := by omega
  go_enter Tryz.func106, Tryz.ntmps106
  go_wp2
  go_loop [12, 13, 101] (fun vu vn vi => ∃ (k : Nat) (a : Int), vu = .bool false ∧ vn = .int .u64 a ∧ vi = .int .i64 k ∧ k ≤ 2 ∧ Hid (a = (if k = 0 then 0 else if k = 1 then u else 16 * u + v : Nat)))
    (fun _ _ vi => 2 - (intOf vi).toNat)
  case atStart => exact ⟨0, 0, rfl, rfl, rfl, by omega, rfl⟩
  case round =>
    obtain ⟨k, a, rfl, rfl, rfl, hk, hh⟩ := hrel
    by_cases hkn : k < 2
    · obtain ⟨d, hd, hde, hc⟩ := HB.out k hkn
      have ha : a = (if k = 0 then 0 else u : Nat) := by
        rw [hh.out]
        match k, hkn with
        | 0, _ => rfl
        | 1, _ => rfl
      have hu := HUV.out.1
      have hv := HUV.out.2
      have a0 : 0 ≤ a := by rw [ha]; split <;> omega
      have a1 : a ≤ 15 := by rw [ha]; split <;> omega
      have HN : Hid (a * 16 + (d : Int) = (if k + 1 = 0 then 0 else if k + 1 = 1 then u else 16 * u + v : Nat)) := Lib.hid (by
        rw [ha, hde]
        match k, hkn with
        | 0, _ => simp
        | 1, _ => simp; omega)
      clear hh ha hde HB HUV hu hv
      have hk0 : (0 : Int) ≤ (k : Int) := by omega
      have hk1 : (k : Int) < 2 := by omega
      by_cases h9 : d < 10
      · rw [hexd_lo h9] at hc
        go_wp2
        refine ⟨⟨k + 1, _, rfl, (by first | rfl | (congr 1; omega)), by go_num, by omega, ?_⟩, by simp [intOf]; omega⟩
        have e : a * 16 + (48 + (d : Int) - 48) = a * 16 + (d : Int) := by omega
        rw [e]
        exact HN
      · have hor := or_low hd h9
        rw [hexd_hi h9] at hc hor
        have hor' : bits .or .u8 (87 + (d : Int)) 32 = 87 + (d : Int) := by
          have := hor
          rw [Int.natCast_add] at this
          exact this
        clear hor
        have hd9 : 10 ≤ d := by omega
        go_wp2_with (go_at_call 120; refine (Tryz.internal_strconv_lower _ _).mono ?_; rintro e w' ⟨rfl, rfl⟩)
        refine ⟨⟨k + 1, _, rfl, (by first | rfl | (congr 1; omega)), by go_num, by omega, ?_⟩, by simp [intOf]; omega⟩
        have e : a * 16 + (87 + (d : Int) - 97 + 10) = a * 16 + (d : Int) := by omega
        rw [e]
        exact HN
    · have hkk : k = 2 := by omega
      subst hkk
      have ha : a = ((16 * u + v : Nat) : Int) := hh.out
      have HA := Lib.hid ha
      clear ha hh
      go_wp2
      go_ret2
      exact ⟨(show Ending.returned (.tuple #[.int .u64 a, .nilIface]) = _ by rw [HA.out]; first | rfl | (rw [Int.natCast_add, Int.natCast_mul]; rfl)), rfl⟩
theorem below_bytesT (w : World) (e : TypeId) (s : ByteArray) : Below w.heap.size w (Lib.bytesWorld w e s) := by
  have h1 : Below w.heap.size w (w.drew.alloc (.cells (Lib.bytesCells w e s) e)) := ((Below.refl w.heap.size w).drew).alloc (Nat.le_refl _) _
  unfold Lib.bytesWorld
  exact ⟨h1.os, h1.tape, h1.output, Nat.le_trans h1.size (by simp [World.freeze]), fun i hi => by
    have := h1.block i hi
    rw [← this]
    have hne : i ≠ w.heap.size := by omega
    simp [World.freeze, Array.getElem?_modify, Ne.symm hne]⟩
theorem parseUint_hex (u v : Nat) (hu : u < 16) (hv : v < 16) (w : World) :
    Calls Tryz.prog 129 #[.string (bs [UInt8.ofNat (hexd u), UInt8.ofNat (hexd v)]), .int .i64 16, .int .i64 8] w fun e w' => e = .returned (.tuple #[.int .u64 ((16 * u + v : Nat) : Int), .nilIface]) ∧ Below w.heap.size w w' := by
  have HI := Lib.hid (iParseUint_hex u v hu hv w)
  generalize bs [UInt8.ofNat (hexd u), UInt8.ofNat (hexd v)] = t at HI
  generalize ((16 * u + v : Nat) : Int) = n at HI
  go_enter Tryz.func129, Tryz.ntmps129
  go_wp2_with fail
  refine HI.out.mono ?_
  rintro e w1 ⟨rfl, hw1⟩
  have HB := Lib.hid (show Below w.heap.size w w1 by rw [hw1]; exact below_bytesT _ _ _)
  clear hw1
  go_wp2_with fail
  go_ret2
  exact ⟨rfl, HB.out⟩
end Go.Proofs.YtledgnolmiecfaaGreatDoor
