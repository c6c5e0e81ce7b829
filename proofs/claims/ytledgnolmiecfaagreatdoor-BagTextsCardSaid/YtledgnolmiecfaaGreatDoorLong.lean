/-
  Lists of rows; and Long, which looks at all their texts' lengths: some answer, and nothing that was there has changed.
-/
import Derived.Test.YtledgnolmiecfaaGreatDoorRow
namespace Go.Proofs.YtledgnolmiecfaaGreatDoor
open Go.RowKit
set_option linter.unusedSimpArgs false

/-- A row's slice: its address, its values, its capacity. -/
abbrev RowV := Option Addr × List Val × Nat
def rowv (r : RowV) : Value := .slice r.1 r.2.1.length r.2.2
abbrev r0 : RowV := (none, [], 0)
def RowOK (W : World) (r : RowV) : Prop := r.2.1.length ≤ 9223372036854775807 ∧ ValsIn W r.1 r.2.1
def RowsAt (W : World) (b off : Nat) (rs : List RowV) : Prop := ∀ i, i < rs.length → W.cell? ⟨b, off + i, none⟩ = some (rowv (rs[i]?.getD r0)) ∧ RowOK W (rs[i]?.getD r0)
theorem RowsAt.belowV {b off : Nat} {W W' : World} {rs : List RowV} (h : RowsAt W b off rs) (hb : Below W.heap.size W W') (hbk : b < W.heap.size) : RowsAt W' b off rs := fun i hi =>
  ⟨(hb.cell (p := ⟨b, off + i, none⟩) hbk).trans (h i hi).1, (h i hi).2.1, (h i hi).2.2.belowV hb⟩
def RowsIn (W : World) (p : Option Addr) (rs : List RowV) : Prop :=
  0 < rs.length → ∃ b off, p = some ⟨b, off, none⟩ ∧ b < W.heap.size ∧ RowsAt W b off rs
theorem RowsIn.belowV {p : Option Addr} {W W' : World} {rs : List RowV} (h : RowsIn W p rs) (hb : Below W.heap.size W W') : RowsIn W' p rs := fun hp => by
  obtain ⟨b, off, e, hl, hr⟩ := h hp
  exact ⟨b, off, e, Nat.lt_of_lt_of_le hl hb.size, hr.belowV hb hl⟩
def SomeBool (w : World) (e : Ending) (w' : World) : Prop := ∃ q : Bool, e = .returned (.bool q) ∧ w = w'

set_option maxRecDepth 100000 in
set_option maxHeartbeats 1000000 in
theorem Long_any (p : Option Addr) (rs : List RowV) (cap : Nat) (hm : rs.length ≤ 9223372036854775807) (w : World) (hX : RowsIn w p rs) :
    Calls Tryz.prog 12 #[.slice p rs.length cap] w (SomeBool w) := by
  have HX := Lib.hid hX
  clear hX
  go_enter Tryz.func12, Tryz.ntmps12
  go_wp2_with fail
  go_loop [3, 4] (fun t s => ∃ (n : Int) (i : Nat), t = .int .i64 n ∧ s = .int .i64 i ∧ i ≤ rs.length) (fun _ s => rs.length - (intOf s).toNat)
  case atStart => exact ⟨0, 0, rfl, rfl, Nat.zero_le _⟩
  case round =>
    obtain ⟨n, i, rfl, rfl, hi⟩ := hrel
    by_cases hlt : i < rs.length
    · obtain ⟨b, off, rfl, hbl, hra⟩ := HX.out (by omega)
      obtain ⟨c0, hrl, hrv⟩ := hra i hlt
      have hi0 : (0 : Int) ≤ (i : Int) := by omega
      have hi1 : (i : Int) < (rs.length : Int) := by omega
      clear hra
      generalize (rs[i]?.getD r0) = r at c0 hrl hrv
      obtain ⟨q, xs, rc⟩ := r
      dsimp only [rowv] at c0 hrl hrv
      have HRV := Lib.hid hrv
      clear hrv
      go_wp2_with fail
      go_loop [3, 5] (fun t s => ∃ (n : Int) (k : Nat), t = .int .i64 n ∧ s = .int .i64 k ∧ k ≤ xs.length) (fun _ s => xs.length - (intOf s).toNat)
      case atStart => exact ⟨_, 0, rfl, rfl, Nat.zero_le _⟩
      case round =>
        obtain ⟨n', k, rfl, rfl, hk⟩ := hrel
        by_cases hkl : k < xs.length
        · obtain ⟨b2, off2, rfl, hbl2, hra2⟩ := HRV.out (by omega)
          obtain ⟨_, _, d2⟩ := hra2 k hkl
          have hk0 : (0 : Int) ≤ (k : Int) := by omega
          have hk1 : (k : Int) < (xs.length : Int) := by omega
          clear hra2
          generalize (xs[k]?.getD v0).2.2 = x2 at d2
          go_wp2_with fail
          go_round
          case rel => exact ⟨_, k + 1, rfl, by go_num, by omega⟩
          case measure => simp [intOf]; omega
        · have hge : xs.length ≤ k := by omega
          go_wp2_with fail
          go_round
          case rel => exact ⟨_, i + 1, rfl, by go_num, by omega⟩
          case measure => simp [intOf]; omega
    · have hge : rs.length ≤ i := by omega
      go_wp2_with fail
      go_ret
      exact ⟨_, rfl, rfl⟩
end Go.Proofs.YtledgnolmiecfaaGreatDoor
