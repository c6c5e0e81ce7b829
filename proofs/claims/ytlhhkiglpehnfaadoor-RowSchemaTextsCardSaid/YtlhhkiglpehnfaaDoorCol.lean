/-
  Columns: a slice that reads as names and kinds; At; word.
-/
import Derived.Test.YtlhhkiglpehnfaaDoorName
namespace Go.Proofs.YtlhhkiglpehnfaaDoor
open Go.RowKit

theorem retI {a b : Int} (h : a = b) : Ending.returned (.int .i64 a) = .returned (.int .i64 b) := by rw [h]
theorem bytes_eq {a b : ByteArray} (h : a.toList = b.toList) : a = b := by
  rw [ByteArray.toList_eq, ByteArray.toList_eq] at h
  cases a; cases b
  simpa using h
abbrev Col := ByteArray × Int
abbrev c0 : Col := (⟨#[]⟩, 0)
def colAt (l : List Col) (i : Nat) : Col := l[i]?.getD c0
/-- The slice reads as these columns, in this world. -/
def ColsAt (W : World) (b off : Nat) (l : List Col) : Prop :=
  ∀ i, i < l.length → W.cell? ⟨b, off + i * 2, none⟩ = some (.string (colAt l i).1) ∧ W.cell? ⟨b, off + i * 2 + 1, none⟩ = some (.int .i64 (colAt l i).2)
theorem ColsAt.belowV {n₀ b off : Nat} {W W' : World} {l : List Col} (h : ColsAt W b off l) (hb : Below n₀ W W') (hbk : b < n₀) : ColsAt W' b off l := fun i hi =>
  ⟨(hb.cell (p := ⟨b, off + i * 2, none⟩) hbk).trans (h i hi).1, (hb.cell (p := ⟨b, off + i * 2 + 1, none⟩) hbk).trans (h i hi).2⟩
def ColsIn (W : World) (p : Option Addr) (l : List Col) : Prop :=
  0 < l.length → ∃ b off, p = some ⟨b, off, none⟩ ∧ b < W.heap.size ∧ ColsAt W b off l
theorem ColsIn.belowV {p : Option Addr} {W W' : World} {l : List Col} (h : ColsIn W p l) (hb : Below W.heap.size W W') : ColsIn W' p l := fun hp => by
  obtain ⟨b, off, e, hl, hr⟩ := h hp
  exact ⟨b, off, e, Nat.lt_of_lt_of_le hl hb.size, hr.belowV hb hl⟩
theorem colAt_take {l : List Col} {i j : Nat} (h : j < i) : colAt (l.take i) j = colAt l j := by unfold colAt; rw [List.getElem?_take_of_lt h]
theorem ColsIn.take {p : Option Addr} {W : World} {l : List Col} (h : ColsIn W p l) (i : Nat) : ColsIn W p (l.take i) := fun hp => by
  have hl : (l.take i).length = min i l.length := List.length_take
  obtain ⟨b, off, e, hb, hr⟩ := h (by omega)
  refine ⟨b, off, e, hb, fun j hj => ?_⟩
  rw [colAt_take (by omega)]
  exact hr j (by omega)

/-- The first column of that name; -1 if there is none. -/
def firstAt (l : List Col) (s : ByteArray) : Int := if l.findIdx (fun c => decide (c.1 = s)) < l.length then ((l.findIdx (fun c => decide (c.1 = s)) : Nat) : Int) else -1
theorem firstAt_is {l : List Col} {s : ByteArray} {i : Nat} (hi : i < l.length) (h : (colAt l i).1 = s) (hb : ∀ j, j < i → (colAt l j).1 ≠ s) : firstAt l s = (i : Int) := by
  have e : l.findIdx (fun c => decide (c.1 = s)) = i := by
    rw [List.findIdx_eq hi]
    refine ⟨by simpa [colAt, hi] using h, fun j hj => ?_⟩
    have := hb j hj
    simpa [colAt, Nat.lt_trans hj hi] using this
  unfold firstAt
  rw [e, if_pos hi]
theorem firstAt_none {l : List Col} {s : ByteArray} (hb : ∀ j, j < l.length → (colAt l j).1 ≠ s) : firstAt l s = -1 := by
  unfold firstAt
  rw [if_neg]
  intro h
  have h2 := List.findIdx_getElem (w := h)
  simp only [decide_eq_true_eq] at h2
  exact hb _ h (by simpa [colAt, h] using h2)
theorem firstAt_range (l : List Col) (s : ByteArray) : -1 ≤ firstAt l s ∧ firstAt l s < (l.length : Int) := by
  unfold firstAt; split <;> omega

set_option maxRecDepth 100000 in
set_option maxHeartbeats 1000000 in
theorem At_any (p : Option Addr) (l : List Col) (cap : Nat) (s : ByteArray) (hm : l.length ≤ 9223372036854775807) (w : World) (hX : ColsIn w p l) (n : Nat) (hn : n = l.length) :
    Calls Tryd.prog 19 #[.slice p n cap, .string s] w fun e w' => e = .returned (.int .i64 (firstAt l s)) ∧ w = w' := by
  subst hn
  have HX := Lib.hid hX
  clear hX
  go_enter Tryd.func19, Tryd.ntmps19
  go_wp2_with fail
  go_loop [5] (fun t => ∃ i : Nat, t = .int .i64 i ∧ i ≤ l.length ∧ Hid (∀ j, j < i → (colAt l j).1 ≠ s)) (fun t => l.length - (intOf t).toNat)
  case atStart => exact ⟨0, rfl, Nat.zero_le _, fun j h => absurd h (by omega)⟩
  case round =>
    obtain ⟨i, rfl, hi, hv⟩ := hrel
    by_cases hlt : i < l.length
    · obtain ⟨b, off, rfl, hbl, hra⟩ := HX.out (by omega)
      obtain ⟨k0, k1⟩ := hra i hlt
      have hi0 : (0 : Int) ≤ (i : Int) := by omega
      have hi1 : (i : Int) < (l.length : Int) := by omega
      by_cases hs : (colAt l i).1 = s
      · have HN := Lib.hid (firstAt_is hlt hs hv.out)
        rw [hs] at k0
        clear hs hra k1 hv
        go_wp2_with fail
        go_ret
        exact ⟨retI HN.out.symm, rfl⟩
      · have HN := Lib.hid (show ∀ j, j < i + 1 → (colAt l j).1 ≠ s from fun j hj => by
          by_cases e : j = i
          · subst e; exact hs
          · exact hv.out j (by omega))
        generalize (colAt l i).1 = nm at k0 hs
        have hd3 : ¬ (nm.toList = s.toList) := fun e => hs (bytes_eq e)
        have hd2 : (nm.toList == s.toList) = false := by rw [beq_eq_false_iff_ne]; exact hd3
        clear hra k1 hv
        go_wp2_with fail
        go_round
        case rel => exact ⟨i + 1, by go_num, by omega, HN.out⟩
        case measure => simp [intOf]; omega
    · have hge : l.length ≤ i := by omega
      have HN := Lib.hid (firstAt_none (fun j hj => hv.out j (by omega)))
      clear hv
      go_wp2_with fail
      go_ret
      exact ⟨retI HN.out.symm, rfl⟩

theorem word_any (k : Int) (w : World) :
    Calls Tryd.prog 13 #[.int .i64 k] w fun e w' => ∃ t : ByteArray, e = .returned (.string t) ∧ (t.toList.isEmpty = !(decide (k = 1 ∨ k = 2))) ∧ w = w' := by
  by_cases h1 : k = 1
  · subst h1
    go_enter Tryd.func13, Tryd.ntmps13
    go_wp2
    go_ret
    exact ⟨_, rfl, by rw [ByteArray.toList_eq]; decide, rfl⟩
  · by_cases h2 : k = 2
    · subst h2
      go_enter Tryd.func13, Tryd.ntmps13
      go_wp2
      go_ret
      exact ⟨_, rfl, by rw [ByteArray.toList_eq]; decide, rfl⟩
    · have d1 : (k == 1) = false := by rw [beq_eq_false_iff_ne]; exact h1
      have d2 : (k == 2) = false := by rw [beq_eq_false_iff_ne]; exact h2
      have hk : decide (k = 1 ∨ k = 2) = false := by rw [decide_eq_false]; omega
      rw [hk]
      clear hk
      go_enter Tryd.func13, Tryd.ntmps13
      go_wp2
      go_ret
      exact ⟨_, rfl, by rw [ByteArray.toList_eq]; decide, rfl⟩
end Go.Proofs.YtlhhkiglpehnfaaDoor
