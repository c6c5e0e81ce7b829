/-
  Columns picked out of a row, in both packages, as contracts.
-/
import Derived.Test.YtfkkdoodngldhaaDoorFlat
namespace Go.Proofs.YtfkkdoodngldhaaDoor
open Go.RowKit

/-- The slice reads as these numbers, in this world. -/
def IntsAt (W : World) (b off : Nat) (ts : List Int) : Prop := ∀ i, i < ts.length → W.cell? ⟨b, off + i, none⟩ = some (.int .i64 (ts[i]?.getD 0))
theorem IntsAt.belowV {n₀ b off : Nat} {W W' : World} {ts : List Int} (h : IntsAt W b off ts) (hb : Below n₀ W W') (hbk : b < n₀) : IntsAt W' b off ts := fun i hi =>
  (hb.cell (p := ⟨b, off + i, none⟩) hbk).trans (h i hi)
def IntsIn (W : World) (p : Option Addr) (ts : List Int) : Prop :=
  0 < ts.length → ∃ b off, p = some ⟨b, off, none⟩ ∧ b < W.heap.size ∧ IntsAt W b off ts
theorem IntsIn.belowV {p : Option Addr} {W W' : World} {ts : List Int} (h : IntsIn W p ts) (hb : Below W.heap.size W W') : IntsIn W' p ts := fun hp => by
  obtain ⟨b, off, e, hl, hr⟩ := h hp
  exact ⟨b, off, e, Nat.lt_of_lt_of_le hl hb.size, hr.belowV hb hl⟩
/-- Each is one of so many columns. -/
def okCols (cs : List Int) (n : Nat) : Bool := cs.all fun c => decide (0 ≤ c ∧ c < (n : Int))
theorem okCols_next {cs : List Int} {n i : Nat} (h : i < cs.length) : okCols (cs.take (i + 1)) n = (okCols (cs.take i) n && decide (0 ≤ cs[i]?.getD 0 ∧ cs[i]?.getD 0 < (n : Int))) := by
  rw [List.take_succ_eq_append_getElem h]; unfold okCols; rw [List.all_append]; simp [h]
theorem okCols_stop {cs : List Int} {n i : Nat} (h : okCols (cs.take i) n = false) : okCols cs n = false := by
  have e : okCols cs n = (okCols (cs.take i) n && okCols (cs.drop i) n) := by unfold okCols; rw [← List.all_append, List.take_append_drop]
  rw [e, h]; rfl
theorem okCols_at {cs : List Int} {n i : Nat} (h : okCols cs n = true) (hi : i < cs.length) : 0 ≤ cs[i]?.getD 0 ∧ cs[i]?.getD 0 < (n : Int) := by
  unfold okCols at h
  rw [List.all_eq_true] at h
  have := h (cs[i]) (List.getElem_mem hi)
  simpa [List.getElem?_eq_getElem hi] using this
def pick (xs : List Val) (cs : List Int) : List Val := cs.map fun c => xs[c.toNat]?.getD v0
theorem pick_len (xs : List Val) (cs : List Int) : (pick xs cs).length = cs.length := by simp [pick]
theorem pick_next {xs : List Val} {cs : List Int} {i : Nat} (h : i < cs.length) : pick xs (cs.take (i + 1)) = pick xs (cs.take i) ++ [xs[(cs[i]?.getD 0).toNat]?.getD v0] := by
  rw [List.take_succ_eq_append_getElem h]; unfold pick; rw [List.map_append]; simp [h]

set_option maxRecDepth 100000 in
set_option maxHeartbeats 1000000 in
theorem areColumns_any (p : Option Addr) (cs : List Int) (cap n : Nat) (hm : cs.length ≤ 9223372036854775807) (w : World) (hX : IntsIn w p cs) :
    Calls Tryd.prog 72 #[.slice p cs.length cap, .int .i64 (n : Int)] w fun e w' => e = .returned (.bool (okCols cs n)) ∧ w = w' := by
  have HX := Lib.hid hX
  clear hX
  go_enter Tryd.func72, Tryd.ntmps72
  go_wp2_with fail
  go_loop [9] (fun s => ∃ i : Nat, s = .int .i64 i ∧ i ≤ cs.length ∧ Hid (okCols (cs.take i) n = true)) (fun s => cs.length - (intOf s).toNat)
  case atStart => exact ⟨0, rfl, Nat.zero_le _, rfl⟩
  case round =>
    obtain ⟨i, rfl, hi, hv⟩ := hrel
    by_cases hlt : i < cs.length
    · obtain ⟨b, off, rfl, hbl, hra⟩ := HX.out (by omega)
      have c0 := hra i hlt
      have hnx := okCols_next (n := n) hlt
      rw [hv.out, Bool.true_and] at hnx
      have hi0 : (0 : Int) ≤ (i : Int) := by omega
      have hi1 : (i : Int) < (cs.length : Int) := by omega
      clear hra
      generalize cs[i]?.getD 0 = t at c0 hnx
      by_cases ht : 0 ≤ t
      · by_cases htn : t < (n : Int)
        · have HN := Lib.hid (show okCols (cs.take (i + 1)) n = true by rw [hnx, decide_eq_true ⟨ht, htn⟩])
          clear hnx
          go_wp2_with fail
          go_round
          case rel => exact ⟨i + 1, by go_num, by omega, HN.out⟩
          case measure => simp [intOf]; omega
        · have HN := Lib.hid (okCols_stop (show okCols (cs.take (i + 1)) n = false by rw [hnx, decide_eq_false (fun h => htn h.2)]))
          have htn' : (n : Int) ≤ t := by omega
          have hd0 : decide (t < 0) = false := by simp; omega
          clear hnx
          go_wp2_with fail
          go_ret
          exact ⟨retB HN.out.symm, rfl⟩
      · have HN := Lib.hid (okCols_stop (show okCols (cs.take (i + 1)) n = false by rw [hnx, decide_eq_false (fun h => ht h.1)]))
        have ht' : t < 0 := by omega
        clear hnx
        go_wp2_with fail
        go_ret
        exact ⟨retB HN.out.symm, rfl⟩
    · have hge : cs.length ≤ i := by omega
      have hie : i = cs.length := by omega
      have HALL := Lib.hid (show okCols cs n = true by have := hv.out; rw [hie, List.take_length] at this; exact this)
      clear hie
      go_wp2_with fail
      go_ret
      exact ⟨retB HALL.out.symm, rfl⟩

def OwnPost (w : World) (ys : List Val) (e : Ending) (w' : World) : Prop := ∃ v, e = .returned v ∧ OwnsV w' w.heap.size v ys ∧ Below w.heap.size w w'

set_option maxRecDepth 100000 in
set_option maxHeartbeats 1000000 in
theorem Picks_any (p q : Option Addr) (xs : List Val) (cs : List Int) (c d : Nat) (hmx : xs.length ≤ 9223372036854775807) (hl : cs.length ≤ 1000) (w : World) (hX : ValsIn w p xs) (hC : IntsIn w q cs) (hok : okCols cs xs.length = true) :
    Calls Tryd.prog 74 #[.slice p xs.length c, .slice q cs.length d] w (OwnPost w (pick xs cs)) := by
  obtain ⟨i0, hi, hz0, hz1, hz2⟩ := info_parts infoV
  have HX := Lib.hid hX
  have HC := Lib.hid hC
  have HO := Lib.hid hok
  clear hX hC hok
  go_enter Tryd.func74, Tryd.ntmps74
  go_wp2_with fail
  go_loopw [5, 6] (fun o s wr => ∃ i : Nat, s = .int .i64 i ∧ i ≤ cs.length ∧ wr.ownsRow w.heap.size 30 3 o i (flatV (pick xs (cs.take i))) ∧ Below w.heap.size w wr) (fun _ s _ => cs.length - (intOf s).toNat)
  case atStart => exact ⟨0, rfl, Nat.zero_le _, World.ownsRow_nil _ _ _ _, Below.refl _ _⟩
  case round =>
    obtain ⟨i, rfl, hin, hrow, hB⟩ := hrel
    have hBs := hB.size
    by_cases hlt : i < cs.length
    · obtain ⟨b, off, rfl, hbl, hra⟩ := HC.out (by omega)
      have c0 := (hra.belowV hB hbl) i hlt
      obtain ⟨ht0, ht1⟩ := okCols_at HO.out hlt
      have hnx := pick_next (xs := xs) hlt
      have hi0 : (0 : Int) ≤ (i : Int) := by omega
      have hi1 : (i : Int) < (cs.length : Int) := by omega
      clear hra
      obtain ⟨k, hk⟩ : ∃ k : Nat, cs[i]?.getD 0 = (k : Int) := Int.eq_ofNat_of_zero_le ht0
      rw [hk] at c0 ht0 ht1 hnx
      rw [Int.toNat_natCast] at hnx
      have hkx : k < xs.length := by omega
      clear hk
      obtain ⟨b2, off2, rfl, hbl2, hra2⟩ := HX.out (by omega)
      obtain ⟨d0, d1, d2⟩ := (hra2.belowV hB hbl2) k hkx
      clear hra2
      generalize xs[k]?.getD v0 = x at d0 d1 d2 hnx
      obtain ⟨x0, x1, x2⟩ := x
      dsimp only at d0 d1 d2
      have HNX := Lib.hid hnx
      clear hnx
      go_wp2_with (at_builtin; refine wpList_append_own _ rfl _ _ 25 rfl w.heap.size 30 i0 (.agg #[.int .i64 0, .int .i64 0, .string ⟨#[]⟩]) 3 32 Tryd.underlying25 hi hz0 hz1 hz2 rfl (by decide) _ _ _ rfl (hrow.alloc _) ⟨wr.heap.size, 0, none⟩ 1 1 (cellsV (x0, x1, x2)) rfl rfl (cells_new _ _ _) (by simp [cellsV, Value.oneCell']) (by unfold maxLen; omega) (by omega) (by simp <;> omega) ?_; intro v' w5 hown' hgrow _; have hB5 : Below w.heap.size w w5 := (hB.alloc hBs _).grown hgrow (by simp <;> omega) (fun k e => (hrow.lt k e).1))
      go_roundw
      case rel => exact ⟨i + 1, by go_num, by omega, by rw [HNX.out, flatV_app]; simpa [flatV] using hown', hB5⟩
      case measure => simp [intOf]; omega
    · have hge : cs.length ≤ i := by omega
      have hie : i = cs.length := by omega
      have HF := Lib.hid (show wr.ownsRow w.heap.size 30 3 _ (pick xs cs).length (flatV (pick xs cs)) by have h := hrow; rw [hie, List.take_length] at h; rw [pick_len]; exact h)
      clear hie hrow
      go_wp2_with fail
      go_ret
      exact ⟨_, rfl, HF.out, hB⟩
end Go.Proofs.YtfkkdoodngldhaaDoor
