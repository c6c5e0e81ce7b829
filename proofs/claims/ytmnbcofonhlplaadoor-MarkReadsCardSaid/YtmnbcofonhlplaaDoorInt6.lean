/-
  Slices of numbers: that came in, and of the call's own; whether two are equal.
-/
import Derived.Test.YtmnbcofonhlplaaDoorMt
namespace Go.Proofs.YtmnbcofonhlplaaDoor
open Go.RowKit Go.Lib

def IntsAt (W : World) (b off : Nat) (ts : List Int) : Prop := ∀ i, i < ts.length → W.cell? ⟨b, off + i, none⟩ = some (.int .i64 (ts[i]?.getD 0))
theorem IntsAt.belowV {n₀ b off : Nat} {W W' : World} {ts : List Int} (h : IntsAt W b off ts) (hb : Below n₀ W W') (hbk : b < n₀) : IntsAt W' b off ts := fun i hi =>
  (hb.cell (p := ⟨b, off + i, none⟩) hbk).trans (h i hi)
def IntsIn (W : World) (p : Option Addr) (ts : List Int) : Prop :=
  0 < ts.length → ∃ b off, p = some ⟨b, off, none⟩ ∧ b < W.heap.size ∧ IntsAt W b off ts
theorem IntsIn.belowV {p : Option Addr} {W W' : World} {ts : List Int} (h : IntsIn W p ts) (hb : Below W.heap.size W W') : IntsIn W' p ts := fun hp => by
  obtain ⟨b, off, e, hl, hr⟩ := h hp
  exact ⟨b, off, e, Nat.lt_of_lt_of_le hl hb.size, hr.belowV hb hl⟩
def flatN (ts : List Int) : List Value := ts.map (Value.int .i64)
def OwnsN (W : World) (lo : Nat) (v : Value) (ts : List Int) : Prop := W.ownsRow lo 3 1 v ts.length (flatN ts)
theorem intsIn_of_owns {W : World} {lo : Nat} {v : Value} {ts : List Int} (h : OwnsN W lo v ts) : ∃ p c, v = .slice p ts.length c ∧ IntsIn W p ts := by
  rcases h.2 with ⟨rfl, h0⟩ | ⟨g, cap, cur, rfl, _, hg, hc1, hc2, hs, ht⟩
  · have : ts = [] := List.eq_nil_of_length_eq_zero h0
    subst this
    exact ⟨none, 0, rfl, fun h => absurd h (by simp)⟩
  · refine ⟨_, _, rfl, fun _ => ⟨g, 0, rfl, (Array.getElem?_eq_some_iff.1 hg).1, fun i hi => ?_⟩⟩
    have g1 : (flatN ts)[i]? = some (.int .i64 (ts[i]?.getD 0)) := by simp [flatN, List.getElem?_eq_getElem hi]
    rw [← ht, List.getElem?_take_of_lt (by omega)] at g1
    simpa [World.cell?, hg] using g1
theorem grown_of_below {a w : World} (h : Below a.heap.size a w) : a.grownBy w none := ⟨h.os, h.tape, h.output, h.size, fun i hi _ => h.block i hi⟩
theorem owns_below {W W' : World} {base : Nat} {v : Value} {k : Nat} {e : TypeId} {size : Nat} {xs : List Value} (h : W.ownsRow base e size v k xs) (hb : Below W.heap.size W W') : W'.ownsRow base e size v k xs :=
  h.kept (grown_of_below hb) (by cases hv : v.ownBlock <;> simp)
theorem ownsRow_base {W : World} {base base' : Nat} {e : TypeId} {size : Nat} {v : Value} {k : Nat} {xs : List Value} (h : W.ownsRow base e size v k xs) (hb : base' ≤ base) : W.ownsRow base' e size v k xs := by
  refine ⟨h.1, ?_⟩
  rcases h.2 with hn | ⟨g, cap, cur, hv, hbg, rest⟩
  · exact .inl hn
  · exact .inr ⟨g, cap, cur, hv, Nat.le_trans hb hbg, rest⟩
/-- The first numbers of a list, and zeros behind them. -/
def fillN (ts : List Int) (i : Nat) : List Int := ts.take i ++ List.replicate (ts.length - i) 0
theorem fillN_len {ts : List Int} {i : Nat} (h : i ≤ ts.length) : (fillN ts i).length = ts.length := by simp [fillN]; omega
theorem fillN_set {ts : List Int} {i : Nat} (h : i < ts.length) : (fillN ts i).set i (ts[i]?.getD 0) = fillN ts (i + 1) := by
  unfold fillN
  rw [List.set_append_right _ _ (by simp; omega), List.take_succ_eq_append_getElem h, List.append_assoc, List.length_take, Nat.min_eq_left (by omega), Nat.sub_self]
  congr 1
  rw [show ts.length - i = (ts.length - (i + 1)) + 1 by omega, List.replicate_succ, List.set_cons_zero, List.getElem?_eq_getElem h]
  rfl
theorem fillN_all (ts : List Int) : fillN ts ts.length = ts := by simp [fillN]
theorem flatN_set (ts : List Int) (i : Nat) (n : Int) : flatN (ts.set i n) = (flatN ts).set i (.int .i64 n) := by simp [flatN, List.map_set]

set_option maxRecDepth 100000 in
set_option maxHeartbeats 1000000 in
theorem sameInts_any (p q : Option Addr) (ts : List Int) (c d : Nat) (hm : ts.length ≤ 9223372036854775807) (w : World) (hX : IntsIn w p ts) (hY : IntsIn w q ts) :
    Calls Tryd.prog 22 #[.slice p ts.length c, .slice q ts.length d] w fun e w' => e = .returned (.bool true) ∧ Below w.heap.size w w' := by
  have HX := Lib.hid hX
  have HY := Lib.hid hY
  clear hX hY
  go_enter Tryd.func22, Tryd.ntmps22
  go_wp2_with fail
  go_loopw [5] (fun s wr => ∃ i : Nat, i ≤ ts.length ∧ s = .int .i64 i ∧ Below w.heap.size w wr) (fun s _ => ts.length - (RowKit.intOf s).toNat)
  case atStart => exact ⟨0, Nat.zero_le _, rfl, Below.refl _ _⟩
  case round =>
    obtain ⟨i, hi, rfl, hB⟩ := hrel
    by_cases hlt : i < ts.length
    · obtain ⟨b, off, rfl, hb, hx⟩ := HX.out (by omega)
      obtain ⟨b', off', rfl, hb', hy⟩ := HY.out (by omega)
      have cx := hx.belowV hB hb i hlt
      have cy := hy.belowV hB hb' i hlt
      have hi0 : (0 : Int) ≤ (i : Int) := by omega
      have hi1 : (i : Int) < (ts.length : Int) := by omega
      generalize ts[i]?.getD 0 = n at cx cy
      have HB := Lib.hid hB
      clear hx hy
      go_wp2_with fail
      go_quiet (fail)
      go_wp2_with fail
      go_roundw
      case rel => exact ⟨i + 1, by omega, by go_num, below_drewN HB.out _⟩
      case measure => simp [RowKit.intOf]; omega
    · have hge : ts.length ≤ i := by omega
      go_wp2_with fail
      go_ret
      exact ⟨rfl, hB⟩
end Go.Proofs.YtmnbcofonhlplaaDoor
