/-
  Columns of the call's own: their cells; append of columns that came in; SameSchema at two schemas that read as one list.
-/
import Derived.Test.YtlhhkiglpehnfaaDoorFits
import Derived.Test.YtlhhkiglpehnfaaDoorPick
import Derived.Laws.AppendOwnNone
import Derived.Laws.OwnMore
namespace Go.Proofs.YtlhhkiglpehnfaaDoor
open Go.RowKit
set_option linter.unusedVariables false

def cellsC (c : Col) : List Value := [.string c.1, .int .i64 c.2]
def flatC (xs : List Col) : List Value := xs.flatMap cellsC
theorem flatC_app (xs ys : List Col) : flatC (xs ++ ys) = flatC xs ++ flatC ys := by simp [flatC]
theorem flatC_len (xs : List Col) : (flatC xs).length = xs.length * 2 := by
  induction xs with
  | nil => rfl
  | cons x xs ih => simp only [flatC, List.flatMap_cons, List.length_append, cellsC, List.length_cons, List.length_nil] at ih ⊢; omega
theorem flatC_get (xs : List Col) : ∀ i, i < xs.length → (flatC xs)[i * 2]? = some (.string (colAt xs i).1) ∧ (flatC xs)[i * 2 + 1]? = some (.int .i64 (colAt xs i).2) := by
  induction xs with
  | nil => intro i h; simp at h
  | cons x xs ih =>
    intro i h
    cases i with
    | zero => simp [flatC, cellsC, colAt]
    | succ i =>
      have := ih i (by simpa using h)
      rw [show (i + 1) * 2 = i * 2 + 2 by omega]
      simpa [flatC, cellsC, colAt] using this
theorem infoC : (Tryd.prog.info? 39).map (fun i => (i.zero, i.size, i.bytes)) = some (some (.agg #[.string ⟨#[]⟩, .int .i64 0]), 2, 24) := by kernel_rfl
abbrev OwnsC (W : World) (base : Nat) (v : Value) (xs : List Col) : Prop := W.ownsRow base 39 2 v xs.length (flatC xs)
theorem colsIn_of_owns {W : World} {base c : Nat} {p : Option Addr} {ys : List Col} (h : OwnsC W base (.slice p ys.length c) ys) : ColsIn W p ys := fun hp => by
  have hh := h
  rcases h.2 with ⟨h0, hn⟩ | ⟨g, cap, cur, he, _, hg, _⟩
  · omega
  · simp only [Value.slice.injEq, true_and] at he
    obtain ⟨rfl, rfl⟩ := he
    refine ⟨g, 0, rfl, (Array.getElem?_eq_some_iff.1 hg).1, fun i hi => ?_⟩
    obtain ⟨g0, g1⟩ := flatC_get ys i hi
    simp only [Nat.zero_add]
    exact ⟨(hh.cellAt (i * 2) (by omega)).trans g0, (hh.cellAt (i * 2 + 1) (by omega)).trans g1⟩
theorem owns_cap {W : World} {base n c : Nat} {p : Option Addr} {e : TypeId} {size : Nat} {xs : List Value} (h : W.ownsRow base e size (.slice p n c) n xs) : n ≤ c ∧ c ≤ maxLen := by
  rcases h.2 with ⟨h0, hn⟩ | ⟨g, cap, cur, he, _, _, h1, h2, _⟩
  · simp only [Value.slice.injEq] at h0
    obtain ⟨_, rfl, rfl⟩ := h0
    exact ⟨Nat.le_refl _, Nat.zero_le _⟩
  · simp only [Value.slice.injEq] at he
    obtain ⟨_, _, rfl⟩ := he
    exact ⟨h1, h2⟩

/-- append of a row that came in, onto one of the call's own. -/
theorem wpList_append_cols {w : World} {ops : Array Oper} {rest : List Oper} {o : Oper} {a : Act} {Q : Exit → Act → World → Prop} (hgd : o.guard = none) (s x : Operand)
    (ho : o.op = .call { callee := .builtin .append, args := #[s, x], argTypes := #[23, 23] })
    (base : Nat) (v : Value) (n : Nat) (ys : List Value) (hs : a.eval s = v) (hown : w.ownsRow base 39 2 v n ys) (p : Option Addr) (xs : List Col) (cap : Nat) (hx : a.eval x = .slice p xs.length cap) (hX : ColsIn w p xs) (hz : p = none → cap = 0)
    (hn : n + xs.length ≤ 1000000) (hbase : base ≤ w.heap.size) (m : Nat) (hm : n + xs.length = m) (L : List Value) (hL : ys ++ flatC xs = L)
    (h : ∀ v' w', w'.ownsRow base 39 2 v' m L → Below base w w' → w.grownBy w' v.ownBlock → wpList Tryd.prog ops Q rest (a.put o.dst v') w') : wpList Tryd.prog ops Q (o :: rest) a w := by
  obtain ⟨i0, hi, hz0, hz1, hz2⟩ := info_parts infoC
  subst hm hL
  have hb : ∀ w', w.grownBy w' v.ownBlock → Below base w w' := fun w' hg => (Below.refl base w).grown hg hbase (fun k e => (hown.lt k e).1)
  rcases p with _ | ad
  · have hc := hz rfl
    subst hc
    have hxs : xs = [] := by
      cases xs with
      | nil => rfl
      | cons y ys => obtain ⟨_, _, h, _⟩ := hX (by simp); cases h
    subst hxs
    refine wpList_append_own_none hgd s x 23 ho base 39 i0 2 Tryd.underlying23 hi v n ys hs hown hx (h v w ?_ (Below.refl _ _) (World.grownBy.refl _ _))
    simpa [flatC] using hown
  · refine wpList_append_own _ hgd s x 23 ho base 39 i0 (.agg #[.string ⟨#[]⟩, .int .i64 0]) 2 24 Tryd.underlying23 hi hz0 hz1 hz2 rfl (by decide) v n ys hs hown ad xs.length cap (flatC xs) hx (flatC_len xs) ?_ ?_ (by unfold maxLen; omega) (by omega) hbase (fun v' w' h1 h2 _ => h v' w' h1 (hb w' h2) h2)
    · intro j u hu
      have hj : j < xs.length * 2 := by rw [← flatC_len]; exact (List.getElem?_eq_some_iff.1 hu).1
      obtain ⟨b, off, e, _, hra⟩ := hX (by omega)
      cases e
      rw [Go.WideShapes.add_plain]
      obtain ⟨g0, g1⟩ := flatC_get xs (j / 2) (by omega)
      obtain ⟨c0, c1⟩ := hra (j / 2) (by omega)
      have h3 : j % 2 = 0 ∨ j % 2 = 1 := by omega
      rcases h3 with h3 | h3
      · have e : j / 2 * 2 = j := by omega
        rw [e] at g0 c0
        rw [c0, ← hu, g0]
      · have e : j / 2 * 2 + 1 = j := by omega
        rw [Nat.add_assoc, e] at c1
        rw [e] at g1
        rw [c1, ← hu, g1]
    · intro u hu
      simp only [flatC, List.mem_flatMap, cellsC, List.mem_cons, List.not_mem_nil, or_false] at hu
      obtain ⟨y, _, rfl | rfl⟩ := hu <;> rfl

theorem neqC (s : ByteArray) (a : Int) (w : World) :
    (binOp .neq 39 (.agg #[.string s, .int .i64 a]) (.agg #[.string s, .int .i64 a])).run Tryd.prog w = .ok (.bool false) w := by
  have uI := Tryd.underlying3
  have gI := Tryd.isAgg3
  have zI := Tryd.sizeOf3
  have uS := Tryd.underlying9
  have gS := Tryd.isAgg9
  have zS := Tryd.sizeOf9
  have hS : Tryd.prog.underlying 39 = some (.struct (Tryd.prog.fieldsOf 39)) := by kernel_rfl
  have hp : Tryd.prog.stoodInHeld 39 = false := by kernel_rfl
  rw [run_neq_struct, show (10000 : Nat) = 9999 + 1 from rfl, run_equalIn_agg w 9999 39 _ _ hS hp]
  simp only [Program.fieldsOf, Tryd.underlying39]
  go_simp
  try simp
theorem guardC : Tryd.prog.eqGuardType Tryd.prog.depth 39 = false := by kernel_rfl

set_option maxRecDepth 100000 in
set_option maxHeartbeats 1000000 in
theorem SameC_any (p q : Option Addr) (xs : List Col) (c d n : Nat) (hn : n = xs.length) (hm : xs.length ≤ 9223372036854775807) (w : World) (hX : ColsIn w p xs) (hY : ColsIn w q xs) :
    Calls Tryd.prog 9 #[.slice p xs.length c, .slice q n d] w fun e w' => e = .returned (.bool true) ∧ Below w.heap.size w w' := by
  subst hn
  have HX := Lib.hid hX
  have HY := Lib.hid hY
  clear hX hY
  go_enter Tryd.func9, Tryd.ntmps9
  have hm0 := guardC
  go_wp2_with fail
  go_loopw [5] (fun s wr => ∃ i : Nat, i ≤ xs.length ∧ s = .int .i64 i ∧ Below w.heap.size w wr) (fun s _ => xs.length - (intOf s).toNat)
  case atStart => exact ⟨0, Nat.zero_le _, rfl, Below.refl _ _⟩
  case round =>
    obtain ⟨i, hi, rfl, hB⟩ := hrel
    by_cases hlt : i < xs.length
    · obtain ⟨b, off, rfl, hbl, hra⟩ := HX.out (by omega)
      obtain ⟨b2, off2, rfl, hbl2, hra2⟩ := HY.out (by omega)
      obtain ⟨c0, c1⟩ := (hra.belowV hB hbl) i hlt
      obtain ⟨d0, d1⟩ := (hra2.belowV hB hbl2) i hlt
      have hi0 : (0 : Int) ≤ (i : Int) := by omega
      have hi1 : (i : Int) < (xs.length : Int) := by omega
      clear hra hra2
      generalize colAt xs i = x at c0 c1 d0 d1
      obtain ⟨x0, x1⟩ := x
      dsimp only at c0 c1 d0 d1
      have hq := fun W => neqC x0 x1 W
      go_wp2_with fail
      go_quiet (fail)
      go_wp2_with fail
      go_roundw
      case rel => exact ⟨i + 1, by omega, by go_num, ⟨hB.os, hB.tape, hB.output, hB.size, hB.block⟩⟩
      case measure => simp [intOf]; omega
    · have hge : xs.length ≤ i := by omega
      go_wp2_with fail
      go_ret
      exact ⟨rfl, hB⟩
end Go.Proofs.YtlhhkiglpehnfaaDoor
