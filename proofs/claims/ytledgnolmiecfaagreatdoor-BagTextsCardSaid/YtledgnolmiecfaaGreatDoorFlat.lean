/-
  Rows of the call's own: their cells; append of a row that came in.
-/
import Derived.Test.YtledgnolmiecfaaGreatDoorBlk
import Derived.Test.YtledgnolmiecfaaGreatDoorLong
import Derived.Laws.AppendOwnNone
import Derived.Laws.OwnMore
namespace Go.Proofs.YtledgnolmiecfaaGreatDoor
open Go.RowKit
set_option linter.unusedSimpArgs false

def flatV (xs : List Val) : List Value := xs.flatMap cellsV
theorem flatV_app (xs ys : List Val) : flatV (xs ++ ys) = flatV xs ++ flatV ys := by simp [flatV]
theorem flatV_len (xs : List Val) : (flatV xs).length = xs.length * 3 := by
  induction xs with
  | nil => rfl
  | cons x xs ih => simp only [flatV, List.flatMap_cons, List.length_append, cellsV, List.length_cons, List.length_nil] at ih ⊢; omega
theorem flatV_get (xs : List Val) : ∀ i, i < xs.length → (flatV xs)[i * 3]? = some (.int .i64 (xs[i]?.getD v0).1) ∧ (flatV xs)[i * 3 + 1]? = some (.int .i64 (xs[i]?.getD v0).2.1) ∧ (flatV xs)[i * 3 + 2]? = some (.string (xs[i]?.getD v0).2.2) := by
  induction xs with
  | nil => intro i h; simp at h
  | cons x xs ih =>
    intro i h
    cases i with
    | zero => simp [flatV, cellsV]
    | succ i =>
      have := ih i (by simpa using h)
      rw [show (i + 1) * 3 = i * 3 + 3 by omega]
      simpa [flatV, cellsV] using this
theorem flatV_set : ∀ (xs : List Val) (i : Nat) (x : Val), flatV (xs.set i x) = (((flatV xs).set (i * 3) (.int .i64 x.1)).set (i * 3 + 1) (.int .i64 x.2.1)).set (i * 3 + 2) (.string x.2.2)
  | [], i, x => by simp [flatV]
  | w :: ws, 0, x => by simp [flatV, cellsV]
  | w :: ws, i + 1, x => by
    have h := flatV_set ws i x
    rw [show (i + 1) * 3 = i * 3 + 3 by omega]
    simp only [flatV, List.set_cons_succ, List.flatMap_cons, cellsV, List.cons_append, List.nil_append] at h ⊢
    rw [h]
theorem infoV : (Tryz.prog.info? 40).map (fun i => (i.zero, i.size, i.bytes)) = some (some (.agg #[.int .i64 0, .int .i64 0, .string ⟨#[]⟩]), 3, 32) := by kernel_rfl
abbrev OwnsV (W : World) (base : Nat) (v : Value) (xs : List Val) : Prop := W.ownsRow base 40 3 v xs.length (flatV xs)

theorem valsIn_of_owns {W : World} {base c : Nat} {p : Option Addr} {ys : List Val} (h : OwnsV W base (.slice p ys.length c) ys) : ValsIn W p ys := fun hp => by
  have hh := h
  rcases h.2 with ⟨h0, hn⟩ | ⟨g, cap, cur, he, _, hg, _⟩
  · omega
  · simp only [Value.slice.injEq, true_and] at he
    obtain ⟨rfl, rfl⟩ := he
    refine ⟨g, 0, rfl, (Array.getElem?_eq_some_iff.1 hg).1, fun i hi => ?_⟩
    obtain ⟨g0, g1, g2⟩ := flatV_get ys i hi
    simp only [Nat.zero_add]
    exact ⟨(hh.cellAt (i * 3) (by omega)).trans g0, (hh.cellAt (i * 3 + 1) (by omega)).trans g1, (hh.cellAt (i * 3 + 2) (by omega)).trans g2⟩
theorem slice_of_owns {W : World} {base n : Nat} {e : TypeId} {size : Nat} {v : Value} {xs : List Value} (h : W.ownsRow base e size v n xs) : ∃ p cap, v = .slice p n cap := by
  rcases h.2 with ⟨rfl, rfl⟩ | ⟨g, cap, cur, rfl, _⟩
  · exact ⟨none, 0, rfl⟩
  · exact ⟨_, cap, rfl⟩
theorem owns_below {W W' : World} {base : Nat} {v : Value} {k : Nat} {e : TypeId} {size : Nat} {xs : List Value} (h : W.ownsRow base e size v k xs) (hb : Below W.heap.size W W') : W'.ownsRow base e size v k xs := by
  refine ⟨h.1, ?_⟩
  rcases h.2 with hn | ⟨g, cap, cur, rfl, hg, hc, rest⟩
  · exact .inl hn
  · exact .inr ⟨g, cap, cur, rfl, hg, (hb.block g (Array.getElem?_eq_some_iff.1 hc).1).trans hc, rest⟩
theorem ownsRow_base {W : World} {base base' : Nat} {e : TypeId} {size : Nat} {v : Value} {k : Nat} {xs : List Value} (h : W.ownsRow base e size v k xs) (hb : base' ≤ base) : W.ownsRow base' e size v k xs := by
  refine ⟨h.1, ?_⟩
  rcases h.2 with hn | ⟨g, cap, cur, rfl, hg, rest⟩
  · exact .inl hn
  · exact .inr ⟨g, cap, cur, rfl, Nat.le_trans hb hg, rest⟩

/-- append of a row that came in, onto one of the call's own. -/
theorem wpList_append_vals {w : World} {ops : Array Oper} {rest : List Oper} {o : Oper} {a : Act} {Q : Exit → Act → World → Prop} (hgd : o.guard = none) (s x : Operand)
    (ho : o.op = .call { callee := .builtin .append, args := #[s, x], argTypes := #[36, 36] })
    (base : Nat) (v : Value) (n : Nat) (ys : List Value) (hs : a.eval s = v) (hown : w.ownsRow base 40 3 v n ys) (p : Option Addr) (xs : List Val) (cap : Nat) (hx : a.eval x = .slice p xs.length cap) (hX : ValsIn w p xs) (hz : p = none → cap = 0)
    (hn : n + xs.length ≤ 1000000) (hbase : base ≤ w.heap.size) (m : Nat) (hm : n + xs.length = m) (L : List Value) (hL : ys ++ flatV xs = L)
    (h : ∀ v' w', w'.ownsRow base 40 3 v' m L → Below base w w' → w.grownBy w' v.ownBlock → wpList Tryz.prog ops Q rest (a.put o.dst v') w') : wpList Tryz.prog ops Q (o :: rest) a w := by
  obtain ⟨i0, hi, hz0, hz1, hz2⟩ := info_parts infoV
  subst hm hL
  have hb : ∀ w', w.grownBy w' v.ownBlock → Below base w w' := fun w' hg => (Below.refl base w).grown hg hbase (fun k e => (hown.lt k e).1)
  rcases p with _ | ad
  · have hc := hz rfl
    subst hc
    have hxs : xs = [] := by
      cases xs with
      | nil => rfl
      | cons y ys => obtain ⟨_, _, h, _⟩ := hX (by simp); cases h
    subst hxs
    refine wpList_append_own_none hgd s x 36 ho base 40 i0 3 Tryz.underlying36 hi v n ys hs hown hx (h v w ?_ (Below.refl _ _) (World.grownBy.refl _ _))
    simpa [flatV] using hown
  · refine wpList_append_own _ hgd s x 36 ho base 40 i0 (.agg #[.int .i64 0, .int .i64 0, .string ⟨#[]⟩]) 3 32 Tryz.underlying36 hi hz0 hz1 hz2 rfl (by decide) v n ys hs hown ad xs.length cap (flatV xs) hx (flatV_len xs) ?_ ?_ (by unfold maxLen; omega) (by omega) hbase (fun v' w' h1 h2 _ => h v' w' h1 (hb w' h2) h2)
    · intro j u hu
      have hj : j < xs.length * 3 := by rw [← flatV_len]; exact (List.getElem?_eq_some_iff.1 hu).1
      obtain ⟨b, off, e, _, hra⟩ := hX (by omega)
      cases e
      rw [Go.WideShapes.add_plain]
      obtain ⟨g0, g1, g2⟩ := flatV_get xs (j / 3) (by omega)
      obtain ⟨c0, c1, c2⟩ := hra (j / 3) (by omega)
      have h3 : j % 3 = 0 ∨ j % 3 = 1 ∨ j % 3 = 2 := by omega
      rcases h3 with h3 | h3 | h3
      · have e : j / 3 * 3 = j := by omega
        rw [e] at g0 c0
        rw [c0, ← hu, g0]
      · have e : j / 3 * 3 + 1 = j := by omega
        rw [Nat.add_assoc, e] at c1
        rw [e] at g1
        rw [c1, ← hu, g1]
      · have e : j / 3 * 3 + 2 = j := by omega
        rw [Nat.add_assoc, e] at c2
        rw [e] at g2
        rw [c2, ← hu, g2]
    · intro u hu
      simp only [flatV, List.mem_flatMap, cellsV, List.mem_cons, List.not_mem_nil, or_false] at hu
      obtain ⟨y, _, rfl | rfl | rfl⟩ := hu <;> rfl
end Go.Proofs.YtledgnolmiecfaaGreatDoor
