/-
  Arguments that are lists: a slice of windows, a slice of numbers, opened to a list and its cells.
-/
import Derived.Test.YthbpdalkifocaaaLift
import Derived.Test.YthbpdalkifocaaaTimes
import Derived.Deep.SlicePairs
import Derived.OpenShut
import Derived.Laws.AppendOwnNone
import Derived.Laws.AppendOwn
import Derived.OwnWalk
namespace Go.Proofs.Ythbpdalkifocaaa
open Go.ChangeShapes Go.WideShapes Go.ChangeAt Go.RowKit Go.Deep

/-- A slice of windows that came in: where it has any, it has an address, and cells. -/
def WinsIn (W : World) (p : Option Addr) (xs : List (Int × Int)) : Prop :=
  0 < xs.length → ∃ b off, p = some ⟨b, off, none⟩ ∧ b < W.heap.size ∧ RowAt W b off xs
def IntsIn (W : World) (p : Option Addr) (ts : List Int) : Prop :=
  0 < ts.length → ∃ b off, p = some ⟨b, off, none⟩ ∧ b < W.heap.size ∧ TimesAt W b off ts

theorem open_wins {H : Type} {enc : TypeId × Value → H} {W : World} {base : Nat} {v : Value} {d : DataW H} {ps : List MemPlace} (hval : Value.okWide Try.prog W .any base 22 v)
    (h : DataW.Trod enc Try.prog W 0 (fun _ => true) true 22 v d ps) : ∃ p xs cap, v = .slice p xs.length cap ∧ xs.length ≤ maxLen ∧ WinsIn W p xs ∧ (p = none → cap = 0) := by
  obtain ⟨a, len, cap, rfl⟩ := okWide_slice Try.underlying22 hval
  obtain ⟨fuel, hf⟩ := h
  rcases open_slice_pairs Try.underlying22 Try.underlying31 (by kernel_rfl) rfl rfl (by kernel_rfl) (by kernel_rfl) hf with ⟨h0, _⟩ | ⟨a', len', cap', m, n, V0, V1, D0, D1, P0, P1, hcs, _, hlc, hcm, hm, _, hi⟩
  · simp only [Value.cells, List.cons.injEq, Value.slice.injEq, and_true] at h0
    obtain ⟨rfl, rfl, rfl⟩ := h0
    exact ⟨none, [], 0, rfl, by simp, fun h => absurd h (by simp), fun _ => rfl⟩
  · simp only [Value.cells, List.cons.injEq, Value.slice.injEq, and_true] at hcs
    obtain ⟨rfl, rfl, rfl⟩ := hcs
    rw [if_pos rfl] at hm
    subst hm
    have each : ∀ i, i < len → ∃ q : Int × Int, W.cell? (a'.add (i * 2)) = some (.int .i64 q.1) ∧ W.cell? (a'.add (i * 2 + 1)) = some (.int .i64 q.2) := fun i hil => by
      obtain ⟨c0, c1, t0, t1⟩ := hi i (by omega)
      obtain ⟨n0, e0, _, _⟩ := DataW.trod_int Try.underlying3 t0
      obtain ⟨n1, e1, _, _⟩ := DataW.trod_int Try.underlying3 t1
      simp only [List.cons.injEq, and_true] at e0 e1
      exact ⟨(n0, n1), by rw [c0, e0], by rw [c1, e1]⟩
    obtain ⟨q, hq⟩ := choose_lt each
    have hl : ((List.range len).map q).length = len := by simp
    refine ⟨some a', (List.range len).map q, m, by rw [hl], by rw [hl]; omega, fun h => ?_, fun h => by cases h⟩
    rw [hl] at h
    obtain ⟨b, off, spot⟩ := a'
    have h00 := (hq 0 h).1
    have hspot : spot = none := by simpa [Addr.add] using World.cell?_spot h00
    subst hspot
    have e0 := (hq 0 h).1
    rw [add_plain] at e0
    refine ⟨b, off, rfl, World.block_lt_of_cell? W _ e0, fun i hil => ?_⟩
    rw [hl] at hil
    obtain ⟨c0, c1⟩ := hq i hil
    rw [add_plain] at c0 c1
    have : ((List.range len).map q)[i]?.getD (0, 0) = q i := by simp [hil]
    rw [this]
    exact ⟨c0, by rw [← Nat.add_assoc] at c1; exact c1⟩

theorem open_times {H : Type} {enc : TypeId × Value → H} {W : World} {base : Nat} {v : Value} {d : DataW H} {ps : List MemPlace} (hval : Value.okWide Try.prog W .any base 23 v)
    (h : DataW.Trod enc Try.prog W 0 (fun _ => true) true 23 v d ps) : ∃ p ts cap, v = .slice p ts.length cap ∧ ts.length ≤ maxLen ∧ IntsIn W p ts := by
  obtain ⟨a, len, cap, rfl⟩ := okWide_slice Try.underlying23 hval
  obtain ⟨fuel, hf⟩ := h
  rcases open_ints Try.underlying23 Try.underlying3 (by kernel_rfl) hf with ⟨h0, _⟩ | ⟨a', len', cap', zs, hcs, _, hlc, hcm, hz, _, hc, _⟩
  · simp only [Value.cells, List.cons.injEq, Value.slice.injEq, and_true] at h0
    obtain ⟨rfl, rfl, rfl⟩ := h0
    exact ⟨none, [], 0, rfl, by simp, fun h => absurd h (by simp)⟩
  · simp only [Value.cells, List.cons.injEq, Value.slice.injEq, and_true] at hcs
    obtain ⟨rfl, rfl, rfl⟩ := hcs
    rw [if_pos rfl] at hz
    have hl : (zs.take len).length = len := by rw [List.length_take]; omega
    refine ⟨some a', zs.take len, cap, by rw [hl], by rw [hl]; omega, fun h => ?_⟩
    rw [hl] at h
    obtain ⟨b, off, rfl, hcell⟩ := ints_at hc (by omega)
    refine ⟨b, off, rfl, World.block_lt_of_cell? W _ (hcell 0 (by omega)), fun i hil => ?_⟩
    rw [hl] at hil
    rw [hcell i (by omega)]
    simp [hil]

theorem WinsIn.belowV {p : Option Addr} {W W' : World} {xs : List (Int × Int)} (h : WinsIn W p xs) (hb : Below W.heap.size W W') : WinsIn W' p xs := fun hp => by
  obtain ⟨b, off, e, hl, hr⟩ := h hp
  exact ⟨b, off, e, Nat.lt_of_lt_of_le hl hb.size, hr.belowV hb hl⟩
theorem IntsIn.belowV {p : Option Addr} {W W' : World} {ts : List Int} (h : IntsIn W p ts) (hb : Below W.heap.size W W') : IntsIn W' p ts := fun hp => by
  obtain ⟨b, off, e, hl, hr⟩ := h hp
  exact ⟨b, off, e, Nat.lt_of_lt_of_le hl hb.size, hr.belowV hb hl⟩

/-- append of a slice that came in, onto one of the call's own. -/
theorem wpList_append_wins {w : World} {ops : Array Oper} {rest : List Oper} {o : Oper} {a : Act} {Q : Exit → Act → World → Prop} (hgd : o.guard = none) (s x : Operand)
    (ho : o.op = .call { callee := .builtin .append, args := #[s, x], argTypes := #[22, 22] })
    (base : Nat) (v : Value) (n : Nat) (ys : List Value) (hs : a.eval s = v) (hown : w.ownsRow base 31 2 v n ys) (p : Option Addr) (xs : List (Int × Int)) (cap : Nat) (hx : a.eval x = .slice p xs.length cap) (hX : WinsIn w p xs) (hz : p = none → cap = 0)
    (hn : n + xs.length ≤ 1000000) (hbase : base ≤ w.heap.size) (m : Nat) (hm : n + xs.length = m) (L : List Value) (hL : ys ++ flatW xs = L)
    (h : ∀ v' w', w'.ownsRow base 31 2 v' m L → w.grownBy w' v.ownBlock → wpList Try.prog ops Q rest (a.put o.dst v') w') : wpList Try.prog ops Q (o :: rest) a w := by
  obtain ⟨i0, hi, hz0, hz1, hz2⟩ := info_parts infoW
  subst hm hL
  rcases p with _ | ad
  · have hc := hz rfl
    subst hc
    have hxs : xs = [] := by
      cases xs with
      | nil => rfl
      | cons y ys => obtain ⟨_, _, h, _⟩ := hX (by simp); cases h
    subst hxs
    refine wpList_append_own_none hgd s x 22 ho base 31 i0 2 Try.underlying22 hi v n ys hs hown hx (h v w ?_ (World.grownBy.refl _ _))
    simpa [flatW] using hown
  · refine wpList_append_own _ hgd s x 22 ho base 31 i0 (.agg #[.int .i64 0, .int .i64 0]) 2 16 Try.underlying22 hi hz0 hz1 hz2 rfl (by decide) v n ys hs hown ad xs.length cap (flatW xs) hx (flatW_len xs) ?_ ?_ (by unfold maxLen; omega) (by omega) hbase (fun v' w' h1 h2 _ => h v' w' h1 h2)
    · intro j u hu
      have hj : j < xs.length * 2 := by rw [← flatW_len]; exact (List.getElem?_eq_some_iff.1 hu).1
      obtain ⟨b, off, e, _, hra⟩ := hX (by omega)
      cases e
      rw [add_plain]
      have hg := flatW_get xs (j / 2) (by omega)
      have hc := hra (j / 2) (by omega)
      rcases Nat.mod_two_eq_zero_or_one j with h0 | h1
      · have e : j / 2 * 2 = j := by omega
        rw [e] at hg hc
        rw [hc.1, ← hu, hg.1]
      · have e : j / 2 * 2 + 1 = j := by omega
        rw [e] at hg
        rw [Nat.add_assoc, e] at hc
        rw [hc.2, ← hu, hg.2]
    · intro u hu
      simp only [flatW, List.mem_flatMap, cellsW, List.mem_cons, List.not_mem_nil, or_false] at hu
      obtain ⟨y, _, rfl | rfl⟩ := hu <;> rfl

/-- Both Merges at whatever slice came in. -/
theorem mergeIn (f : Nat) (hf : f = 8 ∨ f = 9) (p : Option Addr) (xs : List (Int × Int)) (cap : Nat) (hm : xs.length ≤ 400) (w : World) (h : WinsIn w p xs) :
    Calls Try.prog f #[.slice p xs.length cap] w (MergePost w xs) := by
  cases xs with
  | nil =>
    rcases hf with rfl | rfl
    · exact clkMerge_zero _ _ _
    · exact refMerge_zero _ _ _
  | cons x xs =>
    obtain ⟨b, off, rfl, hbk, hra⟩ := h (by simp)
    rcases hf with rfl | rfl
    · exact clkMerge_some _ _ _ _ hm _ hbk hra
    · exact refMerge_some _ _ _ _ hm _ hbk hra
theorem mergeLong (f : Nat) (hf : f = 8 ∨ f = 9) (p : Option Addr) (n : Nat) (cap : Nat) (h : 400 < n) (w : World) :
    Calls Try.prog f #[.slice p n cap] w (RowPost2 w.heap.size w [] 1) := by
  rcases hf with rfl | rfl
  · exact Merge_long _ _ _ h _
  · exact refMerge_long _ _ _ h _
#print axioms open_wins
#print axioms mergeIn
end Go.Proofs.Ythbpdalkifocaaa
