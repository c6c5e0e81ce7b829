/-
  Sorted of package mark: the events that were not late, and those that were, in lists of the call's own.
-/
import Derived.Test.YtmnbcofonhlplaaSo
import Derived.OwnWalkIn
import Derived.TacticsInMore
import Derived.RangeFuncLeaves
import Derived.Shelf.Abstract
import Derived.Deep.AppendLies
namespace Go.Proofs.Ytmnbcofonhlplaa
open Go.RowKit
set_option linter.unusedSimpArgs false
attribute [local go_sem] Oper.semAt_some

def flatE (l : List EvR) : List Value := l.flatMap cellsE
theorem flatE_app (l m : List EvR) : flatE (l ++ m) = flatE l ++ flatE m := by simp [flatE]
theorem flatE_get (l : List EvR) : ∀ i, i < l.length → (flatE l)[i * 2]? = some (.int .i64 (l[i]?.getD er0).1) ∧ (flatE l)[i * 2 + 1]? = some (rowv (l[i]?.getD er0).2) := by
  induction l with
  | nil => intro i h; simp at h
  | cons x l ih =>
    intro i h
    cases i with
    | zero => simp [flatE, cellsE]
    | succ i =>
      have := ih i (by simpa using h)
      rw [show (i + 1) * 2 = i * 2 + 2 by omega]
      simpa [flatE, cellsE] using this
theorem flatE_len (l : List EvR) : (flatE l).length = l.length * 2 := by
  induction l with
  | nil => rfl
  | cons x l ih => simp only [flatE, List.flatMap_cons, cellsE, List.length_append, List.length_cons, List.length_nil] at ih ⊢; omega
theorem infoE : (Try.prog.info? 55).map (fun i => (i.zero, i.size, i.bytes)) = some (some (.agg #[.int .i64 0, .slice none 0 0]), 2, 32) := by kernel_rfl
/-- Events of the call's own, with rows of the call's own. -/
def OwnEv (W : World) (lo : Nat) (v : Value) (l : List EvR) : Prop := W.ownsRow lo 55 2 v l.length (flatE l) ∧ ∀ r ∈ l, OwnsV W lo (rowv r.2) r.2.2.1 ∧ r.2.2.1.length ≤ 8
theorem OwnEv.belowV {W W' : World} {lo : Nat} {v : Value} {l : List EvR} (h : OwnEv W lo v l) (hb : Below W.heap.size W W') : OwnEv W' lo v l := ⟨owns_below h.1 hb, fun r hr => ⟨owns_below (h.2 r hr).1 hb, (h.2 r hr).2⟩⟩
theorem evsIn_of_own {W : World} {lo : Nat} {v : Value} {l : List EvR} (h : OwnEv W lo v l) : ∃ p c, v = .slice p l.length c ∧ EvsIn W p l := by
  rcases h.1.2 with ⟨rfl, h0⟩ | ⟨g, cap, cur, rfl, _, hg, hc1, hc2, hs, ht⟩
  · have : l = [] := List.eq_nil_of_length_eq_zero h0
    subst this
    exact ⟨none, 0, rfl, fun h => absurd h (by simp)⟩
  · refine ⟨_, _, rfl, fun _ => ⟨g, 0, rfl, (Array.getElem?_eq_some_iff.1 hg).1, fun i hi => ?_⟩⟩
    obtain ⟨g0, g1⟩ := flatE_get l i hi
    have hh := h.1
    have hm : l[i]?.getD er0 ∈ l := by rw [List.getElem?_eq_getElem hi]; exact List.getElem_mem hi
    simp only [Nat.zero_add]
    exact ⟨(hh.cellAt (i * 2) (by omega)).trans g0, (hh.cellAt (i * 2 + 1) (by omega)).trans g1, rowOK_of_owns (h.2 _ hm).1 (by have := (h.2 _ hm).2; omega)⟩
def onP (l : List Pl) : List Ev := (l.filter fun x => !x.2.2).map fun x => (x.1, x.2.1)
def lateP (l : List Pl) : List Ev := (l.filter fun x => x.2.2).map fun x => (x.1, x.2.1)
/-- The block that a step turns holds no cells, or is B. -/
def Aside (n₀ B : Nat) (W : World) (row : Option Nat) : Prop := ∀ r, row = some r → n₀ ≤ r ∧ ((∃ o : Obj, W.heap[r]? = some o ∧ o.isCells = false) ∨ r = B)
theorem own_aside {W W' : World} {n₀ B TL TG lo n size : Nat} {e : TypeId} {v : Value} {xs : List Value} {row : Option Nat} (h : W.ownsRow lo e size v n xs) (hn : NotG B TL TG v) (hg : W.grownBy W' row) (hr : Aside n₀ B W row) : W'.ownsRow lo e size v n xs := by
  refine h.kept hg ?_
  cases hv : v.ownBlock with
  | none => exact .inl rfl
  | some x =>
    refine .inr fun e1 => ?_
    obtain ⟨cur, hc⟩ := own_type h x hv
    rcases (hr x e1.symm).2 with ⟨o, ho, hc2⟩ | h2
    · rw [ho] at hc; cases hc; cases hc2
    · exact (hn x hv).1 h2
theorem blk_aside {W W' : World} {n₀ B T : Nat} {t : TypeId} {cs : Array Value} {row : Option Nat} (h : Blk W T t cs) (hT : T ≠ B) (hg : W.grownBy W' row) (hr : Aside n₀ B W row) : Blk W' T t cs := by
  refine h.keepG hg fun e => ?_
  rcases (hr T e.symm).2 with ⟨o, ho, hc2⟩ | h2
  · rw [show W.heap[T]? = _ from h] at ho; cases ho; cases hc2
  · exact hT h2
theorem OwnEv.aside {W W' : World} {n₀ B TL TG lo : Nat} {v : Value} {l : List EvR} {row : Option Nat} (h : OwnEv W lo v l) (hn : NotG B TL TG v) (hl : ∀ r ∈ l, NotG B TL TG (rowv r.2)) (hg : W.grownBy W' row) (hr : Aside n₀ B W row) : OwnEv W' lo v l :=
  ⟨own_aside h.1 hn hg hr, fun r hm => ⟨own_aside (h.2 r hm).1 (hl r hm) hg hr, (h.2 r hm).2⟩⟩

/-- What the loop's body keeps. -/
def SortI (sz n₀ T4 T5 B TL TG : Nat) (w0 : World) (pre : List EvY) (W : World) : Prop :=
  ∃ (von vl : Value) (ons lts : List EvR), Blk W T4 42 #[von] ∧ Blk W T5 42 #[vl] ∧ OwnEv W n₀ von ons ∧ OwnEv W n₀ vl lts ∧ NotG B TL TG von ∧ NotG B TL TG vl ∧ (∀ r ∈ ons, NotG B TL TG (rowv r.2)) ∧ (∀ r ∈ lts, NotG B TL TG (rowv r.2)) ∧
    ons.map evv = onP (pre.map strip) ∧ lts.map evv = lateP (pre.map strip) ∧ Below n₀ w0 W ∧ sz ≤ W.heap.size ∧ (∀ x, von.ownBlock = some x → vl.ownBlock ≠ some x) ∧ ons.length ≤ pre.length ∧ lts.length ≤ pre.length
theorem SortI.aside {sz n₀ T4 T5 B TL TG : Nat} {w0 W W' : World} {pre : List EvY} {row : Option Nat} (h : SortI sz n₀ T4 T5 B TL TG w0 pre W) (h4 : T4 ≠ B) (h5 : T5 ≠ B) (hn : n₀ ≤ W.heap.size) (hg : W.grownBy W' row) (hr : Aside n₀ B W row) : SortI sz n₀ T4 T5 B TL TG w0 pre W' := by
  obtain ⟨von, vl, ons, lts, k4, k5, o4, o5, n4, n5, r4, r5, m4, m5, hb, hsz, hsep⟩ := h
  exact ⟨von, vl, ons, lts, blk_aside k4 h4 hg hr, blk_aside k5 h5 hg hr, o4.aside n4 r4 hg hr, o5.aside n5 r5 hg hr, n4, n5, r4, r5, m4, m5, hb.grown hg hn (fun k e => (hr k e).1), Nat.le_trans hsz hg.size, hsep⟩
theorem onP_app (l : List Pl) (x : Pl) : onP (l ++ [x]) = if x.2.2 = true then onP l else onP l ++ [(x.1, x.2.1)] := by
  unfold onP; rw [List.filter_append, List.map_append]; cases h : x.2.2 <;> simp [h]
theorem lateP_app (l : List Pl) (x : Pl) : lateP (l ++ [x]) = if x.2.2 = true then lateP l ++ [(x.1, x.2.1)] else lateP l := by
  unfold lateP; rw [List.filter_append, List.map_append]; cases h : x.2.2 <;> simp [h]
theorem keepsO_cells {W W' : World} {row : Option Nat} (hg : W.grownBy W' row) (hr : ∀ r, row = some r → ∃ cur t f, W.heap[r]? = some (.cells cur t f)) : KeepsOthers W W' :=
  ⟨hg.size, fun k o hk ho => (hg.block k (Array.getElem?_eq_some_iff.1 hk).1 (fun e => by
    obtain ⟨cur, t, f, hc⟩ := hr k e.symm
    rw [hk] at hc; cases hc; cases ho)).trans hk⟩
theorem SortI.low {sz n₀ T4 T5 B TL TG : Nat} {w0 W : World} {pre : List EvY} (h : SortI sz n₀ T4 T5 B TL TG w0 pre W) (hn : n₀ = w0.heap.size) : n₀ ≤ W.heap.size := by
  obtain ⟨_, _, _, _, _, _, _, _, _, _, _, _, _, _, hb, _⟩ := h
  rw [hn]; exact hb.size
def SortPost (w : World) (on lt : List Ev) (er : Int) (e : Ending) (w' : World) : Prop :=
  ∃ p1 c1 p2 c2 ons lts, e = .returned (.tuple #[.slice p1 ons.length c1, .slice p2 lts.length c2, .int .i64 er]) ∧ EvsIn w' p1 ons ∧ EvsIn w' p2 lts ∧ ons.map evv = on ∧ lts.map evv = lt ∧ Below w.heap.size w w'

/-- append of one event, within a round, onto a list of the call's own: where the list lies behind it. -/
theorem appE_in {F : Fence} {n : Nat} {w : World} {ops : Array Oper} {rest : List Oper} {o : Oper} {a : Act} {Q : Exit → Act → World → Prop} (hg : o.guard = none) (s x : Operand)
    (ho : o.op = .call { callee := .builtin .append, args := #[s, x], argTypes := #[42, 42] })
    (lo : Nat) (v : Value) (l : List EvR) (hs : a.eval s = v) (hown : w.ownsRow lo 55 2 v l.length (flatE l)) (y : EvR) (ad : Addr) (hx : a.eval x = .slice (some ad) 1 1) (hnews : ∀ j u, (cellsE y)[j]? = some u → w.cell? (ad.add j) = some u)
    (hl : l.length ≤ 1000) (hlo : lo ≤ w.heap.size) (H : Nat) (hH : w.heap.size = H)
    (hK : ∀ g cap w', w'.ownsRow lo 55 2 (.slice (some ⟨g, 0, none⟩) (l.length + 1) cap) (l.length + 1) (flatE (l ++ [y])) → w.grownBy w' v.ownBlock → (v.ownBlock = some g ∨ g = H) → wpListIn F n Try.prog ops Q rest (a.put o.dst (.slice (some ⟨g, 0, none⟩) (l.length + 1) cap)) w') :
    wpListIn F n Try.prog ops Q (o :: rest) a w := by
  obtain ⟨i0, hi, hz0, hz1, hz2⟩ := info_parts infoE
  refine wpListIn_plain hg fun K hK' => ?_
  obtain ⟨g, cap, w', hrun, h2, h3, h4, _⟩ := run_append_lies (P := Try.prog) w 42 o.type lo 55 i0 (.agg #[.int .i64 0, .slice none 0 0]) 2 32 Try.underlying42 hi hz0 hz1 hz2 rfl (by decide) v l.length (flatE l) hown ad 1 1 (cellsE y) rfl hnews (by simp [cellsE, rowv, Value.oneCell']) (by omega) (by unfold maxLen; omega) (by omega) hlo H hH
  unfold Oper.wpIn
  refine ⟨by simp [Oper.about, ho, resolve, Target.leads, Sem.run_pure], ?_⟩
  rw [Oper.semAt_plain F _ _ (by rw [ho]; intro c hc'; cases hc')]
  simp [execOp, ho, resolve, invoke, builtin, hs, hx, hrun, Result.andThen]
  exact hK' _ _ (hK g cap w' (by rw [flatE_app]; simpa [flatE] using h2) h3 h4)
/-- One list was appended to, and put back; the other lies as it lay. -/
theorem app_step {n₀ T T' B TL TG : Nat} {W W5 : World} {v v' : Value} {l l' : List EvR} {x : EvR} {tmp : Obj} {g cap : Nat} (kT : Blk W T 42 #[v]) (kT' : Blk W T' 42 #[v']) (hTT : T ≠ T') (o : OwnEv W n₀ v l) (o' : OwnEv W n₀ v' l')
    (hn : NotG B TL TG v) (hr : ∀ r ∈ l, NotG B TL TG (rowv r.2)) (sep : ∀ z, v.ownBlock = some z → v'.ownBlock ≠ some z) (hov : OwnsV W n₀ (rowv x.2) x.2.2.1) (h8 : x.2.2.1.length ≤ 8) (hng : NotG B TL TG (rowv x.2))
    (hown5 : W5.ownsRow n₀ 55 2 (.slice (some ⟨g, 0, none⟩) (l.length + 1) cap) (l.length + 1) (flatE (l ++ [x]))) (hg : (W.alloc tmp).grownBy W5 v.ownBlock) (hlie : v.ownBlock = some g ∨ g = W.heap.size + 1)
    (hnT : n₀ ≤ T) (hnW : n₀ ≤ W.heap.size) (hB : B < W.heap.size) (hL : TL < W.heap.size) (hG : TG < W.heap.size) (hTB : T ≠ B ∧ T ≠ TL ∧ T ≠ TG) :
    Blk (W5.setCell ⟨T, 0, none⟩ (.slice (some ⟨g, 0, none⟩) (l.length + 1) cap)) T 42 #[.slice (some ⟨g, 0, none⟩) (l.length + 1) cap] ∧ Blk (W5.setCell ⟨T, 0, none⟩ (.slice (some ⟨g, 0, none⟩) (l.length + 1) cap)) T' 42 #[v'] ∧
    OwnEv (W5.setCell ⟨T, 0, none⟩ (.slice (some ⟨g, 0, none⟩) (l.length + 1) cap)) n₀ (.slice (some ⟨g, 0, none⟩) (l.length + 1) cap) (l ++ [x]) ∧ OwnEv (W5.setCell ⟨T, 0, none⟩ (.slice (some ⟨g, 0, none⟩) (l.length + 1) cap)) n₀ v' l' ∧
    NotG B TL TG (.slice (some ⟨g, 0, none⟩) (l.length + 1) cap) ∧ (∀ r ∈ l ++ [x], NotG B TL TG (rowv r.2)) ∧ (∀ z, (Value.slice (some ⟨g, 0, none⟩) (l.length + 1) cap).ownBlock = some z → v'.ownBlock ≠ some z) ∧
    KeepsOthers W (W5.setCell ⟨T, 0, none⟩ (.slice (some ⟨g, 0, none⟩) (l.length + 1) cap)) ∧ KeepG n₀ B TL TG W (W5.setCell ⟨T, 0, none⟩ (.slice (some ⟨g, 0, none⟩) (l.length + 1) cap)) ∧ Below n₀ W (W5.setCell ⟨T, 0, none⟩ (.slice (some ⟨g, 0, none⟩) (l.length + 1) cap)) := by
  have k5 : Keep2 W W5 T v.ownBlock := (keep2_of_below (r := v.ownBlock) (below_new W tmp)).trans (keep2_of_grown hg) (fun z e => .inl e)
  have k2 : Keep2 W (W5.setCell ⟨T, 0, none⟩ (.slice (some ⟨g, 0, none⟩) (l.length + 1) cap)) T v.ownBlock := k5.trans (keep2_set W5 T 0 _ none) (fun z e => by cases e)
  have hvT : some T ≠ v.ownBlock := fun e => apart_blk o.1 kT (by decide) T e.symm rfl
  have kT5 : Blk W5 T 42 #[v] := (kT.allocG tmp).keepG hg hvT
  have hrow : ∀ r : EvR, OwnsV W n₀ (rowv r.2) r.2.2.1 → OwnsV (W5.setCell ⟨T, 0, none⟩ (.slice (some ⟨g, 0, none⟩) (l.length + 1) cap)) n₀ (rowv r.2) r.2.2.1 := fun r h => own_keep2 h k2 fun z hz => ⟨apart_blk h kT (by decide) z hz, apart_own h o.1 (by decide) z hz⟩
  have hl : (l ++ [x]).length = l.length + 1 := by simp
  refine ⟨kT5.setG 0 _, kT'.keep2 k2 (fun e => hTT e.symm) (fun e => apart_blk o.1 kT' (by decide) T' e rfl), ⟨?_, fun r hm => ?_⟩, ⟨own_keep2 o'.1 k2 fun z hz => ⟨apart_blk o'.1 kT (by decide) z hz, fun e => sep z e hz⟩, fun r hm => ⟨hrow r (o'.2 r hm).1, (o'.2 r hm).2⟩⟩, ?_, ?_, ?_, ?_, ?_, ?_⟩
  · rw [hl]; exact own_keep2 hown5 (keep2_set W5 T 0 _ none) fun z hz => ⟨apart_blk hown5 kT5 (by decide) z hz, fun e => by cases e⟩
  · rcases List.mem_append.1 hm with h | h
    · exact ⟨hrow r (o.2 r h).1, (o.2 r h).2⟩
    · rw [List.mem_singleton] at h; subst h; exact ⟨hrow _ hov, h8⟩
  · intro z hz
    simp only [Value.ownBlock, Option.some.injEq] at hz
    subst hz
    rcases hlie with h | h
    · exact hn _ h
    · omega
  · intro r hm
    rcases List.mem_append.1 hm with h | h
    · exact hr r h
    · rw [List.mem_singleton] at h; subst h; exact hng
  · intro z hz e
    simp only [Value.ownBlock, Option.some.injEq] at hz
    subst hz
    rcases hlie with h | h
    · exact sep _ h e
    · have := (o'.1.lt g e).2; omega
  · exact ((KeepsOthers.alloc W tmp).trans (keepsO_cells hg fun r e => by
      obtain ⟨cur, hc⟩ := own_type (o.1.alloc tmp) r e
      exact ⟨cur, _, _, hc⟩)).trans (KeepsOthers.setCell _ _ _)
  · refine ⟨k2.size, fun k hk hlt => k2.block k hlt ?_ ?_⟩
    · omega
    · intro e
      have h1 := hn k e
      have h2 := (o.1.lt k e).1
      omega
  · exact k2.toBelow hnW hnT fun k e => (o.1.lt k e).1

theorem OwnEv.set {W : World} {lo T : Nat} {v : Value} {l : List EvR} {cs : Array Value} (h : OwnEv W lo v l) (k : Blk W T 42 cs) (u : Value) : OwnEv (W.setCell ⟨T, 0, none⟩ u) lo v l :=
  ⟨own_keep2 h.1 (keep2_set W T 0 u none) (fun z hz => ⟨apart_blk h.1 k (by decide) z hz, fun e => by cases e⟩), fun r hr => ⟨own_keep2 (h.2 r hr).1 (keep2_set W T 0 u none) (fun z hz => ⟨apart_blk (h.2 r hr).1 k (by decide) z hz, fun e => by cases e⟩), (h.2 r hr).2⟩⟩
theorem own_put {W : World} {lo n size D : Nat} {e : TypeId} {v : Value} {xs : List Value} {o o' : Obj} (h : W.ownsRow lo e size v n xs) (hd : W.heap[D]? = some o) (ho : o.isCells = false) : (W.putObj D o').ownsRow lo e size v n xs := by
  refine h.kept (grownBy_putObj' W D o') ?_
  cases hv : v.ownBlock with
  | none => exact .inl rfl
  | some x =>
    refine .inr fun e1 => ?_
    obtain ⟨cur, hc⟩ := own_type h x hv
    simp only [Option.some.injEq] at e1
    subst e1
    rw [hd] at hc; cases hc; cases ho
theorem OwnEv.put {W : World} {lo D : Nat} {v : Value} {l : List EvR} {o o' : Obj} (h : OwnEv W lo v l) (hd : W.heap[D]? = some o) (ho : o.isCells = false) : OwnEv (W.putObj D o') lo v l :=
  ⟨own_put h.1 hd ho, fun r hr => ⟨own_put (h.2 r hr).1 hd ho, (h.2 r hr).2⟩⟩
theorem reading_any (p : Option Addr) (n cap B : Nat) (w : World) :
    Calls Try.prog 53 #[.pointer (some ⟨B, 0, none⟩), .slice p n cap] w fun e w' => e = .returned (.func (.func 68) #[] #[.pointer (some ⟨w.heap.size + 1, 0, none⟩), .pointer (some ⟨w.heap.size, 0, none⟩)]) ∧ w' = (w.alloc (.cells #[.pointer (some ⟨B, 0, none⟩)] 75)).alloc (.cells #[.slice p n cap] 42) := by
  go_enter Try.func53, Try.ntmps53
  go_wp2
  go_ret
  exact ⟨rfl, rfl⟩

set_option maxRecDepth 100000 in
set_option maxHeartbeats 4000000 in
theorem mkSorted_ok (b : Int) (p : Option Addr) (es : List EvR) (cap : Nat) (hm : es.length ≤ 400) (hb : inR b 0 1000000000 = true) (hA : evsOK es = true) (w : World) (hX : EvsIn w p es) :
    Calls Try.prog 25 #[.int .i64 b, .slice p es.length cap] w (SortPost w (onP (plTo b es es.length)) (lateP (plTo b es es.length)) 0) := by
  refine (callsIn_wide (n := 5)).1 ?_
  have hbB := ((below_new w (.cells #[.slice none 0 0] 42)).alloc (by simp) (.cells #[.slice none 0 0] 42))
  have HA := Lib.hid (areEvents_any p es cap (by omega) _ (hX.belowV hbB))
  rw [show areEv es = true by unfold areEv; rw [hA, decide_eq_true hm]; rfl] at HA
  have HG := Lib.hid fun W => mkGa_ok b hb W
  have HX := Lib.hid hX
  have HBB := Lib.hid hbB
  clear hX hbB
  refine callsIn_of_wp_marks Try.func25 rfl trivial ?_ rfl
  simp only [Try.ntmps25, List.size_toArray, List.length_cons, List.length_nil, Nat.reduceAdd, Nat.reduceSub, Array.replicate_succ, Array.replicate_zero, List.push_toArray, List.append_toArray, List.nil_append, List.cons_append]
  gi_wp2_with fail
  refine ⟨trivial, (callsIn_wide.2 HA.out).mono ?_⟩
  rintro e w1 ⟨rfl, hb1⟩
  have HB1 := Lib.hid (HBB.out.trans (hb1.mono HBB.out.size))
  have HS1 := Lib.hid (show w.heap.size + 2 ≤ w1.heap.size from by have := hb1.size; simp at this; omega)
  have K4 := Lib.hid (show Blk w1 w.heap.size 42 #[.slice none 0 0] from ((Blk.new w _ _).allocG _).belowV hb1 (by simp; omega))
  have K5 := Lib.hid (show Blk w1 (w.heap.size + 1) 42 #[.slice none 0 0] from (Blk.newAt _ _ _ (by simp)).belowV hb1 (by simp))
  clear hb1
  gi_wp2_with fail
  refine ⟨trivial, (callsIn_wide.2 (HG.out _)).mono ?_⟩
  rintro e w2 ⟨B, rfl, hBe, hG2, hb2⟩
  have HB2 := Lib.hid (HB1.out.trans (hb2.mono HB1.out.size))
  have K4 := Lib.hid (K4.out.belowV hb2 K4.out.lt)
  have K5 := Lib.hid (K5.out.belowV hb2 K5.out.lt)
  have HG2 := Lib.hid hG2
  have hBlt : w.heap.size + 1 < B := by have := HS1.out; omega
  clear hb2 hG2 hBe HG HA
  gi_wp2_with fail
  refine ⟨trivial, (callsIn_wide.2 (reading_any p es.length cap B w2)).mono ?_⟩
  rintro e w3 ⟨rfl, rfl⟩
  gi_wp2_with fail
  have hw3 : ((w2.alloc (.cells #[.pointer (some ⟨B, 0, none⟩)] 75)).alloc (.cells #[.slice p es.length cap] 42)).heap.size = w2.heap.size + 2 := by simp
  have hbC := ((below_new w2 (.cells #[.pointer (some ⟨B, 0, none⟩)] 75)).alloc (by simp) (.cells #[.slice p es.length cap] 42))
  have HBC := Lib.hid hbC
  have HB3 := Lib.hid (HB2.out.trans (hbC.mono HB2.out.size))
  have KG := Lib.hid (show ((w2.alloc (.cells #[.pointer (some ⟨B, 0, none⟩)] 75)).alloc (.cells #[.slice p es.length cap] 42)).cell? ⟨w2.heap.size, 0, none⟩ = some (.pointer (some ⟨B, 0, none⟩)) from ((Blk.new w2 _ _).allocG _).cell 0)
  have KL := Lib.hid (show ((w2.alloc (.cells #[.pointer (some ⟨B, 0, none⟩)] 75)).alloc (.cells #[.slice p es.length cap] 42)).cell? ⟨w2.heap.size + 1, 0, none⟩ = some (.slice p es.length cap) from (Blk.newAt _ _ _ (by simp)).cell 0)
  have KB := Lib.hid (show GaP ((w2.alloc (.cells #[.pointer (some ⟨B, 0, none⟩)] 75)).alloc (.cells #[.slice p es.length cap] 42)) B b (-1000000000000) false from HG2.out.belowV hbC HG2.out.lt)
  have K4 := Lib.hid (K4.out.belowV hbC K4.out.lt)
  have K5 := Lib.hid (K5.out.belowV hbC K5.out.lt)
  have hB2 : B < w2.heap.size := HG2.out.lt
  have hw2 : w.heap.size + 2 ≤ w2.heap.size := by have := HS1.out; omega
  clear hbC
  generalize (w2.alloc (.cells #[.pointer (some ⟨B, 0, none⟩)] 75)).alloc (.cells #[.slice p es.length cap] 42) = w3 at *
  refine range_own (F := Fence.wide) B (by omega) rfl (by omega) (gf := 68) (lb := #[.pointer (some ⟨w2.heap.size + 1, 0, none⟩), .pointer (some ⟨w2.heap.size, 0, none⟩)]) rfl trivial (enters_of Try.func68 (by kernel_rfl) rfl)
    (reading_in 4 (by omega) w.heap.size B (w2.heap.size + 1) w2.heap.size b (inR_iff.1 hb) p cap es hm hA w3 (by omega) (by omega) (by omega) (by omega) (by omega) (by omega) KB.out KL.out KG.out ?_ ?_)
    (fun h k => h.trans k) ?_ (fun _ => rfl)
    (SortI w3.heap.size w.heap.size w.heap.size (w.heap.size + 1) B (w2.heap.size + 1) w2.heap.size w)
    (fun s X Y row hs hg hr => hs.aside (by omega) (by omega) (hs.low rfl) hg (fun r e => ⟨by have := (hr r e).1; omega, .inl (hr r e).2⟩))
    (fun s X Y hs hg => hs.aside (by omega) (by omega) (hs.low rfl) hg (fun r e => by cases e; exact ⟨by omega, .inr rfl⟩))
    ⟨_, _, [], [], K4.out, K5.out, ⟨World.ownsRow_nil _ _ _ _, fun r h => by cases h⟩, ⟨World.ownsRow_nil _ _ _ _, fun r h => by cases h⟩, (fun x h => by cases h), (fun x h => by cases h), (fun r h => by cases h), (fun r h => by cases h), rfl, rfl, HB3.out, Nat.le_refl _, (fun x h => by cases h), Nat.le_refl _, Nat.le_refl _⟩
    (fun pre x a' W => ∃ T8, Blk W T8 55 #[.int .i64 x.1, rowv x.2.1] ∧ T8 ≠ B ∧ OwnsV W w.heap.size (rowv x.2.1) x.2.1.2.1 ∧ x.2.1.2.1.length ≤ 8 ∧ NotG B (w2.heap.size + 1) w2.heap.size (rowv x.2.1) ∧ pre.length < es.length ∧ a' = { tmps := #[.int .i64 b, .slice p es.length cap, undef, undef, .pointer (some ⟨w.heap.size, 0, none⟩), .pointer (some ⟨w.heap.size + 1, 0, none⟩), .int .i64 0, .pointer (some ⟨B, 0, none⟩), .pointer (some ⟨T8, 0, none⟩), .bool x.2.2, .slice p es.length cap, .bool true, .bool false, .tuple #[.pointer (some ⟨B, 0, none⟩), .int .i64 0], .int .i64 b, .tuple #[.pointer (some ⟨B, 0, none⟩), .int .i64 0], .pointer (some ⟨B, 0, none⟩), .int .i64 0, .int .i64 0, .bool false, undef, .pointer (some ⟨B, 0, none⟩), .slice p es.length cap, .func (.func 68) #[] #[.pointer (some ⟨w2.heap.size + 1, 0, none⟩), .pointer (some ⟨w2.heap.size, 0, none⟩)], .agg #[.int .i64 x.1, rowv x.2.1], .bool x.2.2, undef, undef, undef, undef, undef, undef, undef, undef, undef, undef, undef], defers := [] })
    ?_ ?assign ?body ?done
  · intro h0
    obtain ⟨bk, off, e, hbk, ha⟩ := HX.out h0
    exact ⟨bk, off, e, hbk, fun i hi => by
      obtain ⟨c0, c1, c2⟩ := ha i hi
      exact ⟨(HB3.out.cell (p := ⟨bk, off + i * 2, none⟩) hbk).trans c0, (HB3.out.cell (p := ⟨bk, off + i * 2 + 1, none⟩) hbk).trans c1, ⟨c2.1.1, c2.1.2.belowV HB3.out⟩, c2.2⟩⟩
  · intro i hi W hk hp
    obtain ⟨bk, off, e, hbk, ha⟩ := HX.out (by omega)
    obtain ⟨_, _, c2⟩ := ha i hi
    obtain ⟨bk2, off2, e2, hl2, hv⟩ := c2.1.2 hp
    have hcell : ∀ j, W.cell? ⟨bk2, j, none⟩ = w.cell? ⟨bk2, j, none⟩ := fun j => by simp only [World.cell?, (hk bk2 hl2).trans (HB3.out.block bk2 hl2)]
    have hsz : bk2 < W.heap.size := by
      have h1 := (hk bk2 hl2).trans (HB3.out.block bk2 hl2)
      have h2 := Array.getElem?_eq_getElem hl2
      rw [h2] at h1
      exact (Array.getElem?_eq_some_iff.1 h1).1
    exact ⟨bk2, off2, e2, hsz, fun j hj => by
      obtain ⟨h1, h2, h3⟩ := hv j hj
      exact ⟨(hcell _).trans h1, (hcell _).trans h2, (hcell _).trans h3⟩⟩
  · intro W l o o' hl ho hc
    refine ⟨by simp, fun k hk hlt => World.putObj_heap_other ?_⟩
    omega
  · intro pre x a' s X Y row hs hg hr
    obtain ⟨T8, k8, h8, ho, hl8, hn8, hlp, e⟩ := hs
    have has : Aside w.heap.size B X row := fun r e => ⟨by have := (hr r e).1; omega, .inl (hr r e).2⟩
    exact ⟨T8, blk_aside k8 h8 hg has, h8, own_aside ho hn8 hg has, hl8, hn8, hlp, e⟩
  case assign =>
    rintro l pre ⟨t, ⟨q, xs, c⟩, lt⟩ W K hI ⟨hlp, hst, hov, h8, hng⟩ hK
    simp only [encE, rowv]
    gi_wp2_with fail
    have hnW := hI.low rfl
    have hBW : B < W.heap.size := by
      obtain ⟨_, _, _, _, _, _, _, _, _, _, _, _, _, _, _, hsz, _⟩ := hI
      omega
    have hbA := below_new W (.cells #[.int .i64 t, .slice q xs.length c] 55)
    exact hK _ _ ((KeepsOthers.alloc _ _).from _) ⟨hbA.size, fun k hk hl => hbA.block k hl⟩ (hI.aside (by omega) (by omega) hnW (grown_of_below hbA) (fun r e => by cases e)) ⟨W.heap.size, Blk.new _ _ _, by omega, owns_below hov hbA, h8, hng, hlp, rfl⟩
  case body =>
    rintro l pre ⟨t, ⟨q, xs, c⟩, lt⟩ a' W hI ⟨T8, k8, h8B, hov, h8, hng, hlp, rfl⟩
    have hnW := hI.low rfl
    obtain ⟨von, vl, ons, lts, k4, k5, o4, o5, n4, n5, r4, r5, m4, m5, hbW, hsz, hsep, hl4, hl5⟩ := hI
    dsimp only [rowv] at k8 hov h8 hng ⊢
    have hpl : pre.length ≤ 400 := by omega
    cases lt with
    | true =>
      have c0 := k5.cell 0
      have x0 := k8.cell 0
      have x1 := k8.cell 1
      simp only [List.getElem?_toArray, List.getElem?_cons_zero, List.getElem?_cons_succ] at c0 x0 x1
      gi_wp2_with (gi_at_builtin; go_loud (refine appE_in rfl _ _ rfl w.heap.size vl lts rfl (o5.1.alloc (.cells #[.int .i64 t, .slice q xs.length c] 55)) (t, q, xs, c) ⟨W.heap.size, 0, none⟩ rfl (cells_new W #[.int .i64 t, .slice q xs.length c] 55) (by omega) (by simp; omega) (W.heap.size + 1) (by simp) ?_; intro g cap' w5 hown hgrow hlie; have hst := app_step (x := ((t, q, xs, c) : EvR)) k5 k4 (by omega) o5 o4 n5 r5 (fun z hz e => hsep z e hz) hov h8 hng hown hgrow hlie (by omega) hnW (by omega) (by omega) (by omega) (by omega); have kz : Blk w5 (w.heap.size + 1) 42 #[vl] := (k5.allocG _).keepG hgrow (fun e => apart_blk o5.1 k5 (by decide) _ e.symm rfl); have z0 := kz.cell 0; have z1 := kz.froz 0; simp only [List.getElem?_toArray, List.getElem?_cons_zero] at z0; have HST := Lib.hid hst; clear hst kz hown hgrow hlie))
      obtain ⟨s1, s2, s3, s4, s5, s6, s7, s8, s9, s10⟩ := HST.out
      exact ⟨s8.from _, s9, von, _, ons, lts ++ [(t, q, xs, c)], s2, s1, s4, s3, n4, s5, r4, s6, by rw [m4, List.map_append]; show _ = onP (_ ++ [strip (t, (q, xs, c), true)]); rw [onP_app]; rfl, by rw [List.map_append, m5, List.map_append]; show _ = lateP (_ ++ [strip (t, (q, xs, c), true)]); rw [lateP_app]; rfl, hbW.trans s10, Nat.le_trans hsz s8.size, (fun z hz e => s7 z e hz), by simp; omega, by simp; omega⟩
    | false =>
      have c0 := k4.cell 0
      have x0 := k8.cell 0
      have x1 := k8.cell 1
      simp only [List.getElem?_toArray, List.getElem?_cons_zero, List.getElem?_cons_succ] at c0 x0 x1
      gi_wp2_with (gi_at_builtin; go_loud (refine appE_in rfl _ _ rfl w.heap.size von ons rfl (o4.1.alloc (.cells #[.int .i64 t, .slice q xs.length c] 55)) (t, q, xs, c) ⟨W.heap.size, 0, none⟩ rfl (cells_new W #[.int .i64 t, .slice q xs.length c] 55) (by omega) (by simp; omega) (W.heap.size + 1) (by simp) ?_; intro g cap' w5 hown hgrow hlie; have hst := app_step (x := ((t, q, xs, c) : EvR)) k4 k5 (by omega) o4 o5 n4 r4 (hsep) hov h8 hng hown hgrow hlie (by omega) hnW (by omega) (by omega) (by omega) (by omega); have kz : Blk w5 w.heap.size 42 #[von] := (k4.allocG _).keepG hgrow (fun e => apart_blk o4.1 k4 (by decide) _ e.symm rfl); have z0 := kz.cell 0; have z1 := kz.froz 0; simp only [List.getElem?_toArray, List.getElem?_cons_zero] at z0; have HST := Lib.hid hst; clear hst kz hown hgrow hlie))
      obtain ⟨s1, s2, s3, s4, s5, s6, s7, s8, s9, s10⟩ := HST.out
      exact ⟨s8.from _, s9, _, vl, ons ++ [(t, q, xs, c)], lts, s1, s2, s3, s4, s5, n5, s6, r5, by rw [List.map_append, m4, List.map_append]; show _ = onP (_ ++ [strip (t, (q, xs, c), false)]); rw [onP_app]; rfl, by rw [m5, List.map_append]; show _ = lateP (_ ++ [strip (t, (q, xs, c), false)]); rw [lateP_app]; rfl, hbW.trans s10, Nat.le_trans hsz s8.size, s7, by simp; omega, by simp; omega⟩
  case done =>
    rintro D ys W hD hS hI hK
    obtain ⟨von, vl, ons, lts, k4, k5, o4, o5, n4, n5, r4, r5, m4, m5, hbW, hsz, hsep, hl4, hl5⟩ := hI
    have c4 := k4.cell 0
    have c5 := k5.cell 0
    have f4 := k4.froz 0
    have f5 := k5.froz 0
    simp only [List.getElem?_toArray, List.getElem?_cons_zero] at c4 c5
    obtain ⟨p4, q4, e4, _⟩ := evsIn_of_own o4
    obtain ⟨p5, q5, e5, _⟩ := evsIn_of_own o5
    subst e4 e5
    have k4a : Blk (W.setCell ⟨w.heap.size, 0, none⟩ (.slice p4 ons.length q4)) w.heap.size 42 #[.slice p4 ons.length q4] := k4.setG 0 _
    have k5a : Blk (W.setCell ⟨w.heap.size, 0, none⟩ (.slice p4 ons.length q4)) (w.heap.size + 1) 42 #[.slice p5 lts.length q5] := k5.setOther (by omega) _
    have k4b : Blk ((W.setCell ⟨w.heap.size, 0, none⟩ (.slice p4 ons.length q4)).setCell ⟨w.heap.size + 1, 0, none⟩ (.slice p5 lts.length q5)).drew w.heap.size 42 #[.slice p4 ons.length q4] := (k4a.setOther (by omega) _).drewG
    have k5b : Blk ((W.setCell ⟨w.heap.size, 0, none⟩ (.slice p4 ons.length q4)).setCell ⟨w.heap.size + 1, 0, none⟩ (.slice p5 lts.length q5)).drew (w.heap.size + 1) 42 #[.slice p5 lts.length q5] := (k5a.setG 0 _).drewG
    have o4b : OwnEv ((W.setCell ⟨w.heap.size, 0, none⟩ (.slice p4 ons.length q4)).setCell ⟨w.heap.size + 1, 0, none⟩ (.slice p5 lts.length q5)).drew w.heap.size (.slice p4 ons.length q4) ons := ((o4.set k4 _).set k5a _).belowV (Below.refl _ _).drew
    have o5b : OwnEv ((W.setCell ⟨w.heap.size, 0, none⟩ (.slice p4 ons.length q4)).setCell ⟨w.heap.size + 1, 0, none⟩ (.slice p5 lts.length q5)).drew w.heap.size (.slice p5 lts.length q5) lts := ((o5.set k4 _).set k5a _).belowV (Below.refl _ _).drew
    have hDb : ((W.setCell ⟨w.heap.size, 0, none⟩ (.slice p4 ons.length q4)).setCell ⟨w.heap.size + 1, 0, none⟩ (.slice p5 lts.length q5)).drew.heap[D]? = some (.deferred (some [])) := (Below.heap_setCell _ _ _ _ (by show D ≠ w.heap.size + 1; omega)).trans ((Below.heap_setCell _ _ _ _ (by show D ≠ w.heap.size; omega)).trans hK)
    have hbB : Below w.heap.size w ((W.setCell ⟨w.heap.size, 0, none⟩ (.slice p4 ons.length q4)).setCell ⟨w.heap.size + 1, 0, none⟩ (.slice p5 lts.length q5)).drew := ((hbW.setCell (p := ⟨w.heap.size, 0, none⟩) (Nat.le_refl _) _).setCell (p := ⟨w.heap.size + 1, 0, none⟩) (by show w.heap.size ≤ w.heap.size + 1; omega) _).drew
    have HF := Lib.hid (And.intro k4b (And.intro k5b (And.intro o4b (And.intro o5b (And.intro hDb hbB)))))
    clear k4a k5a k4b k5b o4b o5b hDb hbB
    gi_wp2_with fail
    gi_region
    gi_wp2
    obtain ⟨k4b, k5b, o4b, o5b, hDb, hbB⟩ := HF.out
    generalize ((W.setCell ⟨w.heap.size, 0, none⟩ (.slice p4 ons.length q4)).setCell ⟨w.heap.size + 1, 0, none⟩ (.slice p5 lts.length q5)).drew = W9 at *
    refine ⟨by simp, .inl ⟨_, _, rfl, run_takeDeferred (b := D) hDb, ?_⟩⟩
    have r4 : (W9.putObj D (.deferred none)).cell? ⟨w.heap.size, 0, none⟩ = some (.slice p4 ons.length q4) := (show Blk (W9.putObj D (.deferred none)) w.heap.size 42 _ from (World.putObj_heap_other (by omega)).trans k4b).cell 0
    have r5 : (W9.putObj D (.deferred none)).cell? ⟨w.heap.size + 1, 0, none⟩ = some (.slice p5 lts.length q5) := (show Blk (W9.putObj D (.deferred none)) (w.heap.size + 1) 42 _ from (World.putObj_heap_other (by omega)).trans k5b).cell 0
    refine ⟨.tuple #[.slice p4 ons.length q4, .slice p5 lts.length q5, .int .i64 0], ?_, ?_⟩
    · simp [results, Try.f25, go_sem, r4, r5]
    · obtain ⟨a4, b4, e4, i4⟩ := evsIn_of_own (o4b.put (o' := .deferred none) hDb rfl)
      obtain ⟨a5, b5, e5, i5⟩ := evsIn_of_own (o5b.put (o' := .deferred none) hDb rfl)
      simp only [Value.slice.injEq, true_and] at e4 e5
      obtain ⟨rfl, rfl⟩ := e4
      obtain ⟨rfl, rfl⟩ := e5
      rw [hS] at m4 m5
      exact ⟨p4, q4, p5, q5, ons, lts, rfl, i4, i5, m4, m5, hbB.grown (grownBy_putObj' W9 D _) hbB.size (fun k e => by cases e; omega)⟩
end Go.Proofs.Ytmnbcofonhlplaa
