/-
  Parse of package bag, as a contract.
-/
import Derived.Test.YtledgnolmiecfaaGreatDoorBi
import Derived.Test.YtledgnolmiecfaaGreatDoorBm
import Derived.Test.YtledgnolmiecfaaGreatDoorOwnI
import Derived.Test.YtledgnolmiecfaaGreatDoorJK
import Derived.OwnWalkIn
import Derived.TacticsInMore
import Derived.RangeFuncLeaves
import Derived.Shelf.Abstract
import Derived.Deep.AppendLies
namespace Go.Proofs.YtledgnolmiecfaaGreatDoor
open Go.RowKit
set_option linter.unusedSimpArgs false
set_option linter.unusedVariables false
attribute [local go_sem] Oper.semAt_some

theorem linesF_any (s : ByteArray) (w : World) :
    Calls Tryz.prog 21 #[.string s] w fun e w' => e = .returned (.func (.func 36) #[] #[.pointer (some ⟨w.heap.size, 0, none⟩)]) ∧ w' = w.alloc (.cells #[.string s] 9) := by
  go_enter Tryz.func21, Tryz.ntmps21
  go_wp2
  go_ret
  exact ⟨rfl, rfl⟩
theorem keepsO_below {W W' : World} (h : Below W.heap.size W W') : KeepsOthers W W' := ⟨h.size, fun k o hk _ => (h.block k (Array.getElem?_eq_some_iff.1 hk).1).trans hk⟩
theorem keepsO_cells {W W' : World} {row : Option Nat} (hg : W.grownBy W' row) (hr : ∀ r, row = some r → ∃ cur t f, W.heap[r]? = some (.cells cur t f)) : KeepsOthers W W' :=
  ⟨hg.size, fun k o hk ho => (hg.block k (Array.getElem?_eq_some_iff.1 hk).1 (fun e => by
    obtain ⟨cur, t, f, hc⟩ := hr k e.symm
    rw [hk] at hc; cases hc; cases ho)).trans hk⟩
/-- The block that a step turns is one of those below n₁, or holds no cells. -/
def AsideN (n₁ : Nat) (W : World) (row : Option Nat) : Prop := ∀ r, row = some r → r < n₁ ∨ ∃ o : Obj, W.heap[r]? = some o ∧ o.isCells = false
theorem own_asideN {W W' : World} {n₁ n size : Nat} {e : TypeId} {v : Value} {xs : List Value} {row : Option Nat} (h : W.ownsRow n₁ e size v n xs) (hg : W.grownBy W' row) (hr : AsideN n₁ W row) : W'.ownsRow n₁ e size v n xs := by
  refine h.kept hg ?_
  cases hv : v.ownBlock with
  | none => exact .inl rfl
  | some x =>
    refine .inr fun e1 => ?_
    obtain ⟨cur, hc⟩ := own_type h x hv
    rcases hr x e1.symm with h2 | ⟨o, ho, hc2⟩
    · have := (h.lt x hv).1; omega
    · rw [ho] at hc; cases hc; cases hc2
theorem OwnItems.asideN {W W' : World} {n₁ : Nat} {v : Value} {rs : List ItR} {row : Option Nat} (h : OwnItems W n₁ v rs) (hg : W.grownBy W' row) (hr : AsideN n₁ W row) : OwnItems W' n₁ v rs := ⟨own_asideN h.1 hg hr, fun r hm => own_asideN (h.2 r hm) hg hr⟩
theorem OwnItems.base {W : World} {n m : Nat} {v : Value} {rs : List ItR} (h : OwnItems W n v rs) (hm : m ≤ n) : OwnItems W m v rs := ⟨ownsRow_base h.1 hm, fun r hr => ownsRow_base (h.2 r hr) hm⟩
/-- What the loop's body keeps. -/
def ParI (n₁ T : Nat) (w0 : World) (pre : List ByteArray) (W : World) : Prop :=
  ∃ (v : Value) (rs : List ItR), Blk W T 23 #[v] ∧ Blk W (T + 1) 3 #[.int .i64 0] ∧ Blk W (T + 1 + 1) 27 #[.int .i64 0] ∧ OwnItems W n₁ v rs ∧ validBag (vals rs) = true ∧ (∀ rest, readsL [] (bytesL pre ++ rest) = readsL (vals rs) rest) ∧ Below w0.heap.size w0 W ∧ n₁ ≤ W.heap.size
/-- What it leaves when it returns. -/
def ParX (n₁ T : Nat) (w0 : World) (pre : List ByteArray) (W : World) : Prop :=
  ∃ k : Nat, Blk W T 23 #[.slice none 0 0] ∧ Blk W (T + 1) 3 #[.int .i64 k] ∧ Blk W (T + 1 + 1) 27 #[.int .i64 2] ∧ (∀ rest, readsL [] (bytesL pre ++ rest) = ([], (k : Int), 2)) ∧ Below w0.heap.size w0 W ∧ n₁ ≤ W.heap.size
def AsideT (n₁ T : Nat) (w0 W : World) (row : Option Nat) : Prop := ∀ r, row = some r → r ≠ T ∧ r ≠ T + 1 ∧ r ≠ T + 1 + 1 ∧ w0.heap.size ≤ r ∧ (r < n₁ ∨ ∃ o : Obj, W.heap[r]? = some o ∧ o.isCells = false)
theorem ParI.aside {n₁ T : Nat} {w0 W W' : World} {pre : List ByteArray} {row : Option Nat} (h : ParI n₁ T w0 pre W) (hg : W.grownBy W' row) (hr : AsideT n₁ T w0 W row) : ParI n₁ T w0 pre W' := by
  obtain ⟨v, rs, k0, k1, k2, o, hv, hq, hb, hs⟩ := h
  exact ⟨v, rs, k0.keepG hg (fun e => (hr T e.symm).1 rfl), k1.keepG hg (fun e => (hr _ e.symm).2.1 rfl), k2.keepG hg (fun e => (hr _ e.symm).2.2.1 rfl), o.asideN hg (fun r e => (hr r e).2.2.2.2), hv, hq, hb.grown hg hb.size (fun k e => (hr k e).2.2.2.1), Nat.le_trans hs hg.size⟩
theorem ParX.aside {n₁ T : Nat} {w0 W W' : World} {pre : List ByteArray} {row : Option Nat} (h : ParX n₁ T w0 pre W) (hg : W.grownBy W' row) (hr : AsideT n₁ T w0 W row) : ParX n₁ T w0 pre W' := by
  obtain ⟨k, k0, k1, k2, hq, hb, hs⟩ := h
  exact ⟨k, k0.keepG hg (fun e => (hr T e.symm).1 rfl), k1.keepG hg (fun e => (hr _ e.symm).2.1 rfl), k2.keepG hg (fun e => (hr _ e.symm).2.2.1 rfl), hq, hb.grown hg hb.size (fun k e => (hr k e).2.2.2.1), Nat.le_trans hs hg.size⟩
/-- append of one item, within a round, onto a list of the call's own: where the list lies behind it. -/
theorem appI_in {F : Fence} {n : Nat} {w : World} {ops : Array Oper} {rest : List Oper} {o : Oper} {a : Act} {Q : Exit → Act → World → Prop} (hg : o.guard = none) (s x : Operand)
    (ho : o.op = .call { callee := .builtin .append, args := #[s, x], argTypes := #[23, 23] })
    (lo : Nat) (v : Value) (l : List ItR) (hs : a.eval s = v) (hown : w.ownsRow lo 38 2 v l.length (flatI l)) (y : ItR) (ad : Addr) (hx : a.eval x = .slice (some ad) 1 1) (hnews : ∀ j u, (cellsI y)[j]? = some u → w.cell? (ad.add j) = some u)
    (hl : l.length ≤ 1000) (hlo : lo ≤ w.heap.size) (H : Nat) (hH : w.heap.size = H)
    (hK : ∀ g cap w', w'.ownsRow lo 38 2 (.slice (some ⟨g, 0, none⟩) (l.length + 1) cap) (l.length + 1) (flatI l ++ cellsI y) → w.grownBy w' v.ownBlock → (v.ownBlock = some g ∨ g = H) → wpListIn F n Tryz.prog ops Q rest (a.put o.dst (.slice (some ⟨g, 0, none⟩) (l.length + 1) cap)) w') :
    wpListIn F n Tryz.prog ops Q (o :: rest) a w := by
  obtain ⟨i0, hi, hz0, hz1, hz2⟩ := info_parts infoI
  refine wpListIn_plain hg fun K hK' => ?_
  obtain ⟨g, cap, w', hrun, h2, h3, h4, _⟩ := run_append_lies (P := Tryz.prog) w 23 o.type lo 38 i0 (.agg #[.slice none 0 0, .int .i64 0]) 2 32 Tryz.underlying23 hi hz0 hz1 hz2 rfl (by decide) v l.length (flatI l) hown ad 1 1 (cellsI y) rfl hnews (by simp [cellsI, rowv, Value.oneCell']) (by omega) (by unfold maxLen; omega) (by omega) hlo H hH
  unfold Oper.wpIn
  refine ⟨by simp [Oper.about, ho, resolve, Target.leads, Sem.run_pure], ?_⟩
  rw [Oper.semAt_plain F _ _ (by rw [ho]; intro c hc'; cases hc')]
  simp [execOp, ho, resolve, invoke, builtin, hs, hx, hrun, Result.andThen]
  exact hK' _ _ (hK g cap w' h2 h3 h4)
/-- The list was appended to, and put back. -/
theorem app_stepI {n₁ T B : Nat} {w0 W V W5 : World} {v : Value} {rs : List ItR} {x : ItR} {pre : List ByteArray} {L : ByteArray} {tmp : Obj} {g cap : Nat}
    (kT : Blk V T 23 #[v]) (k1 : Blk V (T + 1) 3 #[.int .i64 0]) (k2 : Blk V (T + 1 + 1) 27 #[.int .i64 0]) (o : OwnItems V n₁ v rs) (hbV : Below w0.heap.size w0 V) (hWV : Below W.heap.size W V) (hsz : n₁ ≤ W.heap.size) (hT : T + 1 + 1 < n₁) (hw0 : w0.heap.size ≤ T) (hBn : B < n₁) (hBT : B ≠ T)
    (hox : OwnsV V n₁ (rowv x.1) x.1.2.1) (hv : validBag (vals rs) = true) (hf : followsB (vals rs) (itv x) = true) (hq : ∀ rest, readsL [] (bytesL pre ++ rest) = readsL (vals rs) rest) (hL : L.data.toList = lineT (itv x))
    (hown5 : W5.ownsRow n₁ 38 2 (.slice (some ⟨g, 0, none⟩) (rs.length + 1) cap) (rs.length + 1) (flatI rs ++ cellsI x)) (hg : (V.alloc tmp).grownBy W5 v.ownBlock) :
    Blk W5 T 23 #[v] ∧ KeepsOthers W (W5.setCell ⟨T, 0, none⟩ (.slice (some ⟨g, 0, none⟩) (rs.length + 1) cap)) ∧ KeepC B W (W5.setCell ⟨T, 0, none⟩ (.slice (some ⟨g, 0, none⟩) (rs.length + 1) cap)) ∧ ParI n₁ T w0 (pre ++ [L]) (W5.setCell ⟨T, 0, none⟩ (.slice (some ⟨g, 0, none⟩) (rs.length + 1) cap)) := by
  have hvn : ∀ z, v.ownBlock = some z → n₁ ≤ z := fun z e => (o.1.lt z e).1
  have kT5 : Blk W5 T 23 #[v] := (kT.allocG tmp).keepG hg (fun e => by have := hvn _ e.symm; omega)
  have k15 : Blk W5 (T + 1) 3 #[.int .i64 0] := (k1.allocG tmp).keepG hg (fun e => by have := hvn _ e.symm; omega)
  have k25 : Blk W5 (T + 1 + 1) 27 #[.int .i64 0] := (k2.allocG tmp).keepG hg (fun e => by have := hvn _ e.symm; omega)
  have happ := o.appended (x := x) hox hown5 hg
  have hgs := grown_setS W5 T (.slice (some ⟨g, 0, none⟩) (rs.length + 1) cap)
  have hVs := hWV.size
  have h0V := hbV.size
  have hK1 : KeepsOthers V W5 := (KeepsOthers.alloc V tmp).trans (keepsO_cells hg fun r e => by
    obtain ⟨cur, hc⟩ := own_type (o.1.alloc tmp) r e
    exact ⟨cur, _, _, hc⟩)
  have hs5 : V.heap.size ≤ W5.heap.size := hK1.size
  refine ⟨kT5, ((keepsO_below hWV).trans hK1).trans (KeepsOthers.setCell _ _ _), ⟨?_, fun hl => ?_⟩, _, rs ++ [x], kT5.setG 0 _, k15.setOther (by omega) _, k25.setOther (by omega) _, happ.asideN hgs (fun r e => by cases e; exact .inl (by omega)), ?_, fun rest => ?_, ?_, ?_⟩
  · have := hgs.size; omega
  · rw [hgs.block B (by omega) (by simp only [ne_eq, Option.some.injEq]; exact hBT), hg.block B (by simp; omega) (fun e => by have := hvn _ e.symm; omega), Below.heap_alloc _ _ _ (by omega)]
    exact hWV.block B hl
  · rw [show vals (rs ++ [x]) = vals rs ++ [itv x] from vals_app rs [x]]; exact valid_follow hv hf
  · rw [bytesL_snoc, List.append_assoc, hq, hL, show vals (rs ++ [x]) = vals rs ++ [itv x] from vals_app rs [x]]
    exact reads_go rfl hf
  · exact (((hbV.alloc hbV.size tmp).grown hg (by simp; omega) (fun k e => by have := hvn k e; omega))).grown hgs (by omega) (fun k e => by cases e; exact hw0)
  · have := hgs.size; omega
theorem stop_step {n₁ T : Nat} {w0 W V : World} {v : Value} {rs : List ItR} {pre : List ByteArray} {L : ByteArray}
    (kT : Blk V T 23 #[v]) (k1 : Blk V (T + 1) 3 #[.int .i64 0]) (k2 : Blk V (T + 1 + 1) 27 #[.int .i64 0]) (hbV : Below w0.heap.size w0 V) (hWV : Below W.heap.size W V) (hsz : n₁ ≤ W.heap.size) (hw0 : w0.heap.size ≤ T)
    (hq : ∀ rest, readsL [] (bytesL pre ++ rest) = readsL (vals rs) rest) (hL : ∀ x, L.data.toList = lineT x → followsB (vals rs) x = false) :
    KeepsOthers W (((V.setCell ⟨T, 0, none⟩ (.slice none 0 0)).setCell ⟨T + 1, 0, none⟩ (.int .i64 rs.length)).setCell ⟨T + 1 + 1, 0, none⟩ (.int .i64 2)) ∧ ParX n₁ T w0 (pre ++ [L]) (((V.setCell ⟨T, 0, none⟩ (.slice none 0 0)).setCell ⟨T + 1, 0, none⟩ (.int .i64 rs.length)).setCell ⟨T + 1 + 1, 0, none⟩ (.int .i64 2)) := by
  have hVs := hWV.size
  have s1 : ∀ (X : World) (a : Addr) (u : Value), (X.setCell a u).heap.size = X.heap.size := fun X a u => by simp [World.setCell]
  refine ⟨(((keepsO_below hWV).trans (KeepsOthers.setCell _ _ _)).trans (KeepsOthers.setCell _ _ _)).trans (KeepsOthers.setCell _ _ _), rs.length, ((kT.setG 0 _).setOther (by omega) _).setOther (by omega) _, ((k1.setOther (by omega) _).setG 0 _).setOther (by omega) _, ((k2.setOther (by omega) _).setOther (by omega) _).setG 0 _, fun rest => ?_, ?_, ?_⟩
  · rw [bytesL_snoc, List.append_assoc, hq]
    show readsL (vals rs) (L.data.toList :: rest) = _
    rw [reads_stop hL, vals_len]
  · exact ((hbV.setCell (p := ⟨T, 0, none⟩) hw0 _).setCell (p := ⟨T + 1, 0, none⟩) (by show w0.heap.size ≤ T + 1; omega) _).setCell (p := ⟨T + 1 + 1, 0, none⟩) (by show w0.heap.size ≤ T + 1 + 1; omega) _
  · rw [s1, s1, s1]; omega
def BpPost (out : List It × Int × Int) (w : World) (e : Ending) (w' : World) : Prop :=
  ∃ (v : Value) (rs : List ItR), e = .returned (.tuple #[v, .int .i64 out.2.1, .int .i64 out.2.2]) ∧ OwnItems w' w.heap.size v rs ∧ vals rs = out.1 ∧ Below w.heap.size w w'

set_option maxRecDepth 100000 in
set_option maxHeartbeats 4000000 in
theorem bagParse_any (s : ByteArray) (hs : s.size ≤ 65536) (w : World) (hE : Env w.heap.size w) :
    Calls Tryz.prog 8 #[.string s] w (BpPost (readsL [] (linesT s.data.toList)) w) := by
  refine (callsIn_wide (n := 5)).1 ?_
  have h1 : ¬ (65536 : Int) < (s.size : Int) := by omega
  have HE := Lib.hid hE
  clear hE
  refine callsIn_of_wp_marks Tryz.func8 rfl trivial ?_ rfl
  simp only [Tryz.ntmps8, List.size_toArray, List.length_cons, List.length_nil, Nat.reduceAdd, Nat.reduceSub, Array.replicate_succ, Array.replicate_zero, List.push_toArray, List.append_toArray, List.nil_append, List.cons_append]
  gi_wp2_with fail
  have HB1 := Lib.hid ((((Below.refl w.heap.size w).alloc (Nat.le_refl _) (.cells #[.slice none 0 0] 23)).alloc (by simp) (.cells #[.int .i64 0] 3)).alloc (by simp; omega) (.cells #[.int .i64 0] 27))
  have HK0 := Lib.hid (((Blk.new w 23 #[.slice none 0 0]).allocG (.cells #[.int .i64 0] 3)).allocG (.cells #[.int .i64 0] 27))
  have HK1 := Lib.hid ((Blk.newAt (w.alloc (.cells #[.slice none 0 0] 23)) 3 #[.int .i64 0] (g := w.heap.size + 1) (by simp)).allocG (.cells #[.int .i64 0] 27))
  have HK2 := Lib.hid (Blk.newAt ((w.alloc (.cells #[.slice none 0 0] 23)).alloc (.cells #[.int .i64 0] 3)) 27 #[.int .i64 0] (g := w.heap.size + 1 + 1) (by simp))
  have HS1 := Lib.hid (show (((w.alloc (.cells #[.slice none 0 0] 23)).alloc (.cells #[.int .i64 0] 3)).alloc (.cells #[.int .i64 0] 27)).heap.size = w.heap.size + 3 by simp)
  generalize hw1 : ((w.alloc (.cells #[.slice none 0 0] 23)).alloc (.cells #[.int .i64 0] 3)).alloc (.cells #[.int .i64 0] 27) = w1 at HB1 HK0 HK1 HK2 HS1 ⊢
  clear hw1
  refine ⟨trivial, (callsIn_wide.2 (linesF_any s w1)).mono ?_⟩
  rintro e w2 ⟨rfl, hw2⟩
  have hb2 : Below w1.heap.size w1 w2 := by rw [hw2]; exact (Below.refl _ _).alloc (Nat.le_refl _) _
  have hs2 : w2.heap.size = w.heap.size + 4 := by rw [hw2]; simp; exact HS1.out
  have KB := Lib.hid (show Blk w2 (w.heap.size + 3) 9 #[.string s] by rw [hw2]; exact Blk.newAt _ _ _ HS1.out)
  have HK0 := Lib.hid (HK0.out.belowV hb2 HK0.out.lt)
  have HK1 := Lib.hid (HK1.out.belowV hb2 HK1.out.lt)
  have HK2 := Lib.hid (HK2.out.belowV hb2 HK2.out.lt)
  have HB2 := Lib.hid (HB1.out.trans (hb2.mono HB1.out.size))
  rw [HS1.out]
  clear hw2 hb2 HB1
  gi_wp2_with fail
  refine range_ownX (F := Fence.wide) (w.heap.size + 3) (by omega) rfl (by omega) (gf := 36) (lb := #[.pointer (some ⟨w.heap.size + 3, 0, none⟩)]) rfl trivial (enters_of Tryz.func36 (by kernel_rfl) rfl)
    (lines_in 4 (by omega) (w.heap.size + 3) s hs w2 KB.out)
    (fun h k => h.trans k) ?_ (fun _ => rfl)
    (ParI w2.heap.size w.heap.size w) (ParX w2.heap.size w.heap.size w)
    (fun st X Y row hst hg hr => hst.aside hg (fun r e => by have := (hr r e).1; exact ⟨by omega, by omega, by omega, by omega, .inr (hr r e).2⟩))
    (fun st X Y row hst hg hr => hst.aside hg (fun r e => by have := (hr r e).1; exact ⟨by omega, by omega, by omega, by omega, .inr (hr r e).2⟩))
    (fun st X Y hst hg => hst.aside hg (fun r e => by cases e; exact ⟨by omega, by omega, by omega, by omega, .inl (by omega)⟩))
    (fun st X Y hst hg => hst.aside hg (fun r e => by cases e; exact ⟨by omega, by omega, by omega, by omega, .inl (by omega)⟩))
    ⟨_, [], HK0.out, HK1.out, HK2.out, ⟨World.ownsRow_nil _ _ _ _, fun r h => by cases h⟩, validBag_iff.2 ⟨Nat.zero_le _, by simp [vals], .nil⟩, fun rest => rfl, HB2.out, Nat.le_refl _⟩
    (fun pre x a' W => x.size ≤ s.size ∧ a' = { tmps := #[.string s, undef, .pointer (some ⟨w.heap.size, 0, none⟩), .pointer (some ⟨w.heap.size + 1, 0, none⟩), .pointer (some ⟨w.heap.size + 1 + 1, 0, none⟩), .string x, undef, undef, .string s, .int .i64 (s.size : Int), .bool false, .string s, .func (.func 36) #[] #[.pointer (some ⟨w.heap.size + 3, 0, none⟩)], .string x, undef, undef, undef, undef, undef, undef, undef, undef, undef, undef, undef, undef, undef, undef, undef, undef, undef, undef, undef, undef], defers := [] })
    ?_ ?assign ?body ?done ?stop
  · intro W l o o' hl ho hc
    refine ⟨by simp, fun hlt => World.putObj_heap_other ?_⟩
    omega
  · intro pre x a' st X Y row hst hg hr
    exact hst
  case assign =>
    rintro l pre x W K hI hok hK
    simp only [encS]
    gi_wp2_with fail
    exact hK _ _ ((KeepsOthers.refl _).from _) ⟨Nat.le_refl _, fun _ => rfl⟩ hI ⟨hok, rfl⟩
  case body =>
    rintro l pre x a' W hI ⟨hxs, rfl⟩
    obtain ⟨v, rs, k0, k1, k2, o, hv, hq, hbW, hsz⟩ := hI
    have h400 : rs.length ≤ 400 := by have := (validBag_iff.1 hv).1; rwa [vals_len] at this
    have hrow8 : ∀ r ∈ rs, r.1.2.1.length ≤ 9223372036854775807 := fun r hr => by
      have h1 := (validBag_iff.1 hv).2.1 (itv r) (List.mem_map_of_mem hr)
      have h2 := (valid_split (itOK_iff.1 h1).1).1
      dsimp only [itv] at h2
      omega
    obtain ⟨p, cap, rfl⟩ := slice_of_owns o.1
    have HRL := Lib.hid (readLine_any x (by omega) W ((HE.out.on hbW).up hbW.size))
    have HQ := Lib.hid hq
    have HV := Lib.hid hv
    have HO := Lib.hid o
    have HK0' := Lib.hid (And.intro k0 (And.intro k1 (And.intro k2 hbW)))
    clear hq hv o k0 k1 k2 hbW KB HK0 HK1 HK2
    gi_wp2_with fail
    refine ⟨trivial, (calls_round HRL.out).mono ?_⟩
    rintro e W1 ⟨⟨⟨q, xs, qc⟩, n⟩, ok, rfl, kb, h8, o1, hgood, hbad⟩
    dsimp only [rowv, nItem, itv] at h8 o1 hgood hbad ⊢
    have hWV := kb.alloc kb.size (.cells #[.slice q xs.length qc, .int .i64 n] 38)
    have HK := Lib.hid (show Blk (W1.alloc (.cells #[.slice q xs.length qc, .int .i64 n] 38)) w.heap.size 23 #[.slice p rs.length cap] ∧ Blk (W1.alloc (.cells #[.slice q xs.length qc, .int .i64 n] 38)) (w.heap.size + 1) 3 #[.int .i64 0] ∧ Blk (W1.alloc (.cells #[.slice q xs.length qc, .int .i64 n] 38)) (w.heap.size + 1 + 1) 27 #[.int .i64 0] ∧ Below w.heap.size w (W1.alloc (.cells #[.slice q xs.length qc, .int .i64 n] 38)) ∧ Below W.heap.size W (W1.alloc (.cells #[.slice q xs.length qc, .int .i64 n] 38)) from
      ⟨HK0'.out.1.belowV hWV HK0'.out.1.lt, HK0'.out.2.1.belowV hWV HK0'.out.2.1.lt, HK0'.out.2.2.1.belowV hWV HK0'.out.2.2.1.lt, HK0'.out.2.2.2.trans (hWV.mono HK0'.out.2.2.2.size), hWV⟩)
    have HOV := Lib.hid (show OwnItems (W1.alloc (.cells #[.slice q xs.length qc, .int .i64 n] 38)) w2.heap.size (.slice p rs.length cap) rs ∧ OwnsV (W1.alloc (.cells #[.slice q xs.length qc, .int .i64 n] 38)) w2.heap.size (.slice q xs.length qc) xs from ⟨HO.out.below hWV, ownsRow_base (World.ownsRow.alloc o1 (.cells #[.slice q xs.length qc, .int .i64 n] 38)) hsz⟩)
    have HGB := Lib.hid (And.intro hgood (And.intro hbad h8))
    have HKI := Lib.hid (Blk.new W1 38 #[.slice q xs.length qc, .int .i64 n])
    have hs1 : (W1.alloc (.cells #[.slice q xs.length qc, .int .i64 n] 38)).heap.size = W1.heap.size + 1 := by simp
    clear kb hWV o1 hgood hbad h8 HRL HO HK0'
    cases ok with
    | false =>
      have d0 := HK.out.1.cell 0
      have d1 := HK.out.2.1.cell 0
      have d2 := HK.out.2.2.1.cell 0
      have f0 := HK.out.1.froz 0
      have f1 := HK.out.2.1.froz 0
      have f2 := HK.out.2.2.1.froz 0
      simp only [List.getElem?_toArray, List.getElem?_cons_zero] at d0 d1 d2
      have HST := Lib.hid (stop_step (n₁ := w2.heap.size) (T := w.heap.size) (w0 := w) (W := W) (rs := rs) (pre := pre) (L := x) HK.out.1 HK.out.2.1 HK.out.2.2.1 HK.out.2.2.2.1 HK.out.2.2.2.2 hsz (Nat.le_refl _) HQ.out (fun y hy => by
          cases hfy : followsB (vals rs) y with
          | false => rfl
          | true => exact absurd hy (HGB.out.2.1 rfl y (follows_ok hfy))))
      gi_wp2_with fail
      refine ⟨trivial, ?_⟩
      gi_wp2_with fail
      obtain ⟨s1, s2⟩ := HST.out
      exact ⟨s1.from _, s2⟩
    | true =>
      have HF := Lib.hid (follows_any p rs cap (by omega) ((q, xs, qc), n) (W1.alloc (.cells #[.slice q xs.length qc, .int .i64 n] 38)) (HOV.out.1.items rfl hrow8) ⟨by have := HGB.out.2.2; dsimp only; omega, valsIn_of_owns HOV.out.2⟩)
      dsimp only [nItem, rowv, itv] at HF
      have d0 := HK.out.1.cell 0
      have d1 := HK.out.2.1.cell 0
      have d2 := HK.out.2.2.1.cell 0
      have f0 := HK.out.1.froz 0
      have f1 := HK.out.2.1.froz 0
      have f2 := HK.out.2.2.1.froz 0
      simp only [List.getElem?_toArray, List.getElem?_cons_zero] at d0 d1 d2
      have i0 := HKI.out.cell 0
      have i1 := HKI.out.cell 1
      simp only [List.getElem?_toArray, List.getElem?_cons_zero, List.getElem?_cons_succ] at i0 i1
      gi_wp2_with fail
      generalize (W1.alloc (.cells #[.slice q xs.length qc, .int .i64 n] 38)) = V at HK HOV HKI hs1 HF d0 d1 d2 f0 f1 f2 i0 i1 ⊢
      refine ⟨trivial, (calls_round HF.out).mono ?_⟩
      rintro e V2 ⟨rfl, kf⟩
      have HK2 := Lib.hid (show Blk V2 w.heap.size 23 #[.slice p rs.length cap] ∧ Blk V2 (w.heap.size + 1) 3 #[.int .i64 0] ∧ Blk V2 (w.heap.size + 1 + 1) 27 #[.int .i64 0] ∧ Below w.heap.size w V2 ∧ Below W.heap.size W V2 from
        ⟨HK.out.1.belowV kf HK.out.1.lt, HK.out.2.1.belowV kf HK.out.2.1.lt, HK.out.2.2.1.belowV kf HK.out.2.2.1.lt, HK.out.2.2.2.1.trans (kf.mono HK.out.2.2.2.1.size), HK.out.2.2.2.2.trans (kf.mono HK.out.2.2.2.2.size)⟩)
      have HOV2 := Lib.hid (show OwnItems V2 w2.heap.size (.slice p rs.length cap) rs ∧ OwnsV V2 w2.heap.size (.slice q xs.length qc) xs from ⟨HOV.out.1.below kf, owns_below HOV.out.2 kf⟩)
      have HKI2 := Lib.hid (HKI.out.belowV kf (by omega))
      clear kf HK HOV HKI HF d0 d1 d2 f0 f1 f2 i0 i1 hs1
      have HK := HK2
      clear HK2
      have d0 := HK.out.1.cell 0
      have d1 := HK.out.2.1.cell 0
      have d2 := HK.out.2.2.1.cell 0
      have f0 := HK.out.1.froz 0
      have f1 := HK.out.2.1.froz 0
      have f2 := HK.out.2.2.1.froz 0
      simp only [List.getElem?_toArray, List.getElem?_cons_zero] at d0 d1 d2
      cases hfb : followsB (vals rs) (xs, n) with
      | false =>
        have HFB := Lib.hid hfb
        clear hfb
        have HST := Lib.hid (stop_step (n₁ := w2.heap.size) (T := w.heap.size) (w0 := w) (W := W) (rs := rs) (pre := pre) (L := x) HK.out.1 HK.out.2.1 HK.out.2.2.1 HK.out.2.2.2.1 HK.out.2.2.2.2 hsz (Nat.le_refl _) HQ.out (fun y hy => by
            cases hfy : followsB (vals rs) y with
            | false => rfl
            | true =>
              have h1 := follows_ok hfy
              rw [(HGB.out.1 (by first | rfl | trivial)).2 y h1 hy, HFB.out] at hfy
              cases hfy))
        gi_wp2_with fail
        obtain ⟨s1, s2⟩ := HST.out
        exact ⟨s1.from _, s2⟩
      | true =>
        have HFB := Lib.hid hfb
        clear hfb
        have i0 := HKI2.out.cell 0
        have i1 := HKI2.out.cell 1
        simp only [List.getElem?_toArray, List.getElem?_cons_zero, List.getElem?_cons_succ] at i0 i1
        have hV2 := HK.out.2.2.2.2.size
        gi_wp2_with (gi_at_builtin; go_loud (refine appI_in rfl _ _ rfl w2.heap.size (.slice p rs.length cap) rs rfl (HOV2.out.1.1.alloc (.cells #[.slice q xs.length qc, .int .i64 n] 38)) ((q, xs, qc), n) ⟨V2.heap.size, 0, none⟩ rfl (cells_new V2 #[.slice q xs.length qc, .int .i64 n] 38) (by omega) (by simp; omega) (V2.heap.size + 1) (by simp) ?_; intro g cap' w5 hown hgrow hlie; have hst := app_stepI (w0 := w) (W := W) (B := w.heap.size + 3) (pre := pre) (L := x) (x := ((q, xs, qc), n)) HK.out.1 HK.out.2.1 HK.out.2.2.1 HOV2.out.1 HK.out.2.2.2.1 HK.out.2.2.2.2 hsz (by omega) (Nat.le_refl _) (by omega) (by omega) HOV2.out.2 HV.out HFB.out HQ.out (HGB.out.1 (by first | rfl | trivial)).1 hown hgrow; have z0 := hst.1.cell 0; have z1 := hst.1.froz 0; simp only [List.getElem?_toArray, List.getElem?_cons_zero] at z0; have HST := Lib.hid hst; clear hst hown hgrow hlie))
        obtain ⟨s1, s2, s3, s4⟩ := HST.out
        exact ⟨s2.from _, s3, s4⟩
  case done =>
    rintro D xs W hD hS hI hK
    obtain ⟨v, rs, k0, k1, k2, o, hv, hq, hbW, hsz⟩ := hI
    have hout : readsL [] (linesT s.data.toList) = (vals rs, 0, 0) := by
      have := hq []
      rw [List.append_nil, hS] at this
      exact this
    have HOUT := Lib.hid hout
    obtain ⟨p, cap, rfl⟩ := slice_of_owns o.1
    clear hq hv hS hout HK0 HK1 HK2 KB
    have hT : ∀ c, c < w2.heap.size → c ≠ D := fun c hc e => by omega
    have HF := Lib.hid (show Blk (((W.setCell ⟨w.heap.size, 0, none⟩ (.slice p rs.length cap)).setCell ⟨w.heap.size + 1, 0, none⟩ (.int .i64 0)).setCell ⟨w.heap.size + 1 + 1, 0, none⟩ (.int .i64 0)) w.heap.size 23 #[.slice p rs.length cap] ∧ Blk (((W.setCell ⟨w.heap.size, 0, none⟩ (.slice p rs.length cap)).setCell ⟨w.heap.size + 1, 0, none⟩ (.int .i64 0)).setCell ⟨w.heap.size + 1 + 1, 0, none⟩ (.int .i64 0)) (w.heap.size + 1) 3 #[.int .i64 0] ∧ Blk (((W.setCell ⟨w.heap.size, 0, none⟩ (.slice p rs.length cap)).setCell ⟨w.heap.size + 1, 0, none⟩ (.int .i64 0)).setCell ⟨w.heap.size + 1 + 1, 0, none⟩ (.int .i64 0)) (w.heap.size + 1 + 1) 27 #[.int .i64 0] ∧ OwnItems (((W.setCell ⟨w.heap.size, 0, none⟩ (.slice p rs.length cap)).setCell ⟨w.heap.size + 1, 0, none⟩ (.int .i64 0)).setCell ⟨w.heap.size + 1 + 1, 0, none⟩ (.int .i64 0)) w2.heap.size (.slice p rs.length cap) rs ∧ (((W.setCell ⟨w.heap.size, 0, none⟩ (.slice p rs.length cap)).setCell ⟨w.heap.size + 1, 0, none⟩ (.int .i64 0)).setCell ⟨w.heap.size + 1 + 1, 0, none⟩ (.int .i64 0)).heap[D]? = some (.deferred (some [])) ∧ Below w.heap.size w (((W.setCell ⟨w.heap.size, 0, none⟩ (.slice p rs.length cap)).setCell ⟨w.heap.size + 1, 0, none⟩ (.int .i64 0)).setCell ⟨w.heap.size + 1 + 1, 0, none⟩ (.int .i64 0)) from
      ⟨((k0.setG 0 _).setOther (by omega) _).setOther (by omega) _, ((k1.setOther (by omega) _).setG 0 _).setOther (by omega) _, ((k2.setOther (by omega) _).setOther (by omega) _).setG 0 _,
        (((o.asideN (grown_setS W _ _) (fun r e => by cases e; exact .inl (by omega))).asideN (grown_setS _ _ _) (fun r e => by cases e; exact .inl (by omega))).asideN (grown_setS _ _ _) (fun r e => by cases e; exact .inl (by omega))),
        (Below.heap_setCell _ _ _ _ (by show D ≠ w.heap.size + 1 + 1; omega)).trans ((Below.heap_setCell _ _ _ _ (by show D ≠ w.heap.size + 1; omega)).trans ((Below.heap_setCell _ _ _ _ (by show D ≠ w.heap.size; omega)).trans hK)),
        ((hbW.setCell (p := ⟨w.heap.size, 0, none⟩) (Nat.le_refl _) _).setCell (p := ⟨w.heap.size + 1, 0, none⟩) (by show w.heap.size ≤ w.heap.size + 1; omega) _).setCell (p := ⟨w.heap.size + 1 + 1, 0, none⟩) (by show w.heap.size ≤ w.heap.size + 1 + 1; omega) _⟩)
    have d0 := k0.cell 0
    have d1 := k1.cell 0
    have d2 := k2.cell 0
    have f0 := k0.froz 0
    have f1 := k1.froz 0
    have f2 := k2.froz 0
    simp only [List.getElem?_toArray, List.getElem?_cons_zero] at d0 d1 d2
    clear k0 k1 k2 o hbW hK
    gi_wp2_with fail
    obtain ⟨k0, k1, k2, o, hDb, hbB⟩ := HF.out
    generalize (((W.setCell ⟨w.heap.size, 0, none⟩ (.slice p rs.length cap)).setCell ⟨w.heap.size + 1, 0, none⟩ (.int .i64 0)).setCell ⟨w.heap.size + 1 + 1, 0, none⟩ (.int .i64 0)) = W9 at *
    refine ⟨by simp, .inl ⟨_, _, rfl, run_takeDeferred (b := D) hDb, ?_⟩⟩
    have r0 : (W9.putObj D (.deferred none)).cell? ⟨w.heap.size, 0, none⟩ = some (.slice p rs.length cap) := (show Blk (W9.putObj D (.deferred none)) w.heap.size 23 _ from (World.putObj_heap_other (by omega)).trans k0).cell 0
    have r1 : (W9.putObj D (.deferred none)).cell? ⟨w.heap.size + 1, 0, none⟩ = some (.int .i64 0) := (show Blk (W9.putObj D (.deferred none)) (w.heap.size + 1) 3 _ from (World.putObj_heap_other (by omega)).trans k1).cell 0
    have r2 : (W9.putObj D (.deferred none)).cell? ⟨w.heap.size + 1 + 1, 0, none⟩ = some (.int .i64 0) := (show Blk (W9.putObj D (.deferred none)) (w.heap.size + 1 + 1) 27 _ from (World.putObj_heap_other (by omega)).trans k2).cell 0
    refine ⟨.tuple #[.slice p rs.length cap, .int .i64 0, .int .i64 0], ?_, ?_⟩
    · simp [results, Tryz.f8, go_sem, r0, r1, r2]
    · exact ⟨_, rs, by rw [HOUT.out], (o.asideN (grownBy_putObj' W9 D _) (fun r e => by cases e; exact .inr ⟨_, hDb, rfl⟩)).base (by omega), by rw [HOUT.out], hbB.grown (grownBy_putObj' W9 D _) hbB.size (fun k e => by cases e; omega)⟩
  case stop =>
    rintro D xs W hD ⟨rest, hS⟩ hX hK
    obtain ⟨k, k0, k1, k2, hq, hbW, hsz⟩ := hX
    have hout : readsL [] (linesT s.data.toList) = ([], (k : Int), 2) := by rw [← hS]; exact hq rest
    have HOUT := Lib.hid hout
    clear hq hS hout HK0 HK1 HK2 KB
    gi_wp2_with fail
    refine ⟨by simp, .inl ⟨_, _, rfl, run_takeDeferred (b := D) hK, ?_⟩⟩
    have r0 : (W.putObj D (.deferred none)).cell? ⟨w.heap.size, 0, none⟩ = some (.slice none 0 0) := (show Blk (W.putObj D (.deferred none)) w.heap.size 23 _ from (World.putObj_heap_other (by omega)).trans k0).cell 0
    have r1 : (W.putObj D (.deferred none)).cell? ⟨w.heap.size + 1, 0, none⟩ = some (.int .i64 k) := (show Blk (W.putObj D (.deferred none)) (w.heap.size + 1) 3 _ from (World.putObj_heap_other (by omega)).trans k1).cell 0
    have r2 : (W.putObj D (.deferred none)).cell? ⟨w.heap.size + 1 + 1, 0, none⟩ = some (.int .i64 2) := (show Blk (W.putObj D (.deferred none)) (w.heap.size + 1 + 1) 27 _ from (World.putObj_heap_other (by omega)).trans k2).cell 0
    refine ⟨.tuple #[.slice none 0 0, .int .i64 k, .int .i64 2], ?_, ?_⟩
    · simp [results, Tryz.f8, go_sem, r0, r1, r2]
    · exact ⟨_, [], by rw [HOUT.out], OwnItems.nil _ _, by rw [HOUT.out]; rfl, hbW.grown (grownBy_putObj' W D _) hbW.size (fun k e => by cases e; omega)⟩

end Go.Proofs.YtledgnolmiecfaaGreatDoor
