/-
  bag's combined: two bags walked together, whatever becomes of the numbers; as a contract.
-/
import Derived.Test.YtledgnolmiecfaaGreatDoorPairs
import Derived.Test.YtledgnolmiecfaaGreatDoorAsBag
import Derived.RangeFuncBox
import Derived.Maps.AppendAt
import Derived.Deep.AppendLies
namespace Go.Proofs.YtledgnolmiecfaaGreatDoor
open Go.RowKit Go.Shelf
set_option linter.unusedSimpArgs false
attribute [local go_sem] Oper.semAt_some

theorem keeps2_b {n₀ B1 B2 : Nat} {w : World} (h0 : n₀ ≤ w.heap.size) (h1 : B1 < w.heap.size) (h2 : B2 < w.heap.size) (W : World) (l : Nat) (o o' : Obj) (hl : w.heap.size ≤ l) (hw : W.heap[l]? = some o) (h4 : o.isCells = false) (h5 : o.isWalk = false) : Keeps2 n₀ B1 B2 W (W.putObj l o') :=
  ⟨belowK_b h0 W l o o' hl hw h4 h5, World.putObj_heap_other (by omega), World.putObj_heap_other (by omega)⟩

theorem pairs_stops (n : Nat) (hn : 1 ≤ n) (B1 B2 n₀ : Nat) (p q : Option Addr) (rs ss : List ItR) (c d : Nat) (hm1 : rs.length ≤ 1000000) (hm2 : ss.length ≤ 1000000) (hc : rs.length ≤ c) (hd : ss.length ≤ d) (w : World)
    (hn₀ : n₀ ≤ w.heap.size) (hB1 : B1 < w.heap.size) (hB2 : B2 < w.heap.size) (hS1 : w.cell? ⟨B1, 0, none⟩ = some (.slice p rs.length c)) (hS2 : w.cell? ⟨B2, 0, none⟩ = some (.slice q ss.length d)) (hX : ItemsLow n₀ w p rs) (hZ : ItemsLow n₀ w q ss) :
    SeqStopsK Fence.wide n Tryz.prog 92 #[.pointer (some ⟨B1, 0, none⟩), .pointer (some ⟨B2, 0, none⟩)] encP (Keeps2 n₀ B1 B2) (fun ys => ys = pairsR rs ss) (fun pre => pre <+: pairsR rs ss) (pairsR rs ss).length w := fun l J Jx W hW hJ _ hY h0 =>
  pairs1_in n hn l B1 B2 n₀ p q rs ss c d hm1 hm2 hc hd J Jx W hJ (Nat.le_trans hn₀ hW.size) (Nat.lt_of_lt_of_le hB1 hW.size) (Nat.lt_of_lt_of_le hB2 hW.size) ((hW.cell (p := ⟨B1, 0, none⟩) hB1).trans hS1) ((hW.cell (p := ⟨B2, 0, none⟩) hB2).trans hS2)
    (fun W' h => hX W' ((hW.mono hn₀).trans h)) (fun W' h => hZ W' ((hW.mono hn₀).trans h)) hY h0

theorem ItemsIn.cells {W W' : World} {p : Option Addr} {rs : List ItR} (h : ItemsIn W p rs) (hc : ∀ a v, W.cell? a = some v → W'.cell? a = some v) (hs : W.heap.size ≤ W'.heap.size) : ItemsIn W' p rs := fun hp => by
  obtain ⟨b, off, e, hl, hr⟩ := h hp
  refine ⟨b, off, e, Nat.lt_of_lt_of_le hl hs, fun i hi => ?_⟩
  obtain ⟨h1, h2, ⟨h3, h4⟩, h5⟩ := hr i hi
  refine ⟨hc _ _ h1, hc _ _ h2, ⟨h3, fun hp2 => ?_⟩, h5⟩
  obtain ⟨b2, off2, e2, hl2, hr2⟩ := h4 hp2
  exact ⟨b2, off2, e2, Nat.lt_of_lt_of_le hl2 hs, fun k hk => ⟨hc _ _ (hr2 k hk).1, hc _ _ (hr2 k hk).2.1, hc _ _ (hr2 k hk).2.2⟩⟩
theorem rowB_of_items {w : World} {p : Option Addr} {rs : List ItR} (h : ItemsIn w p rs) : ∀ z ∈ rs, RowB w.heap.size w z.1 := fun z hz => by
  obtain ⟨i, hi, rfl⟩ := List.getElem_of_mem hz
  obtain ⟨b, off, _, _, hr⟩ := h (by omega)
  have := (hr i hi).2.2
  rw [List.getElem?_eq_getElem hi] at this
  exact RowB.of_ok this.1 this.2
theorem Blk.kept {W W' : World} {row : Option Nat} {B : Nat} {t : TypeId} {cs : Array Value} (h : Blk W B t cs) (hg : W.grownBy W' row) (hne : some B ≠ row) : Blk W' B t cs := (hg.block B h.lt hne).trans h
theorem blk_own {β : Type} (B : Nat) (t : TypeId) (f : β → Array Value) : Own (fun s W => Blk W B t (f s)) := fun s X Y row hs hg hrow =>
  hs.kept hg (fun e' => by obtain ⟨o, ho, hc⟩ := hrow B e'.symm; rw [show X.heap[B]? = _ from hs] at ho; cases ho; cases hc)

/-- What becomes of two numbers. -/
def Becomes (w : World) (gf : Nat) (lb : Array Value) (f : Int → Int → Int) : Prop :=
  (∀ args w, (callFunc gf args).run Tryz.prog w = .ok (.enter gf args) w) ∧ ∀ (x y : Int) (W : World), Below w.heap.size w W → Calls Tryz.prog gf (#[.int .i64 x, .int .i64 y] ++ lb) W fun e w' => e = .returned (.int .i64 (f x y)) ∧ W = w'
def becomeR (f : Int → Int → Int) (p : PrR) : ItR := (p.1, f p.2.1 p.2.2)
theorem becomeR_vals (f : Int → Int → Int) (ys : List PrR) : vals (ys.map (becomeR f)) = (ys.map prv).map (become f) := by
  unfold vals; rw [List.map_map, List.map_map]; rfl
theorem itemsLow_of {w : World} {p : Option Addr} {rs : List ItR} (h : ItemsIn w p rs) {W : World} (hb : Below w.heap.size w W) : ItemsLow w.heap.size W p rs := fun _ h' => h.belowV (hb.trans h')

def combErr (f : Int → Int → Int) (a b : List It) : Int := if validBag a = true ∧ validBag b = true then toldErr (comb f a b) else 1
def combVal (f : Int → Int → Int) (a b : List It) : List It := if validBag a = true ∧ validBag b = true then toldVal (comb f a b) else []

set_option maxRecDepth 100000 in
set_option maxHeartbeats 1000000 in
theorem combined_no (p q : Option Addr) (rs ss : List ItR) (c d : Nat) (hm1 : rs.length ≤ 1000000) (hm2 : ss.length ≤ 1000000) (hc : rs.length ≤ c) (hd : ss.length ≤ d) (gf : Nat) (lb : Array Value) (w : World) (hX : ItemsIn w p rs) (hZ : ItemsIn w q ss)
    (h : validBag (vals rs) = false ∨ validBag (vals ss) = false) :
    Calls Tryz.prog 48 #[.slice p rs.length c, .slice q ss.length d, .func (.func gf) #[] lb] w (BagPost w.heap.size w [] 1) := by
  have hbA : Below w.heap.size w (w.alloc (.cells #[.func (.func gf) #[] lb] 89)) := (Below.refl _ _).alloc (Nat.le_refl _) _
  have h1 := fun W (h : Below w.heap.size w W) => bagValid_any p rs c (by omega) hc W (hX.belowV h)
  have h2 := fun W (h : Below w.heap.size w W) => bagValid_any q ss d (by omega) hd W (hZ.belowV h)
  cases q1 : validBag (vals rs) with
  | false =>
    rw [q1] at h1
    have H1 := Lib.hid h1
    clear h1 h2 h q1 hX hZ
    go_enter Tryz.func48, Tryz.ntmps48
    go_wp2_with fail
    refine (H1.out _ hbA).mono ?_
    rintro e w1 ⟨rfl, hb1⟩
    go_wp2_with fail
    go_ret2
    exact bagPost_nil (hbA.trans (hb1.mono hbA.size))
  | true =>
    rw [q1] at h1
    have q2 : validBag (vals ss) = false := by rcases h with h | h; rw [q1] at h; cases h; exact h
    rw [q2] at h2
    have H1 := Lib.hid h1
    have H2 := Lib.hid h2
    clear h1 h2 h q1 q2 hX hZ
    go_enter Tryz.func48, Tryz.ntmps48
    go_wp2_with fail
    refine (H1.out _ hbA).mono ?_
    rintro e w1 ⟨rfl, hb1⟩
    have hB1 : Below w.heap.size w w1 := hbA.trans (hb1.mono hbA.size)
    clear hb1
    go_wp2_with fail
    refine (H2.out _ hB1).mono ?_
    rintro e w2 ⟨rfl, hb2⟩
    go_wp2_with fail
    go_ret2
    exact bagPost_nil (hB1.trans (hb2.mono hB1.size))

set_option maxRecDepth 100000 in
set_option maxHeartbeats 4000000 in
theorem combined_yes (n : Nat) (hn : 4 ≤ n) (p q : Option Addr) (rs ss : List ItR) (c d : Nat) (hm1 : rs.length ≤ 100000) (hm2 : ss.length ≤ 100000) (hc : rs.length ≤ c) (hd : ss.length ≤ d) (gf : Nat) (lb : Array Value) (f : Int → Int → Int) (w : World) (hX : ItemsIn w p rs) (hZ : ItemsIn w q ss)
    (hf : Becomes w gf lb f) (q1 : validBag (vals rs) = true) (q2 : validBag (vals ss) = true) :
    CallsIn Fence.wide n Tryz.prog 48 #[.slice p rs.length c, .slice q ss.length d, .func (.func gf) #[] lb] w (BagPost w.heap.size w (toldVal (comb f (vals rs) (vals ss))) (toldErr (comb f (vals rs) (vals ss)))) := by
  have hbA : Below w.heap.size w (w.alloc (.cells #[.func (.func gf) #[] lb] 89)) := (Below.refl _ _).alloc (Nat.le_refl _) _
  have h1 := fun W (h : Below w.heap.size w W) => bagValid_any p rs c (by omega) hc W (hX.belowV h)
  have h2 := fun W (h : Below w.heap.size w W) => bagValid_any q ss d (by omega) hd W (hZ.belowV h)
  rw [q1] at h1
  rw [q2] at h2
  have H1 := Lib.hid h1
  have H2 := Lib.hid h2
  have HP := Lib.hid fun W => pairs_any p q rs.length ss.length c d W
  have HXZ := Lib.hid (And.intro hX hZ)
  have HF := Lib.hid hf.2
  have KF := Lib.hid (Blk.new w 89 #[.func (.func gf) #[] lb])
  have eg := Lib.hid hf.1
  obtain ⟨i0, hi, hz0, hz1, hz2⟩ := info_parts infoI
  clear h1 h2 hf hX hZ q1 q2
  refine callsIn_of_wp_marks Tryz.func48 rfl trivial ?_ rfl
  simp only [Tryz.ntmps48, List.size_toArray, List.length_cons, List.length_nil, Nat.reduceAdd, Nat.reduceSub, Array.replicate_succ, Array.replicate_zero, List.push_toArray, List.append_toArray, List.nil_append, List.cons_append]
  refine wpIn_wide.2 ?_
  go_wp2_with fail
  refine (H1.out _ hbA).mono ?_
  rintro e w1 ⟨rfl, hb1⟩
  have hB1 : Below w.heap.size w w1 := hbA.trans (hb1.mono hbA.size)
  have K1 := KF.out.belowV hb1 (by simp)
  have hs1 : w.heap.size + 1 ≤ w1.heap.size := by have := hb1.size; simpa using this
  have HK1 := Lib.hid K1
  clear hb1 K1
  go_wp2_with fail
  refine (H2.out _ hB1).mono ?_
  rintro e w2 ⟨rfl, hb2⟩
  have hB2 : Below w.heap.size w w2 := hB1.trans (hb2.mono hB1.size)
  have K2 := HK1.out.belowV hb2 (by omega)
  have hs2 : w.heap.size + 1 ≤ w2.heap.size := by have := hb2.size; omega
  have HK2 := Lib.hid K2
  clear hb2 K2 hB1 hs1 HK1 hbA KF
  go_wp2_with fail
  refine (HP.out _).mono ?_
  rintro e w3 ⟨rfl, rfl⟩
  go_wp2_with fail
  have hbox : Boxed (((w2.alloc (.cells #[.slice none 0 0] 22)).alloc (.cells #[.slice p rs.length c] 23)).alloc (.cells #[.slice q ss.length d] 23)) w2.heap.size 22 (.slice none 0 0) := ((Boxed.new w2 22 (.slice none 0 0)).alloc _).alloc _
  have hfn : Boxed (((w2.alloc (.cells #[.slice none 0 0] 22)).alloc (.cells #[.slice p rs.length c] 23)).alloc (.cells #[.slice q ss.length d] 23)) w.heap.size 89 (.func (.func gf) #[] lb) := ((show Boxed w2 w.heap.size 89 (.func (.func gf) #[] lb) from HK2.out).alloc _ |>.alloc _ |>.alloc _)
  obtain ⟨bT, _, _, _, hsz0⟩ := three_new w2 #[.slice none 0 0] #[.slice p rs.length c] #[.slice q ss.length d] 22 23 23
  have hS1 : (((w2.alloc (.cells #[.slice none 0 0] 22)).alloc (.cells #[.slice p rs.length c] 23)).alloc (.cells #[.slice q ss.length d] 23)).cell? ⟨w2.heap.size + 1, 0, none⟩ = some (.slice p rs.length c) := (three_new w2 #[.slice none 0 0] #[.slice p rs.length c] #[.slice q ss.length d] 22 23 23).2.2.1.cell 0
  have hS2 : (((w2.alloc (.cells #[.slice none 0 0] 22)).alloc (.cells #[.slice p rs.length c] 23)).alloc (.cells #[.slice q ss.length d] 23)).cell? ⟨w2.heap.size + 1 + 1, 0, none⟩ = some (.slice q ss.length d) := (three_new w2 #[.slice none 0 0] #[.slice p rs.length c] #[.slice q ss.length d] 22 23 23).2.2.2.1.cell 0
  obtain ⟨W0, hW0⟩ : ∃ W0, (((w2.alloc (.cells #[.slice none 0 0] 22)).alloc (.cells #[.slice p rs.length c] 23)).alloc (.cells #[.slice q ss.length d] 23)) = W0 := ⟨_, rfl⟩
  rw [hW0] at hbox hfn bT hsz0 hS1 hS2 ⊢
  clear hW0
  have hB0 : Below w.heap.size w W0 := hB2.trans (bT.mono hB2.size)
  have hlen := pairsR_len rs ss
  have h1 : 1 ≤ n := by omega
  refine (wpIn_wide (n := n)).1 ?_
  refine wpIn_rangeFunc_ownH (F := Fence.wide) rfl h1 (gf := 92) (lb := #[.pointer (some ⟨w2.heap.size + 1, 0, none⟩), .pointer (some ⟨w2.heap.size + 1 + 1, 0, none⟩)]) rfl trivial (enters_of Tryz.func92 (by kernel_rfl) rfl)
    (pairs_stops (n - 1) (by omega) (w2.heap.size + 1) (w2.heap.size + 1 + 1) w.heap.size p q rs ss c d (by omega) (by omega) hc hd W0 hB0.size (by omega) (by omega) hS1 hS2 (itemsLow_of HXZ.out.1 hB0) (itemsLow_of HXZ.out.2 hB0)) Keeps2.trans (keeps2_b hB0.size (by omega) (by omega)) (Below.refl _ _) (fun _ => rfl)
    (fun (pre : List PrR) W => ((∃ v, Boxed W w2.heap.size 22 v ∧ W.ownsRow W0.heap.size 38 2 v pre.length (flatI (pre.map (becomeR f))) ∧ True) ∧ Boxed W w.heap.size 89 (.func (.func gf) #[] lb)) ∧ (Below w.heap.size w W ∧ W0.heap.size ≤ W.heap.size))
    (fun _ _ _ => False)
    (OwnFrom.and (OwnFrom.and (Own.from (holdsRow_own W0.heap.size w2.heap.size 22 38 2 (fun (pre : List PrR) => pre.length) (fun (pre : List PrR) => flatI (pre.map (becomeR f))) (fun _ _ => True)) _) (Own.from (boxed_own _ _ _) _)) (OwnFrom.and (ownFrom_below (Nat.le_refl _) (by omega)) (fun _ _ _ _ hs hg _ => Nat.le_trans hs hg.size)))
    (fun _ _ _ _ _ hs _ _ => hs)
    ⟨⟨⟨_, hbox, World.ownsRow_nil _ _ _ _, trivial⟩, hfn⟩, hB0, Nat.le_refl _⟩
    (fun x a' W => ∃ Bx, W0.heap.size ≤ Bx ∧ Blk W Bx 108 #[rowv x.1, .int .i64 x.2.1, .int .i64 x.2.2] ∧ a' = { tmps := #[.slice p rs.length c, .slice q ss.length d, .func (.func gf) #[] lb, undef, undef, .pointer (some ⟨w.heap.size, 0, none⟩), .slice none 0 0, .int .i64 0, .pointer (some ⟨w2.heap.size, 0, none⟩), .pointer (some ⟨Bx, 0, none⟩), .slice p rs.length c, .bool true, .bool false, .bool false, .slice q ss.length d, .bool true, .bool false, .bool false, .slice p rs.length c, .slice q ss.length d, .func (.func 92) #[] #[.pointer (some ⟨w2.heap.size + 1, 0, none⟩), .pointer (some ⟨w2.heap.size + 1 + 1, 0, none⟩)], .agg #[rowv x.1, .int .i64 x.2.1, .int .i64 x.2.2], undef, undef, undef, undef, undef, undef, undef, undef, undef, undef, undef, undef, undef, undef, undef, undef], defers := [] })
    (fun x a' _ X Y row hs hg hr => by obtain ⟨Bx, h1, h2, h3⟩ := hs; exact ⟨Bx, h1, blk_own Bx 108 (fun (_ : Unit) => #[rowv x.1, .int .i64 x.2.1, .int .i64 x.2.2]) () X Y row h2 hg (fun r e => (hr r e).2), h3⟩)
    ?assign ?body ?done ?stop
  case assign =>
    rintro l pre x W K ⟨⟨⟨v, hv, hrow, _⟩, hFn⟩, hB, hWs⟩ hK
    obtain ⟨⟨xq, xs, xc⟩, xa, xb⟩ := x
    simp only [encP, rowv] at hK ⊢
    have hk2 : Keeps2 w.heap.size (w2.heap.size + 1) (w2.heap.size + 1 + 1) W (W.alloc (.cells #[.slice xq xs.length xc, .int .i64 xa, .int .i64 xb] 108)) := Keeps2.of_below ((Below.refl W.heap.size W).alloc (Nat.le_refl _) _) hB.size (by omega) (by omega)
    gi_wp2_with fail
    exact hK _ _ ((KeepsOthers.alloc _ _).from _) hk2 ⟨⟨⟨v, hv.alloc _, hrow.alloc _, trivial⟩, hFn.alloc _⟩, hB.alloc hB.size _, by simp; omega⟩ ⟨W.heap.size, hWs, Blk.new W _ _, rfl⟩
  case body =>
    rintro l pre x a' W hl ⟨r, hr⟩ ⟨⟨⟨v, hv, hrow, _⟩, hFn⟩, hB, hWs⟩ ⟨Bx, hBx, bX, rfl⟩ hlt
    obtain ⟨⟨xq, xs, xc⟩, xa, xb⟩ := x
    simp only [rowv] at bX ⊢
    have hkD : KeepsOthers W W.drew := KeepsOthers.drew W
    have hk2D : Keeps2 w.heap.size (w2.heap.size + 1) (w2.heap.size + 1 + 1) W W.drew := ⟨(Below.refl _ _).drew, rfl, rfl⟩
    have hBd : Below w.heap.size w W.drew := hB.drew
    have hWsd : W0.heap.size ≤ W.drew.heap.size := hWs
    have hv : Boxed W.drew w2.heap.size 22 v := hv
    have hFn : Boxed W.drew w.heap.size 89 (.func (.func gf) #[] lb) := hFn
    have bX : Blk W.drew Bx 108 #[.slice xq xs.length xc, .int .i64 xa, .int .i64 xb] := bX
    have hrow : W.drew.ownsRow W0.heap.size 38 2 v pre.length (flatI (pre.map (becomeR f))) := hrow
    clear hB hWs hr
    gi_wp2_with fail
    refine region_round_held (S := fun W' => W'.cell? ⟨Bx, 0, none⟩ = some (.slice xq xs.length xc) ∧ W'.cell? ⟨Bx, 1, none⟩ = some (.int .i64 xa) ∧ W'.cell? ⟨Bx, 2, none⟩ = some (.int .i64 xb) ∧ W'.cell? ⟨w.heap.size, 0, none⟩ = some (.func (.func gf) #[] lb)) (by rintro ⟨_, _, h⟩; exact h) (by kernel_rfl) (by kernel_rfl) ⟨bX.cell 0, bX.cell 1, bX.cell 2, hFn.cell⟩ (fun hHeld => ?_)
    generalize W.drew = Wd at *
    have hKc : Wd.cell? ⟨w2.heap.size, 0, none⟩ = some v := hv.cell
    have hbxl := bX.lt
    have HROW := Lib.hid hrow
    have HSA := Lib.hid (show (fun W' : World => W'.cell? ⟨Bx, 0, none⟩ = some (.slice xq xs.length xc) ∧ W'.cell? ⟨Bx, 1, none⟩ = some (.int .i64 xa) ∧ W'.cell? ⟨Bx, 2, none⟩ = some (.int .i64 xb) ∧ W'.cell? ⟨w.heap.size, 0, none⟩ = some (.func (.func gf) #[] lb)) (Wd.alloc (.cells #[.slice xq xs.length xc, .int .i64 (f xa xb)] 38)) from by
      have b2 := bX.belowV ((Below.refl Wd.heap.size Wd).alloc (Nat.le_refl _) (.cells #[.slice xq xs.length xc, .int .i64 (f xa xb)] 38)) hbxl
      exact ⟨b2.cell 0, b2.cell 1, b2.cell 2, (hFn.alloc _).cell⟩)
    have hend := show ∀ (g' cap' : Nat) (w5 : World), w5.ownsRow W0.heap.size 38 2 (.slice (some ⟨g', 0, none⟩) (pre.length + 1) cap') (pre.length + 1) (flatI (pre.map (becomeR f)) ++ cellsI ((xq, xs, xc), f xa xb)) → (Wd.alloc (.cells #[.slice xq xs.length xc, .int .i64 (f xa xb)] 38)).grownBy w5 v.ownBlock →
        (fun W' : World => W'.cell? ⟨Bx, 0, none⟩ = some (.slice xq xs.length xc) ∧ W'.cell? ⟨Bx, 1, none⟩ = some (.int .i64 xa) ∧ W'.cell? ⟨Bx, 2, none⟩ = some (.int .i64 xb) ∧ W'.cell? ⟨w.heap.size, 0, none⟩ = some (.func (.func gf) #[] lb)) w5 ∧
        ((fun W' : World => W'.cell? ⟨Bx, 0, none⟩ = some (.slice xq xs.length xc) ∧ W'.cell? ⟨Bx, 1, none⟩ = some (.int .i64 xa) ∧ W'.cell? ⟨Bx, 2, none⟩ = some (.int .i64 xb) ∧ W'.cell? ⟨w.heap.size, 0, none⟩ = some (.func (.func gf) #[] lb)) (w5.setCell ⟨w2.heap.size, 0, none⟩ (.slice (some ⟨g', 0, none⟩) (pre.length + 1) cap')) ∧
          ownPostG W0.heap.size (Keeps2 w.heap.size (w2.heap.size + 1) (w2.heap.size + 1 + 1)) (fun (pre : List PrR) W => ((∃ v, Boxed W w2.heap.size 22 v ∧ W.ownsRow W0.heap.size 38 2 v pre.length (flatI (pre.map (becomeR f))) ∧ True) ∧ Boxed W w.heap.size 89 (.func (.func gf) #[] lb)) ∧ (Below w.heap.size w W ∧ W0.heap.size ≤ W.heap.size)) (fun _ _ _ => False) (pre ++ [((xq, xs, xc), xa, xb)]) W .normal { tmps := #[], defers := [] } (w5.setCell ⟨w2.heap.size, 0, none⟩ (.slice (some ⟨g', 0, none⟩) (pre.length + 1) cap'))) ∧
        w5.cell? ⟨w2.heap.size, 0, none⟩ = some v ∧ w5.frozen? ⟨w2.heap.size, 0, none⟩ = false from by
      intro g' cap' w5 hown' hgrow
      obtain ⟨hv1, hv2, hr2, hk2, hb2⟩ := hv.appended (by decide) (ownsRow_base hrow hB0.size) (by omega) (by omega) (ownsRow_base hown' hB0.size) hgrow
      have hbW : Below W0.heap.size Wd w5 := ((Below.refl _ Wd).alloc hWsd _).grown hgrow (by simp; omega) (fun k e => (hrow.lt k e).1)
      have bX5 : Blk w5 Bx 108 #[.slice xq xs.length xc, .int .i64 xa, .int .i64 xb] := by
        have b2 := bX.belowV ((Below.refl Wd.heap.size Wd).alloc (Nat.le_refl _) (.cells #[.slice xq xs.length xc, .int .i64 (f xa xb)] 38)) hbxl
        refine (hgrow.block Bx b2.lt (fun e => ?_)).trans b2
        rcases hrow.2 with ⟨rfl, _⟩ | ⟨gb, cb, cur, rfl, _, hgb, _⟩
        · simp [Value.ownBlock] at e
        · simp only [Value.ownBlock, Option.some.injEq] at e
          subst e
          rw [show Wd.heap[Bx]? = _ from bX] at hgb
          simp at hgb
      have hFn5 : Boxed w5 w.heap.size 89 (.func (.func gf) #[] lb) := (hFn.alloc _).kept hgrow (hFn.not_row (by decide) hrow)
      have bX6 : Blk (w5.setCell ⟨w2.heap.size, 0, none⟩ (.slice (some ⟨g', 0, none⟩) (pre.length + 1) cap')) Bx 108 #[.slice xq xs.length xc, .int .i64 xa, .int .i64 xb] := (Below.heap_setCell _ _ _ _ (by show Bx ≠ w2.heap.size; omega)).trans bX5
      have hFn6 := hFn5.other (B' := w2.heap.size) (by omega) (.slice (some ⟨g', 0, none⟩) (pre.length + 1) cap')
      have hrow6 := hown'.kept (grownBy_setCell' w5 w2.heap.size (.slice (some ⟨g', 0, none⟩) (pre.length + 1) cap')) (.inr (hv1.not_row (by decide) hown').symm)
      have hk6 : Keeps2 w.heap.size (w2.heap.size + 1) (w2.heap.size + 1 + 1) Wd (w5.setCell ⟨w2.heap.size, 0, none⟩ (.slice (some ⟨g', 0, none⟩) (pre.length + 1) cap')) :=
        (Keeps2.of_below hbW hB0.size (by omega) (by omega)).trans ⟨(Below.refl _ _).setCell (by show w.heap.size ≤ w2.heap.size; omega) _, Below.heap_setCell _ _ _ _ (by simp), Below.heap_setCell _ _ _ _ (by simp; omega)⟩
      refine ⟨⟨bX5.cell 0, bX5.cell 1, bX5.cell 2, hFn5.cell⟩, ⟨⟨bX6.cell 0, bX6.cell 1, bX6.cell 2, hFn6.cell⟩, (hkD.trans hk2).from _, hk2D.trans hk6, ⟨⟨_, hv2, ?_, trivial⟩, hFn6⟩, hBd.trans hb2, ?_⟩, hv1.cell, hv1.frozen⟩
      · rw [List.map_append, flatI_app, List.length_append]
        exact hrow6
      · have := hbW.size
        simp [World.setCell]
        omega
    have HEND := Lib.hid hend
    clear hend hrow hFn hkD hk2D bX
    refine wpAnyH_take (i := 1) (oi := _) (v := ?_) rfl (by kernel_rfl) (by kernel_rfl) (by kernel_rfl) (fun _ _ _ h => h) (Or.inl ⟨by rfl, ?_⟩) (by assumption) ?_
    rotate_left
    · intro w hSw
      try dsimp only at hSw
      go_simp
      all_goals with_reducible rfl
    simp only [List.getElem_toArray, List.getElem_cons_succ, List.getElem_cons_zero, Act.put, List.setIfInBounds_toArray, List.set_cons_zero, List.set_cons_succ]
    refine wpAnyH_take (i := 2) (oi := _) (v := ?_) rfl (by kernel_rfl) (by kernel_rfl) (by kernel_rfl) (fun _ _ _ h => h) (Or.inl ⟨by rfl, ?_⟩) (by assumption) ?_
    rotate_left
    · intro w hSw
      try dsimp only at hSw
      go_simp
      all_goals with_reducible rfl
    simp only [List.getElem_toArray, List.getElem_cons_succ, List.getElem_cons_zero, Act.put, List.setIfInBounds_toArray, List.set_cons_zero, List.set_cons_succ]
    refine wpAnyH_take (i := 3) (oi := _) (v := ?_) rfl (by kernel_rfl) (by kernel_rfl) (by kernel_rfl) (fun _ _ _ h => h) (Or.inl ⟨by rfl, ?_⟩) (by assumption) ?_
    rotate_left
    · intro w hSw
      try dsimp only at hSw
      go_simp
      all_goals with_reducible rfl
    simp only [List.getElem_toArray, List.getElem_cons_succ, List.getElem_cons_zero, Act.put, List.setIfInBounds_toArray, List.set_cons_zero, List.set_cons_succ]
    refine wpAnyH_take (i := 4) (oi := _) (v := ?_) rfl (by kernel_rfl) (by kernel_rfl) (by kernel_rfl) (fun _ _ _ h => h) (Or.inl ⟨by rfl, ?_⟩) (by assumption) ?_
    rotate_left
    · intro w hSw
      try dsimp only at hSw
      go_simp
      all_goals with_reducible rfl
    simp only [List.getElem_toArray, List.getElem_cons_succ, List.getElem_cons_zero, Act.put, List.setIfInBounds_toArray, List.set_cons_zero, List.set_cons_succ]
    refine wpAnyH_take (i := 5) (oi := _) (v := ?_) rfl (by kernel_rfl) (by kernel_rfl) (by kernel_rfl) (fun _ _ _ h => h) (Or.inl ⟨by rfl, ?_⟩) (by assumption) ?_
    rotate_left
    · intro w hSw
      try dsimp only at hSw
      go_simp
      all_goals with_reducible rfl
    simp only [List.getElem_toArray, List.getElem_cons_succ, List.getElem_cons_zero, Act.put, List.setIfInBounds_toArray, List.set_cons_zero, List.set_cons_succ]
    refine wpAnyH_take (i := 6) (oi := _) (v := ?_) rfl (by kernel_rfl) (by kernel_rfl) (by kernel_rfl) (fun _ _ _ h => h) (Or.inl ⟨by rfl, ?_⟩) (by assumption) ?_
    rotate_left
    · intro w hSw
      try dsimp only at hSw
      go_simp
      all_goals with_reducible rfl
    simp only [List.getElem_toArray, List.getElem_cons_succ, List.getElem_cons_zero, Act.put, List.setIfInBounds_toArray, List.set_cons_zero, List.set_cons_succ]
    refine wpAnyH_take (i := 7) (oi := _) (v := ?_) rfl (by kernel_rfl) (by kernel_rfl) (by kernel_rfl) (fun _ _ _ h => h) (Or.inl ⟨by rfl, ?_⟩) (by assumption) ?_
    rotate_left
    · intro w hSw
      try dsimp only at hSw
      go_simp
      all_goals with_reducible rfl
    simp only [List.getElem_toArray, List.getElem_cons_succ, List.getElem_cons_zero, Act.put, List.setIfInBounds_toArray, List.set_cons_zero, List.set_cons_succ]
    refine wpAnyH_ready (rs := [0, 8]) (by kernel_rfl) (by simp) ?_
    refine AllReadyH.cons (o := _) rfl (fun K hK => ?_) (AllReadyH.cons (o := _) rfl (fun K hK => ?_) AllReadyH.nil)
    · go_simp
      refine hK.out _ _ (by assumption) (fun hHeldL => ?_)
      clear hK K
      try simp only [List.getElem_toArray, List.getElem_cons_succ, List.getElem_cons_zero, Act.put, List.setIfInBounds_toArray, List.set_cons_zero, List.set_cons_succ]
      refine wpAnyH_ready (rs := [8]) (by kernel_rfl) (by simp) ?_
      refine AllReadyH.cons (o := _) rfl (fun K hK => ?_) AllReadyH.nil
      have egx := eg.out
      go_simp
      clear egx
      refine (HF.out _ _ _ hBd).mono ?_
      rintro e w' ⟨rfl, rfl⟩
      refine hK.out _ _ (by assumption) (fun hHeldC => ?_)
      clear hK K
      try simp only [List.getElem_toArray, List.getElem_cons_succ, List.getElem_cons_zero, Act.put, List.setIfInBounds_toArray, List.set_cons_zero, List.set_cons_succ]
      refine wpAnyH_take (i := 9) (oi := _) (v := ?_) rfl (by kernel_rfl) (by kernel_rfl) (by kernel_rfl) (fun _ _ _ h => h) (Or.inl ⟨by rfl, ?_⟩) (by assumption) ?_
      rotate_left
      · intro w hSw
        try dsimp only at hSw
        go_simp
        all_goals with_reducible rfl
      simp only [List.getElem_toArray, List.getElem_cons_succ, List.getElem_cons_zero, Act.put, List.setIfInBounds_toArray, List.set_cons_zero, List.set_cons_succ]
      refine wpAnyH_ready (rs := [10]) (by kernel_rfl) (by simp) ?_
      refine AllReadyH.cons (o := _) rfl (fun K hK => ?_) AllReadyH.nil
      go_simp
      refine hK.out _ _ (HSA.out) (fun hHeldA => ?_)
      clear hK K
      try simp only [List.getElem_toArray, List.getElem_cons_succ, List.getElem_cons_zero, Act.put, List.setIfInBounds_toArray, List.set_cons_zero, List.set_cons_succ]
      refine wpAnyH_ready (rs := [11]) (by kernel_rfl) (by simp) ?_
      refine AllReadyH.cons (o := _) rfl (fun K hK => ?_) AllReadyH.nil
      refine step_append_lies _ rfl _ _ 22 rfl W0.heap.size 38 i0 (.agg #[.slice none 0 0, .int .i64 0]) 2 32 Tryz.underlying22 hi hz0 hz1 hz2 rfl (by decide) _ _ _ rfl (HROW.out.alloc _) ⟨Wd.heap.size, 0, none⟩ 1 1 (cellsI ((xq, xs, xc), f xa xb)) rfl rfl (cells_new _ _ _) (by simp [cellsI, rowv, Value.oneCell']) (by decide) (by unfold maxLen; omega) (by omega) (by simp; omega) (Wd.heap.size + 1) (by simp) ?_
      intro g' cap' w5 hown' hgrow hor hlt5
      have he := HEND.out g' cap' w5 hown' hgrow
      have hc5 := he.2.2.1
      have hf5 := he.2.2.2
      refine hK.out _ _ he.1 (fun hHeldB => ?_)
      clear hK K
      try simp only [List.getElem_toArray, List.getElem_cons_succ, List.getElem_cons_zero, Act.put, List.setIfInBounds_toArray, List.set_cons_zero, List.set_cons_succ]
      refine wpAnyH_ready (rs := [12]) (by kernel_rfl) (by simp) ?_
      refine AllReadyH.cons (o := _) rfl (fun K hK => ?_) AllReadyH.nil
      go_simp
      refine hK.out _ _ he.2.1.1 (fun hHeldE => ?_)
      clear hK K
      try simp only [List.getElem_toArray, List.getElem_cons_succ, List.getElem_cons_zero, Act.put, List.setIfInBounds_toArray, List.set_cons_zero, List.set_cons_succ]
      refine wpAnyH_done (by kernel_rfl) ?_ _
      exact he.2.1.2
    · have egx := eg.out
      go_simp
      clear egx
      refine (HF.out _ _ _ hBd).mono ?_
      rintro e w' ⟨rfl, rfl⟩
      refine hK.out _ _ (by assumption) (fun hHeldC => ?_)
      clear hK K
      try simp only [List.getElem_toArray, List.getElem_cons_succ, List.getElem_cons_zero, Act.put, List.setIfInBounds_toArray, List.set_cons_zero, List.set_cons_succ]
      refine wpAnyH_take (i := 9) (oi := _) (v := ?_) rfl (by kernel_rfl) (by kernel_rfl) (by kernel_rfl) (fun _ _ _ h => h) (Or.inl ⟨by rfl, ?_⟩) (by assumption) ?_
      rotate_left
      · intro w hSw
        try dsimp only at hSw
        go_simp
        all_goals with_reducible rfl
      simp only [List.getElem_toArray, List.getElem_cons_succ, List.getElem_cons_zero, Act.put, List.setIfInBounds_toArray, List.set_cons_zero, List.set_cons_succ]
      refine wpAnyH_ready (rs := [0, 10]) (by kernel_rfl) (by simp) ?_
      refine AllReadyH.cons (o := _) rfl (fun K hK => ?_) (AllReadyH.cons (o := _) rfl (fun K hK => ?_) AllReadyH.nil)
      · go_simp
        refine hK.out _ _ (by assumption) (fun hHeldL => ?_)
        clear hK K
        try simp only [List.getElem_toArray, List.getElem_cons_succ, List.getElem_cons_zero, Act.put, List.setIfInBounds_toArray, List.set_cons_zero, List.set_cons_succ]
        refine wpAnyH_ready (rs := [10]) (by kernel_rfl) (by simp) ?_
        refine AllReadyH.cons (o := _) rfl (fun K hK => ?_) AllReadyH.nil
        go_simp
        refine hK.out _ _ (HSA.out) (fun hHeldA => ?_)
        clear hK K
        try simp only [List.getElem_toArray, List.getElem_cons_succ, List.getElem_cons_zero, Act.put, List.setIfInBounds_toArray, List.set_cons_zero, List.set_cons_succ]
        refine wpAnyH_ready (rs := [11]) (by kernel_rfl) (by simp) ?_
        refine AllReadyH.cons (o := _) rfl (fun K hK => ?_) AllReadyH.nil
        refine step_append_lies _ rfl _ _ 22 rfl W0.heap.size 38 i0 (.agg #[.slice none 0 0, .int .i64 0]) 2 32 Tryz.underlying22 hi hz0 hz1 hz2 rfl (by decide) _ _ _ rfl (HROW.out.alloc _) ⟨Wd.heap.size, 0, none⟩ 1 1 (cellsI ((xq, xs, xc), f xa xb)) rfl rfl (cells_new _ _ _) (by simp [cellsI, rowv, Value.oneCell']) (by decide) (by unfold maxLen; omega) (by omega) (by simp; omega) (Wd.heap.size + 1) (by simp) ?_
        intro g' cap' w5 hown' hgrow hor hlt5
        have he := HEND.out g' cap' w5 hown' hgrow
        have hc5 := he.2.2.1
        have hf5 := he.2.2.2
        refine hK.out _ _ he.1 (fun hHeldB => ?_)
        clear hK K
        try simp only [List.getElem_toArray, List.getElem_cons_succ, List.getElem_cons_zero, Act.put, List.setIfInBounds_toArray, List.set_cons_zero, List.set_cons_succ]
        refine wpAnyH_ready (rs := [12]) (by kernel_rfl) (by simp) ?_
        refine AllReadyH.cons (o := _) rfl (fun K hK => ?_) AllReadyH.nil
        go_simp
        refine hK.out _ _ he.2.1.1 (fun hHeldE => ?_)
        clear hK K
        try simp only [List.getElem_toArray, List.getElem_cons_succ, List.getElem_cons_zero, Act.put, List.setIfInBounds_toArray, List.set_cons_zero, List.set_cons_succ]
        refine wpAnyH_done (by kernel_rfl) ?_ _
        exact he.2.1.2
      · go_simp
        refine hK.out _ _ (HSA.out) (fun hHeldA => ?_)
        clear hK K
        try simp only [List.getElem_toArray, List.getElem_cons_succ, List.getElem_cons_zero, Act.put, List.setIfInBounds_toArray, List.set_cons_zero, List.set_cons_succ]
        refine wpAnyH_ready (rs := [0]) (by kernel_rfl) (by simp) ?_
        refine AllReadyH.cons (o := _) rfl (fun K hK => ?_) AllReadyH.nil
        have hcA : (Wd.alloc (.cells #[.slice xq xs.length xc, .int .i64 (f xa xb)] 38)).cell? ⟨w2.heap.size, 0, none⟩ = some v := (hv.alloc _).cell
        go_simp
        refine hK.out _ _ (by assumption) (fun hHeldL => ?_)
        clear hK K
        try simp only [List.getElem_toArray, List.getElem_cons_succ, List.getElem_cons_zero, Act.put, List.setIfInBounds_toArray, List.set_cons_zero, List.set_cons_succ]
        refine wpAnyH_ready (rs := [11]) (by kernel_rfl) (by simp) ?_
        refine AllReadyH.cons (o := _) rfl (fun K hK => ?_) AllReadyH.nil
        refine step_append_lies _ rfl _ _ 22 rfl W0.heap.size 38 i0 (.agg #[.slice none 0 0, .int .i64 0]) 2 32 Tryz.underlying22 hi hz0 hz1 hz2 rfl (by decide) _ _ _ rfl (HROW.out.alloc _) ⟨Wd.heap.size, 0, none⟩ 1 1 (cellsI ((xq, xs, xc), f xa xb)) rfl rfl (cells_new _ _ _) (by simp [cellsI, rowv, Value.oneCell']) (by decide) (by unfold maxLen; omega) (by omega) (by simp; omega) (Wd.heap.size + 1) (by simp) ?_
        intro g' cap' w5 hown' hgrow hor hlt5
        have he := HEND.out g' cap' w5 hown' hgrow
        have hc5 := he.2.2.1
        have hf5 := he.2.2.2
        refine hK.out _ _ he.1 (fun hHeldB => ?_)
        clear hK K
        try simp only [List.getElem_toArray, List.getElem_cons_succ, List.getElem_cons_zero, Act.put, List.setIfInBounds_toArray, List.set_cons_zero, List.set_cons_succ]
        refine wpAnyH_ready (rs := [12]) (by kernel_rfl) (by simp) ?_
        refine AllReadyH.cons (o := _) rfl (fun K hK => ?_) AllReadyH.nil
        go_simp
        refine hK.out _ _ he.2.1.1 (fun hHeldE => ?_)
        clear hK K
        try simp only [List.getElem_toArray, List.getElem_cons_succ, List.getElem_cons_zero, Act.put, List.setIfInBounds_toArray, List.set_cons_zero, List.set_cons_succ]
        refine wpAnyH_done (by kernel_rfl) ?_ _
        exact he.2.1.2
  case done =>
    rintro D ys W hD rfl ⟨⟨⟨v, hv, hrow, _⟩, hFn⟩, hB, hWs⟩ hK
    have hc := hv.cell
    have hitems : vals ((pairsR rs ss).map (becomeR f)) = mapped f (vals rs) (vals ss) := by rw [becomeR_vals, pairsR_vals]; rfl
    have hrow2 : W.ownsRow w.heap.size 38 2 v ((pairsR rs ss).map (becomeR f)).length (flatI ((pairsR rs ss).map (becomeR f))) := by
      rw [List.length_map]; exact ownsRow_base hrow hB0.size
    have hrows : ∀ r ∈ (pairsR rs ss).map (becomeR f), RowB w.heap.size W r.1 := by
      intro r hr
      obtain ⟨x, hx, rfl⟩ := List.mem_map.1 hr
      refine RowB.below ?_ hB
      rcases pairsR_from rs ss x hx with ⟨z, hz, e⟩ | ⟨z, hz, e⟩
      · show RowB w.heap.size w x.1
        rw [← e]; exact rowB_of_items HXZ.out.1 z hz
      · show RowB w.heap.size w x.1
        rw [← e]; exact rowB_of_items HXZ.out.2 z hz
    have hab := asBag_any w.heap.size v ((pairsR rs ss).map (becomeR f)) (by rw [List.length_map]; omega) W hB.size hrow2 hrows
    rw [hitems] at hab
    have HAB := Lib.hid hab
    clear hab hitems hrow2 hrows hrow
    go_wp2_with fail
    refine HAB.out.mono ?_
    rintro e w9 ⟨⟨p9, ss9, cap9, rfl, hv9, hc9, hl9, hi9, hb9⟩, hk9⟩
    have hK2 := hk9.same D _ hK rfl
    go_wp2_with fail
    refine ⟨by simp, .inl ⟨_, _, rfl, run_takeDeferred hK2, ?_⟩⟩
    have hsz9 : w9.heap.size ≤ (w9.putObj D (.deferred none)).heap.size := (grownBy_putObj' w9 D (.deferred none)).size
    have hi10 : ItemsIn (w9.putObj D (.deferred none)) p9 ss9 := hi9.cells (fun a u h => cell_kept h (grownBy_putObj' _ D (.deferred none)) (fun r e => by cases e; exact ⟨_, hK2, rfl⟩)) hsz9
    have hb10 : Below w.heap.size w (w9.putObj D (.deferred none)) := (hB.trans hb9).trans (belowK_b (w := w) (Nat.le_refl _) _ D _ _ (by have := hB0.size; omega) hK2 rfl rfl)
    refine ⟨.tuple #[.slice p9 ss9.length cap9, .int .i64 (toldErr (nz (mapped f (vals rs) (vals ss))))], ?_, p9, ss9, cap9, rfl, hv9, hc9, hl9, hi10, hb10⟩
    simp [results, Tryz.f48, go_sem]
  case stop =>
    rintro D c pre W _ _ h _
    exact h.elim

theorem combined_any (p q : Option Addr) (rs ss : List ItR) (c d : Nat) (hm1 : rs.length ≤ 100000) (hm2 : ss.length ≤ 100000) (hc : rs.length ≤ c) (hd : ss.length ≤ d) (gf : Nat) (lb : Array Value) (f : Int → Int → Int) (w : World) (hX : ItemsIn w p rs) (hZ : ItemsIn w q ss) (hf : Becomes w gf lb f) :
    Calls Tryz.prog 48 #[.slice p rs.length c, .slice q ss.length d, .func (.func gf) #[] lb] w (BagPost w.heap.size w (combVal f (vals rs) (vals ss)) (combErr f (vals rs) (vals ss))) := by
  unfold combVal combErr
  by_cases h : validBag (vals rs) = true ∧ validBag (vals ss) = true
  · rw [if_pos h, if_pos h]
    exact callsIn_wide.1 (combined_yes 4 (Nat.le_refl _) p q rs ss c d hm1 hm2 hc hd gf lb f w hX hZ hf h.1 h.2)
  · rw [if_neg h, if_neg h]
    refine combined_no p q rs ss c d (by omega) (by omega) hc hd gf lb w hX hZ ?_
    cases e1 : validBag (vals rs) with
    | false => exact .inl rfl
    | true =>
      cases e2 : validBag (vals ss) with
      | false => exact .inr rfl
      | true => exact absurd ⟨e1, e2⟩ h
#print axioms combined_any
end Go.Proofs.YtledgnolmiecfaaGreatDoor
