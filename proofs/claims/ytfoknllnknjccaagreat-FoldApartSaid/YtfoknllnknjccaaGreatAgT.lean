/-
  What aggregates take and tell: isNull, number; count, values.
-/
import Derived.Test.YtfoknllnknjccaaGreatAgM
import Derived.Test.YtfoknllnknjccaaGreatBlkG
import Derived.IntWalk
namespace Go.Proofs.YtfoknllnknjccaaGreat
open Go.RowKit Go.Lib

theorem isNull_any (x : Val) (b : Bool) (hb : nul x = b) (w : World) : Calls Tryz.prog 133 #[valA x] w fun e w' => e = .returned (.bool b) ∧ w' = w.alloc (objV x) := by
  obtain ⟨k, n, s⟩ := x
  unfold nul at hb
  dsimp only [valA, objV] at *
  have hd : (k == 0) = b := by rw [← hb]; rfl
  clear hb
  go_enter Tryz.func133, Tryz.ntmps133
  go_wp2_with fail
  go_ret
  exact ⟨rfl, rfl⟩

def ValPost (w : World) (x : Val) (e : Ending) (w' : World) : Prop := e = .returned (valA x) ∧ Below w.heap.size w w'
theorem below_new (w : World) (o : Obj) : Below w.heap.size w (w.alloc o) := (Below.refl _ _).alloc (Nat.le_refl _) _

set_option maxRecDepth 100000 in
theorem number_any (n : Int) (w : World) : Calls Tryz.prog 135 #[.int .i64 n] w (ValPost w (numV n)) := by
  have h := fun W => rowVV_b 1 n ⟨#[]⟩ W
  unfold numV
  have b1 : Below w.heap.size w (w.alloc (.cells #[.int .i64 0, .int .i64 0, .string ⟨#[]⟩] 55)) := below_new _ _
  have k0 := Blk.new w 55 #[.int .i64 0, .int .i64 0, .string ⟨#[]⟩]
  have k1 := Blk.newAt (w.alloc (.cells #[.int .i64 0, .int .i64 0, .string ⟨#[]⟩] 55)) 55 #[.int .i64 1, .int .i64 n, .string ⟨#[]⟩] (g := w.heap.size + 1) (by simp)
  have k2 := k0.allocG (.cells #[.int .i64 1, .int .i64 n, .string ⟨#[]⟩] 55)
  have b2 := b1.trans ((below_new (w.alloc (.cells #[.int .i64 0, .int .i64 0, .string ⟨#[]⟩] 55)) (.cells #[.int .i64 1, .int .i64 n, .string ⟨#[]⟩] 55)).mono (by simp))
  have HK1 := Lib.hid k1
  have HK2 := Lib.hid k2
  have HB2 := Lib.hid b2
  clear k0 k1 k2 b1 b2
  cases q : validV 1 n ⟨#[]⟩ with
  | true =>
    rw [q] at h
    rw [if_pos rfl]
    have H := Lib.hid h
    clear h q
    go_enter Tryz.func135, Tryz.ntmps135
    go_wp2_with fail
    refine (H.out _).mono ?_
    rintro e w1 ⟨rfl, hb⟩
    have g1 := HK1.out.belowV hb (by simp)
    have g2 := HK2.out.belowV hb (by simp <;> omega)
    have c0 := g1.cell 0
    have c1 := g1.cell 1
    have c2 := g1.cell 2
    have f0 := g2.froz 0
    have f1 := g2.froz 1
    have f2 := g2.froz 2
    have d0 := g2.cell 0
    have d1 := g2.cell 1
    have d2 := g2.cell 2
    simp only [List.getElem?_toArray, List.getElem?_cons_zero, List.getElem?_cons_succ] at c0 c1 c2 d0 d1 d2 f0 f1 f2
    have hb4 : Below w.heap.size w w1 := HB2.out.trans (hb.mono HB2.out.size)
    have hb0 := hb
    clear g1 g2 hb
    go_wp2_with fail
    have kf := (((HK2.out.belowV hb0 (by simp <;> omega)).setG 0 (.int .i64 1)).setG 1 (.int .i64 n)).setG 2 (.string ⟨#[]⟩)
    have r0 := kf.cell 0
    have r1 := kf.cell 1
    have r2 := kf.cell 2
    simp at r0 r1 r2
    refine bodyPost_ret (v := valA (1, n, ⟨#[]⟩)) (by simp [results, Tryz.results135, go_sem, r0, r1, r2, valA]) rfl ⟨rfl, ?_⟩
    exact ((hb4.setCell (by simp) _).setCell (by simp) _).setCell (by simp) _
  | false =>
    rw [q] at h
    rw [if_neg (by decide)]
    have H := Lib.hid h
    clear h q
    go_enter Tryz.func135, Tryz.ntmps135
    go_wp2_with fail
    refine (H.out _).mono ?_
    rintro e w1 ⟨rfl, hb⟩
    have g1 := HK1.out.belowV hb (by simp)
    have g2 := HK2.out.belowV hb (by simp <;> omega)
    have c0 := g1.cell 0
    have c1 := g1.cell 1
    have c2 := g1.cell 2
    have f0 := g2.froz 0
    have f1 := g2.froz 1
    have f2 := g2.froz 2
    have d0 := g2.cell 0
    have d1 := g2.cell 1
    have d2 := g2.cell 2
    simp only [List.getElem?_toArray, List.getElem?_cons_zero, List.getElem?_cons_succ] at c0 c1 c2 d0 d1 d2 f0 f1 f2
    have hb4 : Below w.heap.size w w1 := HB2.out.trans (hb.mono HB2.out.size)
    have hb0 := hb
    clear g1 g2 hb
    go_wp2_with fail
    have kf := (((HK2.out.belowV hb0 (by simp <;> omega)).setG 0 (.int .i64 0)).setG 1 (.int .i64 0)).setG 2 (.string ⟨#[]⟩)
    have r0 := kf.cell 0
    have r1 := kf.cell 1
    have r2 := kf.cell 2
    simp at r0 r1 r2
    refine bodyPost_ret (v := valA (0, 0, ⟨#[]⟩)) (by simp [results, Tryz.results135, go_sem, r0, r1, r2, valA]) rfl ⟨rfl, ?_⟩
    exact ((hb4.setCell (by simp) _).setCell (by simp) _).setCell (by simp) _

set_option maxRecDepth 100000 in
theorem countTake_any (B off : Nat) (t : TypeId) (cs : Array Value) (c : Int) (x : Val) (n : Int) (w : World) (hK : Blk w B t cs) (hc : cs[off]? = some (.int .i64 c)) :
    Calls Tryz.prog 134 #[.pointer (some ⟨B, off, none⟩), valA x, .int .i64 n] w (PutPost w B t (cs.setIfInBounds off (.int .i64 (wrap64 (c + n))))) := by
  have hK1 := hK.allocG (objV x)
  have hc1 := (hK1.cell off).trans hc
  have hf1 := hK1.froz off
  have hP : ∀ w', w' = (w.alloc (objV x)).setCell ⟨B, off, none⟩ (.int .i64 (wrap64 (c + n))) → PutPost w B t (cs.setIfInBounds off (.int .i64 (wrap64 (c + n)))) (.returned (.tuple #[])) w' := fun w' e => by
    subst e
    exact ⟨rfl, ((grew_refl w B).new _).set off _, hK1.setG off _⟩
  have HP := Lib.hid hP
  generalize PutPost w B t (cs.setIfInBounds off (.int .i64 (wrap64 (c + n)))) = Q at HP ⊢
  clear hK hc hK1 hP
  obtain ⟨k, m, s⟩ := x
  dsimp only [valA, objV] at *
  go_enter Tryz.func134, Tryz.ntmps134
  go_wp2_with fail
  refine bodyPost_end (results_none rfl _ _ _) rfl ?_
  refine HP.out _ rfl

set_option maxRecDepth 100000 in
theorem countTell_any (B off : Nat) (t : TypeId) (cs : Array Value) (c : Int) (w : World) (hK : Blk w B t cs) (hc : cs[off]? = some (.int .i64 c)) :
    Calls Tryz.prog 132 #[.pointer (some ⟨B, off, none⟩)] w (ValPost w (numV c)) := by
  have b1 : Below w.heap.size w (w.alloc (.cells #[.int .i64 0, .int .i64 0, .string ⟨#[]⟩] 55)) := below_new _ _
  have hc1 := ((hK.belowV b1 hK.lt).cell off).trans hc
  have H := Lib.hid (number_any c)
  have K0 := Lib.hid (Blk.new w 55 #[.int .i64 0, .int .i64 0, .string ⟨#[]⟩])
  generalize numV c = x at H ⊢
  obtain ⟨x0, x1, x2⟩ := x
  clear hK hc
  go_enter Tryz.func132, Tryz.ntmps132
  go_wp2_with fail
  refine (H.out _).mono ?_
  rintro e w1 ⟨rfl, hb⟩
  have g2 := K0.out.belowV hb (by simp)
  have f0 := g2.froz 0
  have f1 := g2.froz 1
  have f2 := g2.froz 2
  have d0 := g2.cell 0
  have d1 := g2.cell 1
  have d2 := g2.cell 2
  simp only [List.getElem?_toArray, List.getElem?_cons_zero, List.getElem?_cons_succ] at d0 d1 d2
  have hb4 := b1.trans (hb.mono b1.size)
  clear hb b1 hc1
  have G2 := Lib.hid g2
  clear g2
  dsimp only [valA]
  go_wp2_with fail
  have kf := ((G2.out.setG 0 (.int .i64 x0)).setG 1 (.int .i64 x1)).setG 2 (.string x2)
  have r0 := kf.cell 0
  have r1 := kf.cell 1
  have r2 := kf.cell 2
  simp at r0 r1 r2
  refine bodyPost_ret (v := valA (x0, x1, x2)) (by simp [results, Tryz.results132, go_sem, r0, r1, r2, valA]) rfl ⟨rfl, ?_⟩
  exact ((hb4.setCell (by simp) _).setCell (by simp) _).setCell (by simp) _

set_option maxRecDepth 100000 in
theorem valuesTake_any (B : Nat) (t : TypeId) (c : Int) (x : Val) (n : Int) (w : World) (hK : Blk w B t #[.int .i64 c]) :
    Calls Tryz.prog 131 #[.pointer (some ⟨B, 0, none⟩), valA x, .int .i64 n] w (PutPost w B t #[.int .i64 (valStep c (x, n))]) := by
  have hK1 := hK.allocG (objV x)
  have hX := Blk.new w 55 #[.int .i64 x.1, .int .i64 x.2.1, .string x.2.2]
  have K0 := Lib.hid (And.intro hK1 hX)
  unfold valStep
  dsimp only
  have HE := Lib.hid (show ∀ w', Grew w B w' → Blk w' B t #[.int .i64 c] → PutPost w B t #[.int .i64 c] (.returned (.tuple #[])) w' from fun w' h k => ⟨rfl, h, k⟩)
  have HP := Lib.hid (show ∀ w1 e w', Grew w B w1 → PutPost w1 B t (#[Value.int .i64 c].setIfInBounds 0 (.int .i64 (wrap64 (c + n)))) e w' → PutPost w B t #[.int .i64 (wrap64 (c + n))] e w' from fun w1 e w' h k => ⟨k.1, h.andG k.2.1, k.2.2⟩)
  cases q : nul x with
  | true =>
    have HN := Lib.hid (isNull_any x true q)
    rw [if_pos rfl]
    generalize PutPost w B t #[.int .i64 c] = Q at HE ⊢
    have hG := Lib.hid ((((grew_refl w B).new (objV x)).new (objV x)))
    have hK2 := Lib.hid (hK1.allocG (objV x))
    have c0 := hX.cell 0
    have c1 := hX.cell 1
    have c2 := hX.cell 2
    simp only [List.getElem?_toArray, List.getElem?_cons_zero, List.getElem?_cons_succ] at c0 c1 c2
    clear hK hK1 hX q HP
    obtain ⟨x0, x1, x2⟩ := x
    dsimp only [valA, objV] at *
    go_enter Tryz.func131, Tryz.ntmps131
    go_wp2_with fail
    refine (HN.out _).mono ?_
    rintro e w1 ⟨rfl, rfl⟩
    go_wp2_with fail
    refine bodyPost_end (results_none rfl _ _ _) rfl ?_
    exact HE.out _ hG.out hK2.out
  | false =>
    have HN := Lib.hid (isNull_any x false q)
    rw [if_neg (by decide)]
    generalize PutPost w B t #[.int .i64 (wrap64 (c + n))] = Q at HP ⊢
    have hG := Lib.hid ((((grew_refl w B).new (objV x)).new (objV x)).drewG)
    have hK2 := (hK1.allocG (objV x)).drewG
    have HC := Lib.hid (countTake_any B 0 t #[.int .i64 c] c x n _ hK2 rfl)
    have hX2 := hX.allocG (objV x)
    have c0 := hX.cell 0
    have c1 := hX.cell 1
    have c2 := hX.cell 2
    have d0 := hX2.cell 0
    have d1 := hX2.cell 1
    have d2 := hX2.cell 2
    simp only [List.getElem?_toArray, List.getElem?_cons_zero, List.getElem?_cons_succ] at c0 c1 c2 d0 d1 d2
    clear hK hK1 hX q HE hK2 hX2
    obtain ⟨x0, x1, x2⟩ := x
    dsimp only [valA, objV] at *
    go_enter Tryz.func131, Tryz.ntmps131
    go_wp2_with fail
    refine (HN.out _).mono ?_
    rintro e w1 ⟨rfl, rfl⟩
    go_wp2_with fail
    generalize (w.alloc (.cells #[.int .i64 x0, .int .i64 x1, .string x2] 55)).alloc (.cells #[.int .i64 x0, .int .i64 x1, .string x2] 55) = W2 at *
    go_still_tail 5, (by kernel_rfl)
    change wpList _ _ _ _ _ W2.drew
    go_wp2_with fail
    refine HC.out.mono ?_
    rintro e w1 hp
    obtain ⟨rfl, hg, hk⟩ := hp
    have HG := Lib.hid (HP.out _ _ _ hG.out ⟨rfl, hg, hk⟩)
    clear hg hk
    go_wp2_with fail
    refine bodyPost_end (results_none rfl _ _ _) rfl ?_
    exact HG.out
end Go.Proofs.YtfoknllnknjccaaGreat
