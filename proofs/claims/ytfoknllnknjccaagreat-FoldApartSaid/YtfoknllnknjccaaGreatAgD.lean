/-
  How many different values, as an aggregate takes and tells them: a map of one's own, keyed by values.
-/
import Derived.Test.YtfoknllnknjccaaGreatAgT
import Derived.Maps.OwnSet
import Derived.StringKeys
import Derived.WalkArith
import Derived.DeepKeys4
import Derived.MapViews
namespace Go.Proofs.YtfoknllnknjccaaGreat
open Go.RowKit Go.Lib

theorem laidV : laidOutB Tryz.prog = true := by kernel_rfl
theorem rowV1 : (55 : TypeId) < Tryz.prog.types.size := of_decide_eq_true (by kernel_rfl)
theorem cellsOfV : Tryz.prog.cellsOf 55 = 3 := by kernel_rfl
theorem cellsOfI : Tryz.prog.cellsOf 3 = 1 := by kernel_rfl
theorem cellsOfS : Tryz.prog.cellsOf 9 = 1 := by kernel_rfl
theorem deepV : Tryz.prog.keyTypeAt (Tryz.prog.types.size + 1) 55 = true := by kernel_rfl
theorem wideV : (match Tryz.prog.underlying 55 with | some (.array _ _) | some (.struct _) => true | _ => false) = true := by rw [Tryz.underlying55]
set_option maxRecDepth 100000 in
theorem lawV : WideMaps.KeyLaw Tryz.prog 55 := deep_law_laid laidV (m := 2) (by omega) rowV1 (by kernel_rfl) wideV
theorem keyedV : Maps.Keyed Tryz.prog 55 := Maps.Keyed.of_law lawV
theorem mapTV : Tryz.prog.underlying 138 = some (.map 55 4) := by kernel_rfl
def keyV (x : Val) : Lit := .string (keyBytes [.int .i64 x.1, .int .i64 x.2.1, .string x.2.2.data.toList])
theorem wf_i64 {n : Int} (h1 : -9223372036854775808 ≤ n) (h2 : n ≤ 9223372036854775807) : (Lit.int .i64 n).wf = true := by
  simp [Lit.wf]
  exact ⟨h1, h2⟩
theorem keyOf_val {x : Val} (h : validV x.1 x.2.1 x.2.2 = true) : keyOf Tryz.prog 55 (valA x) = some (keyV x) := by
  obtain ⟨k, n, s⟩ := x
  unfold validV validP at h
  have h' := of_decide_eq_true h
  dsimp only at h'
  have e1 : s.toList.isEmpty = true → s.size = 0 := fun e => by
    have := Lib.toList_data s
    rw [this] at e
    have := List.isEmpty_iff.1 e
    have h2 : s.data.toList.length = 0 := by rw [this]; rfl
    exact h2
  have w1 : (Lit.int .i64 k).wf = true := by
    rcases h' with h | h | h <;> exact wf_i64 (by omega) (by omega)
  have w2 : (Lit.int .i64 n).wf = true := by
    rcases h' with h | h | h <;> exact wf_i64 (by omega) (by omega)
  have hs : s.size ≤ maxLen := by
    unfold maxLen
    rcases h' with h | h | h
    · have := e1 h.2.2; omega
    · have := e1 h.2.1; omega
    · omega
  clear h h' e1
  have hm : ∃ m, Tryz.prog.types.size = m + 1 := Nat.exists_eq_add_one.2 (Nat.lt_of_le_of_lt (Nat.zero_le _) rowV1)
  obtain ⟨m, hm⟩ := hm
  have hkt : Tryz.prog.keyType 55 = true := deepV
  unfold keyOf
  simp only [Tryz.underlying55]
  rw [if_pos (by simp [hkt, Value.formed, Tryz.underlying55, cellsOfV, valA]), hm]
  unfold Program.keyLits
  simp only [Tryz.underlying55, Value.cells, valA]
  rw [if_pos (by rw [cellsOfV]; simp)]
  simp [cellsOfI, cellsOfS, Program.keyLits, Tryz.underlying3, Tryz.underlying9, w1, w2, hs, keyV]
theorem valA_inj {x y : Val} (h : valA x = valA y) : x = y := by
  obtain ⟨a, b, c⟩ := x
  obtain ⟨d, e, f⟩ := y
  unfold valA at h
  simp at h
  obtain ⟨rfl, rfl, rfl⟩ := h
  rfl
theorem keyV_inj {x y : Val} (hx : validV x.1 x.2.1 x.2.2 = true) (hy : validV y.1 y.2.1 y.2.2 = true) (h : keyV x = keyV y) : x = y :=
  valA_inj (lawV.inj (keyOf_val hx) (h ▸ keyOf_val hy))
theorem sameV_iff {x y : Val} : sameV x y = true ↔ x = y := by
  obtain ⟨a, b, c⟩ := x
  obtain ⟨d, e, f⟩ := y
  unfold sameV
  simp only [Bool.and_eq_true, decide_eq_true_eq, beq_iff_eq, Prod.mk.injEq]
  constructor
  · rintro ⟨rfl, rfl, h⟩
    exact ⟨rfl, rfl, Go.WideShapes.bytes_inj h⟩
  · rintro ⟨rfl, rfl, rfl⟩
    exact ⟨rfl, rfl, rfl⟩
/-- The map has just these values. -/
structure DisOf (l : List Val) (D : DataW Unit) : Prop where
  ok : ∀ x ∈ l, validV x.1 x.2.1 x.2.2 = true
  has : ∀ x : Val, validV x.1 x.2.1 x.2.2 = true → (Maps.has D (keyV x) = true ↔ x ∈ l)
  size : Maps.size D = l.length
theorem DisOf.zero : DisOf [] (.map []) := ⟨by simp, fun x _ => by simp [Maps.has], rfl⟩
theorem DisOf.step {l : List Val} {D : DataW Unit} (h : DisOf l D) (ht : Maps.Tidy D) (hm : Maps.IsMap D) {x : Val} (n : Int) (hx : validV x.1 x.2.1 x.2.2 = true) (hn : nul x = false) (d : DataW Unit) :
    DisOf (seenStep l (x, n)) (D.put (keyV x) d) := by
  unfold seenStep
  have hk : WideAt.IsKeyLit (keyV x) := trivial
  by_cases e : x ∈ l
  · have ha : l.any (sameV x) = true := List.any_eq_true.2 ⟨x, e, sameV_iff.2 rfl⟩
    rw [if_pos (.inr ha)]
    refine ⟨h.ok, fun y hy => ?_, ?_⟩
    · by_cases ey : y = x
      · subst ey
        exact ⟨fun _ => e, fun _ => Maps.has_put_same hm hk _⟩
      · rw [Maps.has_put_other (fun q => ey (keyV_inj hy hx q))]
        exact h.has y hy
    · rw [Maps.size_put ht, (h.has x hx).2 e, if_pos rfl, h.size]
  · have ha : l.any (sameV x) = false := by
      rw [List.any_eq_false]
      intro y hy q
      rw [sameV_iff] at q
      subst q
      exact e hy
    rw [if_neg (by rw [ha, hn]; simp)]
    have hno : Maps.has D (keyV x) = false := by
      cases q : Maps.has D (keyV x)
      · rfl
      · exact absurd ((h.has x hx).1 q) e
    refine ⟨fun y hy => ?_, fun y hy => ?_, ?_⟩
    · rcases List.mem_append.1 hy with hy | hy
      · exact h.ok y hy
      · rw [List.mem_singleton] at hy; subst hy; exact hx
    · by_cases ey : y = x
      · subst ey
        exact ⟨fun _ => by simp, fun _ => Maps.has_put_same hm hk _⟩
      · rw [Maps.has_put_other (fun q => ey (keyV_inj hy hx q)), h.has y hy]
        simp [ey]
    · rw [Maps.size_put ht, hno, if_neg (by decide), h.size, List.length_append]; rfl
abbrev OwnsD (W : World) (b n : Nat) (D : DataW Unit) : Prop := W.ownsMap Tryz.prog 55 (plainElem Tryz.prog 4) b n D
/-- The aggregator's map. -/
def DisAt (W : World) (B : Nat) (n : Nat) (l : List Val) : Prop := ∃ D, OwnsD W B n D ∧ DisOf l D
def DisPost (w : World) (B n : Nat) (l : List Val) (e : Ending) (w' : World) : Prop := e = .returned (.tuple #[]) ∧ Grew w B w' ∧ DisAt w' B n l

set_option maxRecDepth 100000 in
set_option maxHeartbeats 1000000 in
theorem disTake_any (B k : Nat) (l : List Val) (x : Val) (n : Int) (w : World) (hK : DisAt w B k l) (hx : validV x.1 x.2.1 x.2.2 = true) (hk : k < maxLen) :
    Calls Tryz.prog 142 #[.map (some B), valA x, .int .i64 n] w (DisPost w B (k + 1) (seenStep l (x, n))) := by
  obtain ⟨D, hown, hD⟩ := hK
  have hne : w.heap.size ≠ B := by have := hown.lt; omega
  have hX := Blk.new w 55 #[.int .i64 x.1, .int .i64 x.2.1, .string x.2.2]
  have hX2 := hX.allocG (objV x)
  have c0 := hX.cell 0
  have c1 := hX.cell 1
  have c2 := hX.cell 2
  have d0 := hX2.cell 0
  have d1 := hX2.cell 1
  have d2 := hX2.cell 2
  simp only [List.getElem?_toArray, List.getElem?_cons_zero, List.getElem?_cons_succ] at c0 c1 c2 d0 d1 d2
  have hown2 := (hown.alloc (objV x)).alloc (objV x)
  have hG := Lib.hid (((grew_refl w B).new (objV x)).new (objV x))
  clear hX hX2
  cases q : nul x with
  | true =>
    have HN := Lib.hid (isNull_any x true q)
    have HE := Lib.hid (show DisPost w B (k + 1) (seenStep l (x, n)) (.returned (.tuple #[])) ((w.alloc (objV x)).alloc (objV x)) from ⟨rfl, hG.out, D, hown2.mono (Nat.le_succ k), by unfold seenStep; rw [if_pos (.inl q)]; exact hD⟩)
    generalize DisPost w B (k + 1) (seenStep l (x, n)) = Q at HE ⊢
    clear hown hown2 hD q hx
    obtain ⟨x0, x1, x2⟩ := x
    dsimp only [valA, objV] at *
    go_enter Tryz.func142, Tryz.ntmps142
    go_wp2_with fail
    refine (HN.out _).mono ?_
    rintro e w1 ⟨rfl, rfl⟩
    go_wp2_with fail
    refine bodyPost_end (results_none rfl _ _ _) rfl ?_
    exact HE.out
  | false =>
    have HN := Lib.hid (isNull_any x false q)
    have hkey := keyOf_val hx
    have HS := Lib.hid (hD.step (hown.tidy keyedV) hown.isMap n hx q (.lit (.bool true)))
    have hval : plainElem (H := Unit) Tryz.prog 4 (.bool true) = some (.lit (.bool true), []) := plainElem_bool Tryz.underlying4 true
    have HE := Lib.hid (show ∀ w', OwnsD w' B (k + 1) (D.put (keyV x) (.lit (.bool true))) → ((w.alloc (objV x)).alloc (objV x)).grownBy w' (some B) → DisPost w B (k + 1) (seenStep l (x, n)) (.returned (.tuple #[])) w' from fun w' h1 h2 => ⟨rfl, hG.out.andG h2, _, h1, HS.out⟩)
    generalize DisPost w B (k + 1) (seenStep l (x, n)) = Q at HE ⊢
    clear hown hD q hx HS
    generalize keyV x = kl at *
    obtain ⟨x0, x1, x2⟩ := x
    dsimp only [valA, objV] at *
    go_enter Tryz.func142, Tryz.ntmps142
    go_wp2_with fail
    refine (HN.out _).mono ?_
    rintro e w1 ⟨rfl, rfl⟩
    go_wp2_with (at_mapUpdate; refine wpList_mapUpdate_own _ rfl _ _ _ 138 rfl 55 4 keyedV mapTV _ B k D rfl hown2 hk _ _ kl rfl rfl hkey _ [] hval ?_; intro w1 hown1 hgrow1)
    refine bodyPost_end (results_none rfl _ _ _) rfl ?_
    exact HE.out _ hown1 hgrow1

set_option maxRecDepth 100000 in
set_option maxHeartbeats 1000000 in
theorem disTell_any (B k : Nat) (l : List Val) (w : World) (hK : DisAt w B k l) :
    Calls Tryz.prog 143 #[.map (some B)] w (ValPost w (numV l.length)) := by
  obtain ⟨D, hown, hD⟩ := hK
  have b1 : Below w.heap.size w (w.alloc (.cells #[.int .i64 0, .int .i64 0, .string ⟨#[]⟩] 55)) := below_new _ _
  have hown1 := hown.alloc (.cells #[.int .i64 0, .int .i64 0, .string ⟨#[]⟩] 55)
  have H := Lib.hid (number_any (Maps.size D))
  have K0 := Lib.hid (Blk.new w 55 #[.int .i64 0, .int .i64 0, .string ⟨#[]⟩])
  rw [← hD.size]
  generalize numV (Maps.size D : Nat) = x at H ⊢
  obtain ⟨x0, x1, x2⟩ := x
  clear hown hD
  go_enter Tryz.func143, Tryz.ntmps143
  go_wp2_with (at_len; refine wpList_len_own _ rfl _ 138 rfl 55 4 mapTV _ B k D rfl hown1 ?_)
  refine (H.out _).mono ?_
  rintro e w1 ⟨rfl, hb⟩
  have g2 := K0.out.belowV hb (by simp)
  have f0 := g2.froz 0
  have f1 := g2.froz 1
  have f2 := g2.froz 2
  have d0 := g2.cell 0
  have d1 := g2.cell 1
  have d2 := g2.cell 2
  simp only [List.getElem?_toArray, List.getElem?_cons_zero, List.getElem?_cons_succ] at d0 d1 d2
  have hb4 := b1.trans (hb.mono b1.size)
  clear hb b1 hown1
  have G2 := Lib.hid g2
  clear g2
  dsimp only [valA]
  go_wp2_with fail
  have kf := ((G2.out.setG 0 (.int .i64 x0)).setG 1 (.int .i64 x1)).setG 2 (.string x2)
  have r0 := kf.cell 0
  have r1 := kf.cell 1
  have r2 := kf.cell 2
  simp at r0 r1 r2
  refine bodyPost_ret (v := valA (x0, x1, x2)) (by simp [results, Tryz.results143, go_sem, r0, r1, r2, valA]) rfl ⟨rfl, ?_⟩
  exact ((hb4.setCell (by simp) _).setCell (by simp) _).setCell (by simp) _
end Go.Proofs.YtfoknllnknjccaaGreat
