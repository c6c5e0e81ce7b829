/-
  Lists of aggregates; the value that one takes of a row; what calls through the interface come to.
-/
import Derived.Test.YtfoknllnknjccaaGreatAgB
import Derived.Test.YtfoknllnknjccaaGreatBasA
namespace Go.Proofs.YtfoknllnknjccaaGreat
open Go.RowKit Go.Lib

/-- An aggregate: its kind and its column. -/
abbrev Ag := Int × Int
abbrev ag0 : Ag := (0, 0)
def AggsAt (W : World) (b off : Nat) (gs : List Ag) : Prop := ∀ i, i < gs.length → W.cell? ⟨b, off + i * 2, none⟩ = some (.int .i64 (gs[i]?.getD ag0).1) ∧ W.cell? ⟨b, off + i * 2 + 1, none⟩ = some (.int .i64 (gs[i]?.getD ag0).2)
theorem AggsAt.belowV {n₀ b off : Nat} {W W' : World} {gs : List Ag} (h : AggsAt W b off gs) (hb : Below n₀ W W') (hbk : b < n₀) : AggsAt W' b off gs := fun i hi =>
  ⟨(hb.cell (p := ⟨b, off + i * 2, none⟩) hbk).trans (h i hi).1, (hb.cell (p := ⟨b, off + i * 2 + 1, none⟩) hbk).trans (h i hi).2⟩
def AggsIn (W : World) (p : Option Addr) (gs : List Ag) : Prop := 0 < gs.length → ∃ b off, p = some ⟨b, off, none⟩ ∧ b < W.heap.size ∧ AggsAt W b off gs
theorem AggsIn.belowV {p : Option Addr} {W W' : World} {gs : List Ag} (h : AggsIn W p gs) (hb : Below W.heap.size W W') : AggsIn W' p gs := fun hp => by
  obtain ⟨b, off, e, hl, hr⟩ := h hp
  exact ⟨b, off, e, Nat.lt_of_lt_of_le hl hb.size, hr.belowV hb hl⟩

def valOf (xs : List Val) (a : Ag) : Val := if a.1 = 1 then v0 else xs[a.2.toNat]?.getD v0
set_option maxRecDepth 100000 in
set_option maxHeartbeats 1000000 in
theorem valueOf_any (q : Option Addr) (xs : List Val) (qc : Nat) (a : Ag) (hm : xs.length ≤ 9223372036854775807) (w : World) (hX : ValsIn w q xs) (ha : a.1 = 1 ∨ (0 ≤ a.2 ∧ a.2 < xs.length)) :
    Calls Tryz.prog 75 #[.slice q xs.length qc, .agg #[.int .i64 a.1, .int .i64 a.2]] w (ValPost w (valOf xs a)) := by
  obtain ⟨k, c⟩ := a
  unfold valOf
  dsimp only at *
  have b1 : Below w.heap.size w (w.alloc (.cells #[.int .i64 k, .int .i64 c] 59)) := below_new _ _
  have b2 : Below w.heap.size w ((w.alloc (.cells #[.int .i64 k, .int .i64 c] 59)).alloc (.cells #[.int .i64 0, .int .i64 0, .string ⟨#[]⟩] 55)) := b1.alloc b1.size _
  have k1 := Blk.new w 59 #[.int .i64 k, .int .i64 c]
  have k2 := k1.allocG (.cells #[.int .i64 0, .int .i64 0, .string ⟨#[]⟩] 55)
  have g2 := Blk.newAt (w.alloc (.cells #[.int .i64 k, .int .i64 c] 59)) 55 #[.int .i64 0, .int .i64 0, .string ⟨#[]⟩] (g := w.heap.size + 1) (by simp)
  have c0 := k2.cell 0
  have c1 := k2.cell 1
  have f0 := g2.froz 0
  have f1 := g2.froz 1
  have f2 := g2.froz 2
  have d0 := g2.cell 0
  have d1 := g2.cell 1
  have d2 := g2.cell 2
  simp only [List.getElem?_toArray, List.getElem?_cons_zero, List.getElem?_cons_succ] at c0 c1 d0 d1 d2
  have HX := Lib.hid (hX.belowV b2)
  have G2 := Lib.hid g2
  have HB := Lib.hid b2
  have HZ : ∀ (x : Val) (W : World), Blk W (w.heap.size + 1) 55 #[.int .i64 0, .int .i64 0, .string ⟨#[]⟩] → Blk (((W.setCell ⟨w.heap.size + 1, 0, none⟩ (.int .i64 x.1)).setCell ⟨w.heap.size + 1, 1, none⟩ (.int .i64 x.2.1)).setCell ⟨w.heap.size + 1, 2, none⟩ (.string x.2.2)) (w.heap.size + 1) 55 #[.int .i64 x.1, .int .i64 x.2.1, .string x.2.2] := fun x W h => by
    simpa using ((h.setG 0 (.int .i64 x.1)).setG 1 (.int .i64 x.2.1)).setG 2 (.string x.2.2)
  have HSET := Lib.hid HZ
  clear b1 b2 k1 k2 g2 hX HZ
  by_cases h1 : k = 1
  · rw [if_pos h1]
    have e1 : (k == 1) = true := by rw [beq_iff_eq]; exact h1
    clear h1 ha
    go_enter Tryz.func75, Tryz.ntmps75
    generalize hW : (w.alloc (.cells #[.int .i64 k, .int .i64 c] 59)).alloc (.cells #[.int .i64 0, .int .i64 0, .string ⟨#[]⟩] 55) = W2 at *
    go_wp2_with fail
    have kf := HSET.out (0, 0, ⟨#[]⟩) W2 G2.out
    have r0 := kf.cell 0
    have r1 := kf.cell 1
    have r2 := kf.cell 2
    simp only [List.getElem?_toArray, List.getElem?_cons_zero, List.getElem?_cons_succ] at r0 r1 r2
    refine bodyPost_ret (v := valA (0, 0, ⟨#[]⟩)) (by simp [results, Tryz.results75, go_sem, r0, r1, r2, valA]) rfl ⟨rfl, ?_⟩
    exact ((HB.out.setCell (p := ⟨w.heap.size + 1, 0, none⟩) (by simp) _).setCell (p := ⟨w.heap.size + 1, 1, none⟩) (by simp) _).setCell (p := ⟨w.heap.size + 1, 2, none⟩) (by simp) _
  · rw [if_neg h1]
    have e1 : (k == 1) = false := by rw [beq_eq_false_iff_ne]; exact h1
    have hc : 0 ≤ c ∧ c < xs.length := by rcases ha with h | h; exact absurd h h1; exact h
    obtain ⟨m, rfl⟩ : ∃ m : Nat, c = (m : Int) := Int.eq_ofNat_of_zero_le hc.1
    obtain ⟨hm0, hm1⟩ := hc
    rw [Int.toNat_natCast]
    have hmx : m < xs.length := by omega
    obtain ⟨b, off, rfl, hbl, hra⟩ := HX.out (by omega)
    obtain ⟨x0', x1', x2'⟩ := hra m hmx
    clear hra
    generalize xs[m]?.getD v0 = x at *
    obtain ⟨x0, x1, x2⟩ := x
    dsimp only at x0' x1' x2'
    clear h1 ha
    go_enter Tryz.func75, Tryz.ntmps75
    generalize hW : (w.alloc (.cells #[.int .i64 k, .int .i64 (m : Int)] 59)).alloc (.cells #[.int .i64 0, .int .i64 0, .string ⟨#[]⟩] 55) = W2 at *
    go_wp2_with fail
    have kf := HSET.out (x0, x1, x2) W2 G2.out
    have r0 := kf.cell 0
    have r1 := kf.cell 1
    have r2 := kf.cell 2
    simp only [List.getElem?_toArray, List.getElem?_cons_zero, List.getElem?_cons_succ] at r0 r1 r2
    refine bodyPost_ret (v := valA (x0, x1, x2)) (by simp [results, Tryz.results75, go_sem, r0, r1, r2, valA]) rfl ⟨rfl, ?_⟩
    exact ((HB.out.setCell (p := ⟨w.heap.size + 1, 0, none⟩) (by simp) _).setCell (p := ⟨w.heap.size + 1, 1, none⟩) (by simp) _).setCell (p := ⟨w.heap.size + 1, 2, none⟩) (by simp) _

theorem valid_v0 : validV v0.1 v0.2.1 v0.2.2 = true := by
  unfold validV validP
  exact decide_eq_true (.inl ⟨rfl, rfl, by rw [Lib.toList_data]; rfl⟩)
theorem valOf_valid {xs : List Val} {a : Ag} (h : validRow xs = true) (ha : a.1 = 1 ∨ (0 ≤ a.2 ∧ a.2 < xs.length)) : validV (valOf xs a).1 (valOf xs a).2.1 (valOf xs a).2.2 = true := by
  unfold valOf
  by_cases h1 : a.1 = 1
  · rw [if_pos h1]; exact valid_v0
  · rw [if_neg h1]
    have ha' : 0 ≤ a.2 ∧ a.2 < xs.length := by rcases ha with h | h; exact absurd h h1; exact h
    have hl : a.2.toNat < xs.length := by omega
    rw [List.getElem?_eq_getElem hl]
    unfold validRow validVs at h
    rw [Bool.and_eq_true] at h
    exact List.all_eq_true.1 h.2 _ (List.getElem_mem hl)
def took (a : Ag) (l : List It) : List Tk := l.map fun x => (valOf x.1 a, x.2)
def toldV (gs : List Ag) (l : List It) : List Val := gs.map fun a => tellK a.1 (took a l)
/-- What calls through the interface come to. -/
structure Disp (k : Int) (B : Nat) : Prop where
  na : ∀ f w, (nilAhead (f + 1) (dT k) (dV k B) "tidewright/fold.take").run Tryz.prog w = .ok (some false) w
  mt : ∀ f w, (method (f + 1) (dT k) (dV k B) "tidewright/fold.take").run Tryz.prog w = .ok (fTake k, dV k B) w
  ml : ∀ f w, (method (f + 1) (dT k) (dV k B) "tidewright/fold.tell").run Tryz.prog w = .ok (fTell k, dV k B) w
  ct : ∀ x w, (callFunc (fTake k) x).run Tryz.prog w = .ok (.enter (fTake k) x) w
  cl : ∀ x w, (callFunc (fTell k) x).run Tryz.prog w = .ok (.enter (fTell k) x) w
set_option maxRecDepth 100000 in
theorem dispatch (k : Int) (B : Nat) : Disp k B := by
  cases kd k with
  | k2 => exact ⟨fun f w => by show Sem.run _ (nilAhead (f + 1) 123 (.pointer (some ⟨B, 0, none⟩)) _) w = _; kernel_rfl, fun f w => by show Sem.run _ (method (f + 1) 123 (.pointer (some ⟨B, 0, none⟩)) _) w = .ok (131, (.pointer (some ⟨B, 0, none⟩))) w; kernel_rfl, fun f w => by show Sem.run _ (method (f + 1) 123 (.pointer (some ⟨B, 0, none⟩)) _) w = .ok (132, (.pointer (some ⟨B, 0, none⟩))) w; kernel_rfl, fun x w => by show Sem.run _ (callFunc 131 x) w = .ok (.enter 131 x) w; kernel_rfl, fun x w => by show Sem.run _ (callFunc 132 x) w = .ok (.enter 132 x) w; kernel_rfl⟩
  | k3 => exact ⟨fun f w => by show Sem.run _ (nilAhead (f + 1) 128 (.pointer (some ⟨B, 0, none⟩)) _) w = _; kernel_rfl, fun f w => by show Sem.run _ (method (f + 1) 128 (.pointer (some ⟨B, 0, none⟩)) _) w = .ok (136, (.pointer (some ⟨B, 0, none⟩))) w; kernel_rfl, fun f w => by show Sem.run _ (method (f + 1) 128 (.pointer (some ⟨B, 0, none⟩)) _) w = .ok (137, (.pointer (some ⟨B, 0, none⟩))) w; kernel_rfl, fun x w => by show Sem.run _ (callFunc 136 x) w = .ok (.enter 136 x) w; kernel_rfl, fun x w => by show Sem.run _ (callFunc 137 x) w = .ok (.enter 137 x) w; kernel_rfl⟩
  | k4 => exact ⟨fun f w => by show Sem.run _ (nilAhead (f + 1) 131 (.pointer (some ⟨B, 0, none⟩)) _) w = _; kernel_rfl, fun f w => by show Sem.run _ (method (f + 1) 131 (.pointer (some ⟨B, 0, none⟩)) _) w = .ok (138, (.pointer (some ⟨B, 0, none⟩))) w; kernel_rfl, fun f w => by show Sem.run _ (method (f + 1) 131 (.pointer (some ⟨B, 0, none⟩)) _) w = .ok (139, (.pointer (some ⟨B, 0, none⟩))) w; kernel_rfl, fun x w => by show Sem.run _ (callFunc 138 x) w = .ok (.enter 138 x) w; kernel_rfl, fun x w => by show Sem.run _ (callFunc 139 x) w = .ok (.enter 139 x) w; kernel_rfl⟩
  | k5 => exact ⟨fun f w => by show Sem.run _ (nilAhead (f + 1) 131 (.pointer (some ⟨B, 0, none⟩)) _) w = _; kernel_rfl, fun f w => by show Sem.run _ (method (f + 1) 131 (.pointer (some ⟨B, 0, none⟩)) _) w = .ok (138, (.pointer (some ⟨B, 0, none⟩))) w; kernel_rfl, fun f w => by show Sem.run _ (method (f + 1) 131 (.pointer (some ⟨B, 0, none⟩)) _) w = .ok (139, (.pointer (some ⟨B, 0, none⟩))) w; kernel_rfl, fun x w => by show Sem.run _ (callFunc 138 x) w = .ok (.enter 138 x) w; kernel_rfl, fun x w => by show Sem.run _ (callFunc 139 x) w = .ok (.enter 139 x) w; kernel_rfl⟩
  | k6 => exact ⟨fun f w => by show Sem.run _ (nilAhead (f + 1) 134 (.pointer (some ⟨B, 0, none⟩)) _) w = _; kernel_rfl, fun f w => by show Sem.run _ (method (f + 1) 134 (.pointer (some ⟨B, 0, none⟩)) _) w = .ok (136, (.pointer (some ⟨B, 0, none⟩))) w; kernel_rfl, fun f w => by show Sem.run _ (method (f + 1) 134 (.pointer (some ⟨B, 0, none⟩)) _) w = .ok (140, (.pointer (some ⟨B, 0, none⟩))) w; kernel_rfl, fun x w => by show Sem.run _ (callFunc 136 x) w = .ok (.enter 136 x) w; kernel_rfl, fun x w => by show Sem.run _ (callFunc 140 x) w = .ok (.enter 140 x) w; kernel_rfl⟩
  | k7 => exact ⟨fun f w => by show Sem.run _ (nilAhead (f + 1) 138 (.map (some B)) _) w = _; kernel_rfl, fun f w => by show Sem.run _ (method (f + 1) 138 (.map (some B)) _) w = .ok (142, (.map (some B))) w; kernel_rfl, fun f w => by show Sem.run _ (method (f + 1) 138 (.map (some B)) _) w = .ok (143, (.map (some B))) w; kernel_rfl, fun x w => by show Sem.run _ (callFunc 142 x) w = .ok (.enter 142 x) w; kernel_rfl, fun x w => by show Sem.run _ (callFunc 143 x) w = .ok (.enter 143 x) w; kernel_rfl⟩
  | o h2 h3 h4 h5 h6 h7 =>
    have e1 : dT k = 139 := by unfold dT; rw [if_neg h2, if_neg h3, if_neg h4, if_neg h5, if_neg h6, if_neg h7]
    have e2 : fTake k = 134 := by unfold fTake; rw [if_neg h2, if_neg h3, if_neg h4, if_neg h5, if_neg h6, if_neg h7]
    have e3 : dV k B = .pointer (some ⟨B, 0, none⟩) := by unfold dV; rw [if_neg h7]
    have e4 : fTell k = 132 := by unfold fTell; rw [if_neg h2, if_neg h3, if_neg h4, if_neg h5, if_neg h6, if_neg h7]
    constructor
    · rw [e1, e3]; intro f w; kernel_rfl
    · rw [e1, e2, e3]; intro f w; kernel_rfl
    · rw [e1, e3, e4]; intro f w; kernel_rfl
    · rw [e2]; intro f w; kernel_rfl
    · rw [e4]; intro f w; kernel_rfl
end Go.Proofs.YtfoknllnknjccaaGreat
