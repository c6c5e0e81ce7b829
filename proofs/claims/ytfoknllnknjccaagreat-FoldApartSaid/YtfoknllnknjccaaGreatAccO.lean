/-
  Items of the call's own, with rows of the call's own; a row cloned.
  An accumulator of one's own: its list, its items and their rows, each in blocks of their own; what a call keeps that writes the accumulator and its items.
-/
import Derived.Test.YtfoknllnknjccaaGreatOwnI
import Derived.Test.YtfoknllnknjccaaGreatAcc
import Derived.Test.YtfoknllnknjccaaGreatBlkG
namespace Go.Proofs.YtfoknllnknjccaaGreat
open Go.RowKit

def CloneO (w : World) (xs : List Val) (e : Ending) (w' : World) : Prop := ∃ r : RowV, e = .returned (rowv r) ∧ r.2.1 = xs ∧ OwnsV w' w.heap.size (rowv r) xs ∧ Below w.heap.size w w'
theorem cloneO_of {w w' : World} {v : Value} {xs : List Val} (h : OwnsV w' w.heap.size v xs) (hb : Below w.heap.size w w') : CloneO w xs (.returned v) w' := by
  obtain ⟨p, c, rfl⟩ := slice_of_owns h
  exact ⟨(p, xs, c), rfl, rfl, h, hb⟩

set_option maxRecDepth 100000 in
set_option maxHeartbeats 1000000 in
theorem cloneO_any (p : Option Addr) (xs : List Val) (cap : Nat) (hm : xs.length ≤ 100000) (w : World) (hX : ValsIn w p xs) (hz : p = none → cap = 0) :
    Calls Tryz.prog 40 #[.slice p xs.length cap] w (CloneO w xs) := by
  have q22 : ∀ (w : World) (a : Option Addr) (n c : Nat), (binOp .eql 34 (.slice a n c) (.slice none 0 0)).run Tryz.prog w = .ok (.bool a.isNone) w := fun w a n c => Lib.run_eql_slice_nil w _ _ a n c 0 0 Tryz.underlying34
  cases p with
  | none =>
    have hx0 : xs = [] := by
      cases xs with
      | nil => rfl
      | cons x xs => obtain ⟨_, _, e, _⟩ := hX (by simp); cases e
    subst hx0
    clear hX hz
    go_enter Tryz.func40, Tryz.ntmps40
    go_wp2_with fail
    go_ret
    exact ⟨(none, [], 0), rfl, rfl, World.ownsRow_nil _ _ _ _, Below.refl _ _⟩
  | some ad =>
    have hbA : Below w.heap.size w (w.alloc (.cells #[] 55)) := (Below.refl _ _).alloc (Nat.le_refl _) _
    have hown : (w.alloc (.cells #[] 55)).ownsRow w.heap.size 55 3 (.slice (some ⟨w.heap.size, 0, none⟩) 0 0) 0 [] := World.ownsRow_made w #[] 0 (Nat.le_refl _) (Nat.zero_le _) rfl
    have HX := Lib.hid (hX.belowV hbA)
    have HOW := Lib.hid hown
    clear hX hz hown
    go_enter Tryz.func40, Tryz.ntmps40
    go_wp2_with (at_builtin; refine wpList_append_vals rfl _ _ rfl w.heap.size _ 0 [] rfl HOW.out (some ad) xs cap rfl HX.out (fun e => by cases e) (by omega) (by simp) xs.length (by omega) (flatV xs) (List.nil_append _) ?_; intro v' w5 hown' hb5 _)
    go_ret
    exact cloneO_of hown' (hbA.trans hb5)

end Go.Proofs.YtfoknllnknjccaaGreat

namespace Go.Proofs.YtfoknllnknjccaaGreat
open Go.RowKit Go.Lib

/-- A world that keeps all old blocks but two. -/
structure Keep2 (w w' : World) (B : Nat) (r : Option Nat) : Prop where
  os : w'.os = w.os
  tape : w'.tape = w.tape
  output : w'.output = w.output
  size : w.heap.size ≤ w'.heap.size
  block : ∀ k, k < w.heap.size → k ≠ B → r ≠ some k → w'.heap[k]? = w.heap[k]?
theorem keep2_refl (w : World) (B : Nat) (r : Option Nat) : Keep2 w w B r := ⟨rfl, rfl, rfl, Nat.le_refl _, fun _ _ _ _ => rfl⟩
theorem Keep2.trans {w w1 w2 : World} {B : Nat} {r r1 : Option Nat} (h : Keep2 w w1 B r) (k : Keep2 w1 w2 B r1) (hr : ∀ x, r1 = some x → r = some x ∨ w.heap.size ≤ x) : Keep2 w w2 B r :=
  ⟨k.os.trans h.os, k.tape.trans h.tape, k.output.trans h.output, Nat.le_trans h.size k.size, fun i hi hB hne => (k.block i (Nat.lt_of_lt_of_le hi h.size) hB (fun e => (hr i e).elim (fun e => hne e) (fun e => by omega))).trans (h.block i hi hB hne)⟩
theorem keep2_of_below {w w1 : World} {B : Nat} {r : Option Nat} (k : Below w.heap.size w w1) : Keep2 w w1 B r := ⟨k.os, k.tape, k.output, k.size, fun i hi _ _ => k.block i hi⟩
theorem keep2_of_grown {w w1 : World} {B : Nat} {r : Option Nat} (k : w.grownBy w1 r) : Keep2 w w1 B r := ⟨k.os, k.tape, k.output, k.size, fun i hi _ h => k.block i hi (fun e => h e.symm)⟩
theorem keep2_set (w : World) (B j : Nat) (u : Value) (r : Option Nat) : Keep2 w (w.setCell ⟨B, j, none⟩ u) B r :=
  ⟨rfl, rfl, rfl, by simp [World.setCell], fun k _ hB _ => Below.heap_setCell w ⟨B, j, none⟩ u k (fun e => hB e)⟩
theorem Keep2.toBelow {w w' : World} {lo B : Nat} {r : Option Nat} (h : Keep2 w w' B r) (hlo : lo ≤ w.heap.size) (hB : lo ≤ B) (hr : ∀ k, r = some k → lo ≤ k) : Below lo w w' :=
  ⟨h.os, h.tape, h.output, h.size, fun k hk => h.block k (by omega) (by omega) (fun e => by have := hr k e; omega)⟩
theorem own_keep2 {w w' : World} {lo B n : Nat} {r : Option Nat} {e : TypeId} {size : Nat} {u : Value} {xs : List Value} (h : w.ownsRow lo e size u n xs) (k : Keep2 w w' B r) (hB : ∀ x, u.ownBlock = some x → x ≠ B ∧ r ≠ some x) : w'.ownsRow lo e size u n xs := by
  refine ⟨h.1, ?_⟩
  rcases h.2 with hn | ⟨g, cap, cur, rfl, hg, hc, rest⟩
  · exact .inl hn
  · have := hB g rfl
    exact .inr ⟨g, cap, cur, rfl, hg, (k.block g (Array.getElem?_eq_some_iff.1 hc).1 this.1 this.2).trans hc, rest⟩
/-- The block that a row of the call's own lies in has its type. -/
theorem own_type {w : World} {lo n : Nat} {e : TypeId} {size : Nat} {u : Value} {xs : List Value} (h : w.ownsRow lo e size u n xs) : ∀ x, u.ownBlock = some x → ∃ cur, w.heap[x]? = some (.cells cur e (0, 0)) := by
  intro x hx
  rcases h.2 with ⟨rfl, _⟩ | ⟨g, cap, cur, rfl, hg, hc, rest⟩
  · cases hx
  · simp only [Value.ownBlock, Option.some.injEq] at hx
    subst hx
    exact ⟨cur, hc⟩
theorem apart_blk {w : World} {lo n B : Nat} {e t : TypeId} {size : Nat} {u : Value} {xs : List Value} {cs : Array Value} (h : w.ownsRow lo e size u n xs) (k : Blk w B t cs) (hne : e ≠ t) : ∀ x, u.ownBlock = some x → x ≠ B := by
  intro x hx e1
  obtain ⟨cur, hc⟩ := own_type h x hx
  subst e1
  rw [show w.heap[x]? = _ from k] at hc
  simp only [Option.some.injEq, Obj.cells.injEq] at hc
  exact hne hc.2.1.symm
theorem apart_own {w : World} {lo lo2 n m : Nat} {e t : TypeId} {s1 s2 : Nat} {u v : Value} {xs ys : List Value} (h : w.ownsRow lo e s1 u n xs) (k : w.ownsRow lo2 t s2 v m ys) (hne : e ≠ t) : ∀ x, u.ownBlock = some x → v.ownBlock ≠ some x := by
  intro x hx e1
  obtain ⟨cur, hc⟩ := own_type h x hx
  obtain ⟨cur2, hc2⟩ := own_type k x e1
  rw [hc2] at hc
  simp only [Option.some.injEq, Obj.cells.injEq] at hc
  exact hne hc.2.1.symm

/-- An accumulator of one's own: block B, whose third cell is v; nothing of it lies below lo. -/
def AccO (W : World) (lo B : Nat) (v : Value) (gs : List Ag) (n : Int) (ss : List ItR) : Prop :=
  lo ≤ B ∧ (∃ p c, Blk W B 66 #[.slice p gs.length c, .int .i64 n, v] ∧ W.ownsRow lo 59 2 (.slice p gs.length c) gs.length (flatG gs)) ∧ OwnItems W lo v ss ∧ (∀ r ∈ ss, r.1.2.1.length ≤ 8) ∧ ss.length ≤ 400
theorem AccO.form {W : World} {lo B : Nat} {v : Value} {gs : List Ag} {n : Int} {ss : List ItR} (h : AccO W lo B v gs n ss) : ∃ q cap, v = .slice q ss.length cap ∧ ss.length ≤ cap := slice_of_own h.2.2.1.1
theorem AccO.lt {W : World} {lo B : Nat} {v : Value} {gs : List Ag} {n : Int} {ss : List ItR} (h : AccO W lo B v gs n ss) : B < W.heap.size := by
  obtain ⟨_, ⟨p, c, hK, _⟩, _⟩ := h
  exact hK.lt
theorem AccO.belowV {W W' : World} {lo B : Nat} {v : Value} {gs : List Ag} {n : Int} {ss : List ItR} (h : AccO W lo B v gs n ss) (hb : Below W.heap.size W W') : AccO W' lo B v gs n ss := by
  obtain ⟨h0, ⟨p, c, hK, hG⟩, hI, h8⟩ := h
  exact ⟨h0, ⟨p, c, hK.belowV hb hK.lt, owns_below hG hb⟩, hI.below hb, h8⟩
theorem AccO.items {W : World} {lo B : Nat} {q : Option Addr} {cap : Nat} {gs : List Ag} {n : Int} {ss : List ItR} (h : AccO W lo B (.slice q ss.length cap) gs n ss) : ItemsIn W q ss := h.2.2.1.items rfl fun r hr => Nat.le_trans (h.2.2.2.1 r hr) (by decide)
theorem AccO.at {W : World} {lo B : Nat} {q : Option Addr} {cap : Nat} {gs : List Ag} {n : Int} {ss : List ItR} (h : AccO W lo B (.slice q ss.length cap) gs n ss) : AccAt W B gs n (q, ss, cap) := by
  have hi := h.items
  obtain ⟨q2, cap2, e, hc⟩ := h.form
  simp only [Value.slice.injEq, true_and] at e
  obtain ⟨rfl, rfl⟩ := e
  obtain ⟨h0, ⟨p, c, hK, hG⟩, hI, h8, hl⟩ := h
  exact ⟨p, c, hK, aggsIn_of_owns hG, Nat.le_trans hl (by decide), hc, hi⟩
/-- What a call on one accumulator does leaves another. -/
theorem AccO.keep {W W' : World} {lo lo2 B B' : Nat} {v v' : Value} {gs gs' : List Ag} {n n' : Int} {ss ss' : List ItR} (h : AccO W lo B' v' gs' n' ss') (hx : AccO W lo2 B v gs n ss) (hB : B' ≠ B) (hv : ∀ x, v'.ownBlock = some x → v.ownBlock ≠ some x) (k : Keep2 W W' B v.ownBlock) : AccO W' lo B' v' gs' n' ss' := by
  obtain ⟨_, ⟨p0, c0, hK0, _⟩, hI0, _⟩ := hx
  obtain ⟨h0, ⟨p, c, hK, hG⟩, hI, h8⟩ := h
  refine ⟨h0, ⟨p, c, (k.block B' hK.lt hB (fun e => apart_blk hI0.1 hK (by decide) B' e rfl)).trans hK, own_keep2 hG k fun x hx => ⟨apart_blk hG hK0 (by decide) x hx, apart_own hG hI0.1 (by decide) x hx⟩⟩, ⟨own_keep2 hI.1 k fun x hx => ⟨apart_blk hI.1 hK0 (by decide) x hx, hv x hx⟩, fun r hr => own_keep2 (hI.2 r hr) k fun x hx => ⟨apart_blk (hI.2 r hr) hK0 (by decide) x hx, apart_own (hI.2 r hr) hI0.1 (by decide) x hx⟩⟩, h8⟩
/-- The accumulator itself, its items written. -/
theorem AccO.items_new {W W' : World} {lo B : Nat} {v : Value} {gs : List Ag} {n : Int} {ss ss' : List ItR} (h : AccO W lo B v gs n ss) (k : W.grownBy W' v.ownBlock) (hO : W'.ownsRow lo 53 2 v ss'.length (flatI ss')) (hr : ∀ r ∈ ss', r ∈ ss ∨ ∃ r0 ∈ ss, r.1 = r0.1) (hl : ss'.length ≤ 400) : AccO W' lo B v gs n ss' := by
  obtain ⟨h0, ⟨p, c, hK, hG⟩, hI, h8, _⟩ := h
  have hne : some B ≠ v.ownBlock := fun e => apart_blk hI.1 hK (by decide) B e.symm rfl
  have hrow : ∀ r ∈ ss', ∃ r0 ∈ ss, r.1 = r0.1 := fun r h => by
    rcases hr r h with h | h
    · exact ⟨r, h, rfl⟩
    · exact h
  refine ⟨h0, ⟨p, c, (k.block B hK.lt hne).trans hK, own_keep2 hG (B := B) (keep2_of_grown k) fun x hx => ⟨apart_blk hG hK (by decide) x hx, apart_own hG hI.1 (by decide) x hx⟩⟩, ⟨hO, fun r h => ?_⟩, fun r h => ?_, hl⟩
  · obtain ⟨r0, hr0, e⟩ := hrow r h
    rw [e]
    exact own_keep2 (hI.2 r0 hr0) (B := B) (keep2_of_grown k) fun x hx => ⟨apart_blk (hI.2 r0 hr0) hK (by decide) x hx, apart_own (hI.2 r0 hr0) hI.1 (by decide) x hx⟩
  · obtain ⟨r0, hr0, e⟩ := hrow r h
    rw [e]; exact h8 r0 hr0
/-- Where an item goes in. -/
theorem put_new {l : List It} {r : List Val} {n : Int} (hn : n ≠ 0) : ∀ i, i ≤ l.length → (∀ j, j < i → 0 < cmpRow r (l[j]?.getD it0).1) → (i < l.length → cmpRow r (l[i]?.getD it0).1 < 0) → put l r n = l.take i ++ (r, n) :: l.drop i := by
  induction l with
  | nil => intro i hi _ _; simp [put, hn]
  | cons x l ih =>
    intro i hi h1 h2
    cases i with
    | zero =>
      have := h2 (by simp)
      simp only [List.getElem?_cons_zero, Option.getD_some] at this
      simp [put, this, hn]
    | succ i =>
      have h0 := h1 0 (by omega)
      simp only [List.getElem?_cons_zero, Option.getD_some] at h0
      rw [put, if_neg (by omega), if_neg (by omega), ih i (by simpa using hi) (fun j hj => by simpa using h1 (j + 1) (by omega)) (fun h => by simpa using h2 (by simpa using h))]
      simp
theorem put_upd {l : List It} {r : List Val} {n : Int} : ∀ i, i < l.length → (∀ j, j < i → 0 < cmpRow r (l[j]?.getD it0).1) → cmpRow r (l[i]?.getD it0).1 = 0 → put l r n = if (l[i]?.getD it0).2 + n = 0 then l.take i ++ l.drop (i + 1) else l.take i ++ (r, (l[i]?.getD it0).2 + n) :: l.drop (i + 1) := by
  induction l with
  | nil => intro i hi; simp at hi
  | cons x l ih =>
    intro i hi h1 h2
    cases i with
    | zero =>
      simp only [List.getElem?_cons_zero, Option.getD_some] at h2 ⊢
      rw [put, if_neg (by omega), if_pos h2]
      simp
    | succ i =>
      have h0 := h1 0 (by omega)
      simp only [List.getElem?_cons_zero, Option.getD_some] at h0
      rw [put, if_neg (by omega), if_neg (by omega), ih i (by simpa using hi) (fun j hj => by simpa using h1 (j + 1) (by omega)) (by simpa using h2)]
      simp only [List.getElem?_cons_succ, List.take_succ_cons, List.drop_succ_cons, List.cons_append]
      split <;> rfl
theorem flatI_cut (ss : List ItR) (i : Nat) : flatI (ss.take i ++ ss.drop (i + 1)) = (flatI ss).take (i * 2) ++ (flatI ss).drop (i * 2 + 2) := by
  rw [flatI_app, flatI_take, show i * 2 + 2 = (i + 1) * 2 by omega, flatI_drop]
theorem flatI_ins (ss : List ItR) (i : Nat) (x : ItR) : flatI (ss.take i ++ x :: ss.drop i) = (flatI ss).take (i * 2) ++ [rowv x.1, .int .i64 x.2] ++ (flatI ss).drop (i * 2) := by
  rw [flatI_app, flatI_take, flatI_drop]
  simp [flatI, cellsI]
theorem flatI_cnt : ∀ (ss : List ItR) (i : Nat) (c : Int), flatI (ss.set i ((ss[i]?.getD ir0).1, c)) = (flatI ss).set (i * 2 + 1) (.int .i64 c)
  | [], i, c => by simp [flatI]
  | x :: xs, 0, c => by simp [flatI, cellsI]
  | x :: xs, i + 1, c => by
    have h := flatI_cnt xs i c
    rw [show (i + 1) * 2 + 1 = i * 2 + 1 + 2 by omega]
    simp only [flatI, List.set_cons_succ, List.flatMap_cons, cellsI, List.cons_append, List.nil_append, List.getElem?_cons_succ] at h ⊢
    rw [h]
end Go.Proofs.YtfoknllnknjccaaGreat
