/-
  An accumulator's state, and Add on it, as the laws see them.
-/
import Derived.Test.YtfoknllnknjccaaGreatAdd5
import Derived.Test.YtfoknllnknjccaaGreatNew5
import Derived.Test.YtfoknllnknjccaaGreatActs
import Derived.Test.YtfoknllnknjccaaGreatRes5
namespace Go.Proofs.YtfoknllnknjccaaGreat
open Go.RowKit

def StO (W : World) (lo B : Nat) (v : Value) (gs : List Ag) (n : Nat) (ss : List ItR) : Prop := AccO W lo B v gs n ss ∧ validBag (vals ss) = true ∧ Wide n (vals ss)
theorem StO.belowV {W W' : World} {lo B : Nat} {v : Value} {gs : List Ag} {n : Nat} {ss : List ItR} (h : StO W lo B v gs n ss) (hb : Below W.heap.size W W') : StO W' lo B v gs n ss := ⟨h.1.belowV hb, h.2⟩
def ActPost (w : World) (lo B : Nat) (v : Value) (gs : List Ag) (n : Nat) (ss : List ItR) (r : List Val) (k : Int) (e : Ending) (w' : World) : Prop :=
  ∃ (er : Int) (v' : Value) (ss' : List ItR), e = .returned (.int .i64 er) ∧ StO w' lo B v' gs n ss' ∧ (er = 0 → (∀ q, cnt (vals ss') q = cnt (vals ss) q + if cmpRow r q = 0 then k else 0) ∧ -1000000 ≤ k ∧ k ≤ 1000000) ∧
    (∀ x, v'.ownBlock = some x → v.ownBlock = some x ∨ w.heap.size ≤ x) ∧ Keep2 w w' B v.ownBlock ∧ Below lo w w'
theorem act_any {lo B : Nat} {v : Value} {gs : List Ag} {n : Nat} {ss : List ItR} (r : RowV) (k : Int) (hg : 0 < gs.length) (w : World) (hlo : lo ≤ w.heap.size) (hS : StO w lo B v gs n ss) (hR : RowOK w r) (hz : r.1 = none → r.2.2 = 0) :
    Calls Tryz.prog 9 #[.pointer (some ⟨B, 0, none⟩), rowv r, .int .i64 k] w (ActPost w lo B v gs n ss r.2.1 k) := by
  refine (add_any lo B v gs n k ss r.1 r.2.1 r.2.2 hg hS.2.1 hz w hlo hR.2 hS.1).mono ?_
  rintro e w' ⟨rfl, v', ss', hA, hv, hbl, hk⟩
  refine ⟨_, v', ss', rfl, ⟨hA, by rw [hv]; exact add_valid hS.2.1, by rw [hv]; exact wide_add hS.2.2⟩, fun h0 => by rw [hv]; exact add_sum hS.2.1 h0, hbl, hk, hk.toBelow hlo hS.1.1 fun x hx => (hS.1.2.2.1.1.lt x hx).1⟩
theorem StO.other {W W' : World} {lo B B' : Nat} {v v' : Value} {gs gs' : List Ag} {n n' : Nat} {ss ss' : List ItR} (h : StO W lo B' v' gs' n' ss') (hx : StO W lo B v gs n ss) (hB : B' ≠ B) (hv : ∀ x, v'.ownBlock = some x → v.ownBlock ≠ some x) (k : Keep2 W W' B v.ownBlock) : StO W' lo B' v' gs' n' ss' := ⟨h.1.keep hx.1 hB hv k, h.2⟩
/-- Owned blocks stay apart. -/
theorem apart_step {W : World} {lo B : Nat} {u v v' : Value} {gs : List Ag} {n : Nat} {ss : List ItR} (hu : StO W lo B u gs n ss) (h : ∀ x, v.ownBlock = some x → u.ownBlock ≠ some x) (hb : ∀ x, v'.ownBlock = some x → v.ownBlock = some x ∨ W.heap.size ≤ x) : ∀ x, v'.ownBlock = some x → u.ownBlock ≠ some x := fun x hx e => by
  rcases hb x hx with h1 | h1
  · exact h x h1 e
  · have := (hu.1.2.2.1.1.lt x e).2
    omega
theorem stO_new {W : World} {lo lo2 B : Nat} {gs : List Ag} {n : Nat} (h : AccO W lo B (.slice none 0 0) gs n []) (hl : lo2 ≤ lo) : StO W lo2 B (.slice none 0 0) gs n [] := ⟨h.base hl, rfl, fun x hx => by cases hx⟩
/-- What an accumulator tells, as the laws ask it. -/
theorem resO_any {lo B : Nat} {v : Value} {gs : List Ag} {n : Nat} {ss : List ItR} (hv : validL (n : Int) gs = true) (w : World) (hS : StO w lo B v gs n ss) :
    Calls Tryz.prog 11 #[.pointer (some ⟨B, 0, none⟩)] w (ResPost w (resVal gs (vals ss)) (resErr (vals ss))) := by
  obtain ⟨q, cap, rfl, _⟩ := hS.1.form
  exact result_any B gs n (q, ss, cap) hv (by have := hS.1.2.2.2.2; show ss.length ≤ 100000; omega) hS.2.2 w hS.1.at
def Sums (acts : List ActR) (l : List It) : Prop := ∀ q, cnt l q = sumA acts q
def Small (acts : List ActR) : Prop := ∀ a ∈ acts, -1000000 ≤ a.2.1 ∧ a.2.1 ≤ 1000000
theorem small_at {acts : List ActR} (h : Small acts) {i : Nat} (hi : i < acts.length) : -1000000 ≤ (acts[i]?.getD ac0).2.1 ∧ (acts[i]?.getD ac0).2.1 ≤ 1000000 := by
  rw [List.getElem?_eq_getElem hi]; exact h _ (List.getElem_mem hi)
theorem small_next {acts : List ActR} {i : Nat} (hi : i < acts.length) (h : Small (acts.take i)) (hk : -1000000 ≤ (acts[i]?.getD ac0).2.1 ∧ (acts[i]?.getD ac0).2.1 ≤ 1000000) : Small (acts.take (i + 1)) := fun a ha => by
  rw [List.take_succ_eq_append_getElem hi] at ha
  rcases List.mem_append.1 ha with ha | ha
  · exact h a ha
  · rw [List.mem_singleton] at ha
    subst ha
    rwa [List.getElem?_eq_getElem hi] at hk
end Go.Proofs.YtfoknllnknjccaaGreat
