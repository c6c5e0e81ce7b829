/-
  The columns' numbers by their names: a map of one's own.
-/
import Derived.Test.YtlhhkiglpehnfaaDoorCol
import Derived.Maps.OwnSet
import Derived.StringKeys
import Derived.WalkArith
namespace Go.Proofs.YtlhhkiglpehnfaaDoor
open Go.RowKit

def keyL (s : ByteArray) : Lit := .string s.data.toList
theorem keyL_ne {s t : ByteArray} (h : s ≠ t) : keyL s ≠ keyL t := fun e => by
  unfold keyL at e
  simp only [Lit.string.injEq] at e
  exact h (bytes_eq (by rw [ByteArray.toList_eq, ByteArray.toList_eq, e]))
def Distinct (l : List Col) (i : Nat) : Prop := ∀ j k, j < k → k < i → (colAt l j).1 ≠ (colAt l k).1
structure NumOf (l : List Col) (i : Nat) (D : DataW Unit) : Prop where
  has : ∀ s : ByteArray, Maps.has D (keyL s) = true ↔ ∃ j, j < i ∧ (colAt l j).1 = s
  at_ : Distinct l i → ∀ j, j < i → ∀ z, D.atKey (keyL (colAt l j).1) z = .lit (.int .i64 (j : Int))
  le : Maps.size D ≤ i
  size : Maps.size D = i ↔ Distinct l i
theorem NumOf.zero (l : List Col) : NumOf l 0 (.map []) where
  has s := ⟨fun h => by simp [Maps.has] at h, fun ⟨j, h, _⟩ => absurd h (by omega)⟩
  at_ _ j h := absurd h (by omega)
  le := Nat.le_refl _
  size := ⟨fun _ j k _ h => absurd h (by omega), fun _ => rfl⟩
theorem NumOf.step {l : List Col} {i : Nat} {D : DataW Unit} (h : NumOf l i D) (ht : Maps.Tidy D) (hm : Maps.IsMap D) : NumOf l (i + 1) (D.put (keyL (colAt l i).1) (.lit (.int .i64 (i : Int)))) where
  has s := by
    by_cases e : s = (colAt l i).1
    · subst e
      exact ⟨fun _ => ⟨i, by omega, rfl⟩, fun _ => Maps.has_put_same hm (show WideAt.IsKeyLit (keyL _) from trivial) _⟩
    · rw [Maps.has_put_other (keyL_ne e), h.has s]
      constructor
      · rintro ⟨j, hj, hs⟩; exact ⟨j, by omega, hs⟩
      · rintro ⟨j, hj, hs⟩
        by_cases ej : j = i
        · subst ej; exact absurd hs.symm e
        · exact ⟨j, by omega, hs⟩
  at_ hd j hj z := by
    by_cases ej : j = i
    · subst ej; exact Maps.atKey_put_same hm (show WideAt.IsKeyLit (keyL _) from trivial) _ _
    · rw [Maps.atKey_put_other (keyL_ne (hd j i (by omega) (by omega)))]
      exact h.at_ (fun a b h1 h2 => hd a b h1 (by omega)) j (by omega) z
  le := by
    rw [Maps.size_put ht]
    have := h.le
    split <;> omega
  size := by
    rw [Maps.size_put ht]
    have hle := h.le
    cases hh : Maps.has D (keyL (colAt l i).1) with
    | true =>
      obtain ⟨j, hj, hs⟩ := (h.has _).1 hh
      simp only [if_true]
      exact ⟨fun e => by omega, fun hd => absurd hs (hd j i hj (by omega))⟩
    | false =>
      simp only [Bool.false_eq_true, if_false]
      have hno : ∀ j, j < i → (colAt l j).1 ≠ (colAt l i).1 := fun j hj e => by
        have := (h.has _).2 ⟨j, hj, e⟩
        rw [hh] at this; cases this
      constructor
      · intro e
        have hd := h.size.1 (by omega)
        intro j k hjk hk
        by_cases ek : k = i
        · subst ek; exact hno j hjk
        · exact hd j k hjk (by omega)
      · intro hd
        rw [h.size.2 (fun a b h1 h2 => hd a b h1 (by omega))]
abbrev OwnsM (W : World) (b n : Nat) (D : DataW Unit) : Prop := W.ownsMap Tryd.prog 9 (plainElem Tryd.prog 3) b n D
def NumPost (w : World) (l : List Col) (e : Ending) (w' : World) : Prop := ∃ b D, e = .returned (.map (some b)) ∧ OwnsM w' b l.length D ∧ NumOf l l.length D ∧ Below w.heap.size w w'
theorem mapT : Tryd.prog.underlying 54 = some (.map 9 3) := by kernel_rfl

set_option maxRecDepth 100000 in
set_option maxHeartbeats 1000000 in
theorem numbers_any (p : Option Addr) (l : List Col) (cap : Nat) (hl : l.length ≤ 1000) (hsz : ∀ j, (colAt l j).1.size ≤ maxLen) (w : World) (hX : ColsIn w p l) :
    Calls Tryd.prog 24 #[.slice p l.length cap] w (NumPost w l) := by
  have hmm : ∀ W, (Instr.makeMap 54 (some (.int .i64 (l.length : Int)))).run Tryd.prog W = .ok (.map (some W.heap.size)) (W.alloc (.map #[] 0)) := fun W => by
    simp [Instr.makeMap, run_underlying mapT, asInt, asIntOf, Result.andThen]
  have hown0 : OwnsM (w.alloc (.map #[] 0)) w.heap.size 0 (.map []) := World.ownsMap_made w _ _ _
  have hB0 : Below w.heap.size w (w.alloc (.map #[] 0)) := (Below.refl _ _).alloc (Nat.le_refl _) _
  have HX := Lib.hid hX
  have HSZ := Lib.hid hsz
  clear hX hsz
  go_enter Tryd.func24, Tryd.ntmps24
  go_wp2_with fail
  go_loopw [11] (fun t wr => ∃ (i : Nat) (D : DataW Unit), t = .int .i64 i ∧ i ≤ l.length ∧ OwnsM wr w.heap.size i D ∧ Hid (NumOf l i D) ∧ Below w.heap.size w wr) (fun t _ => l.length - (intOf t).toNat)
  case atStart => exact ⟨0, _, rfl, Nat.zero_le _, hown0, NumOf.zero l, hB0⟩
  case round =>
    clear hown0 hB0 hmm
    obtain ⟨i, D, rfl, hi, hown, hD, hB⟩ := hrel
    have hBs := hB.size
    by_cases hlt : i < l.length
    · obtain ⟨b, off, rfl, hbl, hra⟩ := HX.out (by omega)
      obtain ⟨k0, k1⟩ := (hra.belowV hB hbl) i hlt
      have hi0 : (0 : Int) ≤ (i : Int) := by omega
      have hi1 : (i : Int) < (l.length : Int) := by omega
      have HN := Lib.hid (hD.out.step (hown.tidy (Maps.string_keyed Tryd.underlying9)) hown.isMap)
      have hkey := WideMaps.keyOf_string_mk Tryd.underlying9 (HSZ.out i)
      have hval : plainElem (H := Unit) Tryd.prog 3 (.int .i64 (i : Int)) = some (.lit (.int .i64 (i : Int)), []) := plainElem_int Tryd.underlying3 (WalkArith.wf_i64 (by omega))
      unfold keyL at HN
      clear hra hD
      generalize (colAt l i).1 = nm at k0 HN hkey
      generalize (colAt l i).2 = kd at k1
      have hown2 := hown.alloc (.cells #[.string nm, .int .i64 kd] 39)
      go_wp2_with (at_mapUpdate; refine wpList_mapUpdate_own _ rfl _ _ _ 54 rfl 9 3 (Maps.string_keyed Tryd.underlying9) mapT _ w.heap.size i D rfl hown2 (by unfold maxLen; omega) _ _ _ rfl rfl hkey _ [] hval ?_; intro w1 hown1 hgrow1; have hB1 : Below w.heap.size w w1 := (hB.alloc hBs _).grown hgrow1 (by simp <;> omega) (fun k e => by simp at e; omega))
      go_roundw
      case rel => exact ⟨i + 1, _, by go_num, by omega, hown1, HN.out, hB1⟩
      case measure => simp [intOf]; omega
    · have hge : l.length ≤ i := by omega
      obtain rfl : i = l.length := by omega
      go_wp2_with fail
      go_ret
      exact ⟨_, D, rfl, hown, hD.out, hB⟩
end Go.Proofs.YtlhhkiglpehnfaaDoor
