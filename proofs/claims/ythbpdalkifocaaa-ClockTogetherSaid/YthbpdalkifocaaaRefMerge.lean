/-
  The document's own Merge, as a contract; and: both Merges leave the same windows.
-/
import Derived.Test.YthbpdalkifocaaaMerge
namespace Go.Proofs.Ythbpdalkifocaaa
open Go.RowKit

theorem refValidW_b (a b : Int) (w : World) : Calls Try.prog 22 #[.agg #[.int .i64 a, .int .i64 b]] w fun e w' => e = .returned (.bool (winOK a b)) ∧ Below w.heap.size w w' :=
  (refValidWindow_any a b w).mono fun _ _ ⟨h1, h2⟩ => ⟨h1, by rw [h2]; exact (Below.refl _ _).alloc (Nat.le_refl _) _⟩

theorem refMerge_long (p : Option Addr) (n cap : Nat) (h : 400 < n) (w : World) :
    Calls Try.prog 9 #[.slice p n cap] w (RowPost2 w.heap.size w [] 1) := by
  have h' : (400 : Int) < (n : Int) := by omega
  go_enter Try.func9, Try.ntmps9
  go_wp2_with fail
  go_ret2
  exact ⟨_, rfl, World.ownsRow_nil _ _ _ _, Below.refl _ _⟩

theorem anyBad_split (xs : List Win) (i : Nat) : anyBad xs = (anyBad (xs.take (i + 1)) || anyBad (xs.drop (i + 1))) := by
  unfold anyBad; rw [← List.any_append, List.take_append_drop]
theorem anyBad_next {xs : List Win} {i : Nat} (h : i < xs.length) (ht : anyBad (xs.take i) = false) : anyBad (xs.take (i + 1)) = !winOK (xs[i]?.getD (0, 0)).1 (xs[i]?.getD (0, 0)).2 := by
  rw [← take_snoc h]; unfold anyBad at ht ⊢; rw [List.any_append, ht]; simp

/-- What either Merge leaves of a list of at most 400. -/
def MergePost (w : World) (xs : List (Int × Int)) (e : Ending) (w' : World) : Prop :=
  (anyBad xs = true ∧ RowPost2 w.heap.size w [] 1 e w') ∨ (anyBad xs = false ∧ MergeOK w xs e w')

set_option maxRecDepth 100000 in
set_option maxHeartbeats 1000000 in
theorem refMerge_some (bk off cap : Nat) (xs : List (Int × Int)) (hm : xs.length ≤ 400) (w : World) (hbk : bk < w.heap.size) (hX : RowAt w bk off xs) :
    Calls Try.prog 9 #[.slice (some ⟨bk, off, none⟩) xs.length cap] w (MergePost w xs) := by
  have HX := Lib.hid hX
  have HV := Lib.hid refValidW_b
  have h' : (xs.length : Int) ≤ 400 := by omega
  clear hX
  go_enter Try.func9, Try.ntmps9
  go_wp2_with fail
  go_loopw [4] (fun s wr => ∃ i : Nat, s = .int .i64 i ∧ i ≤ xs.length ∧ Hid (anyBad (xs.take i) = false) ∧ Below w.heap.size w wr) (fun s _ => xs.length - (intOf s).toNat)
  case atStart => exact ⟨0, rfl, Nat.zero_le _, rfl, Below.refl _ _⟩
  case round =>
    obtain ⟨i, rfl, hi, ht, hBi⟩ := hrel
    by_cases hlt : i < xs.length
    · obtain ⟨cx0, cx1⟩ := HX.out.belowV hBi hbk i hlt
      have hlt' : (i : Int) < (xs.length : Int) := by omega
      have hi0 : (0 : Int) ≤ (i : Int) := by omega
      have HA := Lib.hid (anyBad_next hlt ht.out)
      have HS := Lib.hid (anyBad_split xs i)
      generalize (xs[i]?.getD (0, 0)) = x at HA cx0 cx1
      obtain ⟨x1, x2⟩ := x
      dsimp only at HA cx0 cx1
      have hc1 := fun W => HV.out x1 x2 W
      have HC1 := Lib.hid hc1
      clear hc1
      rcases hb : winOK x1 x2 with _ | _
      · rw [hb] at HC1 HA
        go_wp2_with (go_at_call 22; refine (HC1.out _).mono ?_; rintro e w' ⟨rfl, hb1⟩)
        go_ret2
        exact .inl ⟨by rw [HS.out, HA.out]; rfl, _, rfl, World.ownsRow_nil _ _ _ _, hBi.trans (hb1.mono hBi.size)⟩
      · rw [hb] at HC1 HA
        go_wp2_with (go_at_call 22; refine (HC1.out _).mono ?_; rintro e w' ⟨rfl, hb1⟩)
        go_roundw
        case rel => exact ⟨i + 1, by go_num, by omega, HA.out, hBi.trans (hb1.mono hBi.size)⟩
        case measure => simp [intOf]; omega
    · have hi' : i = xs.length := by omega
      have hge : xs.length ≤ i := by omega
      have hE : anyBad xs = false := by have := ht.out; rw [hi', List.take_length] at this; exact this
      have HE := Lib.hid hE
      have hmg := Lib.hid (Merged_some bk off cap xs (by omega) (okW_of_anyBad hE) wr (HX.out.belowV hBi hbk))
      clear hE
      go_wp2_with (go_at_call 23; refine hmg.out.mono ?_; rintro e w3 ⟨ys, h1, h2, h3, v, rfl, hrow, hB3⟩)
      go_ret2
      exact .inr ⟨HE.out, ys, h1, h2, h3, _, rfl, ownsRow_base hrow hBi.size, hBi.trans (hB3.mono hBi.size)⟩

theorem clkMerge_some (bk off cap : Nat) (xs : List (Int × Int)) (hm : xs.length ≤ 400) (w : World) (hbk : bk < w.heap.size) (hX : RowAt w bk off xs) :
    Calls Try.prog 8 #[.slice (some ⟨bk, off, none⟩) xs.length cap] w (MergePost w xs) := by
  rcases hb : anyBad xs with _ | _
  · exact (Merge_ok bk off cap xs hm hb w hbk hX).mono fun _ _ h => .inr ⟨hb, h⟩
  · exact (Merge_bad bk off cap xs hm hb w hbk hX).mono fun _ _ h => .inl ⟨hb, h⟩
#print axioms refMerge_some
#print axioms clkMerge_some
end Go.Proofs.Ythbpdalkifocaaa
