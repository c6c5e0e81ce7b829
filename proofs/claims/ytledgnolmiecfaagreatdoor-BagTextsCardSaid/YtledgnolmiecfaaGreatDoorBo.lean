/-
  Parse of package row and the document's own at any text: one answer.
-/
import Derived.Test.YtledgnolmiecfaaGreatDoorPa
import Derived.Test.YtledgnolmiecfaaGreatDoorJC
namespace Go.Proofs.YtledgnolmiecfaaGreatDoor
open Go.ChangeShapes Go.WideShapes Go.ChangeAt Go.RowKit
set_option linter.unusedSimpArgs false
set_option linter.unusedVariables false

def ErPost (w : World) (xs : List Val) (er : Int) (e : Ending) (w' : World) : Prop := ∃ v, e = .returned (.tuple #[v, .int .i64 er]) ∧ OwnsV w' w.heap.size v xs ∧ Below w.heap.size w w'
set_option maxRecDepth 100000 in
theorem refParse_long (t : ByteArray) (hl : 65536 < t.size) (w : World) : Calls Tryz.prog 29 #[.string t] w (ErPost w [] 3) := by
  have g1 : (65536 : Int) < t.size := by omega
  clear hl
  go_enter Tryz.func29, Tryz.ntmps29
  go_wp2_with fail
  go_ret2
  exact ⟨_, rfl, World.ownsRow_nil _ _ _ _, Below.refl _ _⟩
set_option maxRecDepth 100000 in
theorem refParse_nil (w : World) : Calls Tryz.prog 29 #[.string ⟨#[]⟩] w (ErPost w [] 0) := by
  go_enter Tryz.func29, Tryz.ntmps29
  go_wp2_with fail
  go_ret2
  exact ⟨_, rfl, World.ownsRow_nil _ _ _ _, Below.refl _ _⟩
/-- Both Parse at any text: the same row, the same error. -/
theorem both (s : ByteArray) : ∃ xs er, (∀ w, Env w.heap.size w → Calls Tryz.prog 41 #[.string s] w (ErPost w xs er)) ∧ (∀ w, Env w.heap.size w → Calls Tryz.prog 29 #[.string s] w (ErPost w xs er)) ∧ xs.length ≤ 8 ∧ (er = 0 → validRow xs = true ∧ textR xs = s.data.toList) ∧ (IsRow s.data.toList → er = 0) := by
  by_cases hl : 65536 < s.size
  · refine ⟨[], 3, fun w _ => (rowParse_long s hl w).mono ?_, fun w _ => refParse_long s hl w, by simp, fun h => by omega, fun ⟨xs, hv, ht⟩ => by
      have h1 := tailT_len (valid_split hv).2
      have h2 := (valid_split hv).1
      rw [← textR_tail, ht] at h1
      have h3 : s.data.toList.length = s.size := by simp
      omega⟩
    rintro e w' ⟨rfl, h⟩
    exact ⟨_, rfl, World.ownsRow_nil _ _ _ _, h⟩
  · by_cases hr : IsRow s.data.toList
    · obtain ⟨xs, hv, ht⟩ := hr
      refine ⟨xs, 0, fun w hE => ?_, fun w hE => ?_, (valid_split hv).1, fun _ => ⟨hv, ht⟩, fun _ => rfl⟩
      · have := rowParse_good xs hv w hE
        rw [ht, bs_back] at this
        exact this
      · by_cases hz : s.size = 0
        · have hs0 : s = ⟨#[]⟩ := by rw [← bs_back s, List.length_eq_zero_iff.1 (by simpa using hz : s.data.toList.length = 0)]; rfl
          have hx0 : xs = [] := textR_inj hv (by decide) (by rw [ht, hs0]; rfl)
          rw [hs0, hx0]
          exact refParse_nil w
        · refine (refParse_any s (by omega) (by omega) w hE.tab).mono ?_
          rintro e w' (⟨ys, v, hvy, hty, he, ho, hb⟩ | ⟨hn, _⟩)
          · obtain rfl := textR_inj hv hvy (by rw [ht, hty])
            exact ⟨v, he, ho, hb⟩
          · exact absurd ⟨xs, hv, ht⟩ hn
    · refine ⟨[], 2, fun w hE => ?_, fun w hE => ?_, by simp, fun h => by omega, fun h => absurd h hr⟩
      · have := rowParse_not s.data.toList hr (by simp; omega) w hE
        rw [bs_back] at this
        refine this.mono ?_
        rintro e w' ⟨rfl, h⟩
        exact ⟨_, rfl, World.ownsRow_nil _ _ _ _, h⟩
      · have hp : 0 < s.size := Nat.pos_of_ne_zero fun hz => not_row_ne hr (List.length_eq_zero_iff.1 (by simpa using hz))
        refine (refParse_any s (by omega) hp w hE.tab).mono ?_
        rintro e w' (⟨ys, v, hvy, hty, _⟩ | ⟨_, he, hb⟩)
        · exact absurd ⟨ys, hvy, hty⟩ hr
        · exact ⟨_, he, World.ownsRow_nil _ _ _ _, hb⟩

end Go.Proofs.YtledgnolmiecfaaGreatDoor
