/-
  RowReads: what its own walk leaves.
-/
import Derived.Test.YtmjobnakaamlpaaDoorPa
import Derived.Test.YtmjobnakaamlpaaDoorRu
import Derived.Test.YtmjobnakaamlpaaDoorSameR
import Derived.Test.YtmjobnakaamlpaaDoorAw
namespace Go.Proofs.YtmjobnakaamlpaaDoor.rowReads
open Go.ChangeShapes Go.WideShapes Go.ChangeAt Go.RowKit
set_option linter.unusedSimpArgs false
set_option linter.unusedVariables false

def ErPost (w : World) (xs : List Val) (er : Int) (e : Ending) (w' : World) : Prop := ∃ v, e = .returned (.tuple #[v, .int .i64 er]) ∧ OwnsV w' w.heap.size v xs ∧ Below w.heap.size w w'
set_option maxRecDepth 100000 in
theorem refParse_long (t : ByteArray) (hl : 65536 < t.size) (w : World) : Calls Tryd.prog 12 #[.string t] w (ErPost w [] 3) := by
  have g1 : (65536 : Int) < t.size := by omega
  clear hl
  go_enter Tryd.func12, Tryd.ntmps12
  go_wp2_with fail
  go_ret2
  exact ⟨_, rfl, World.ownsRow_nil _ _ _ _, Below.refl _ _⟩
set_option maxRecDepth 100000 in
theorem refParse_nil (w : World) : Calls Tryd.prog 12 #[.string ⟨#[]⟩] w (ErPost w [] 0) := by
  go_enter Tryd.func12, Tryd.ntmps12
  go_wp2_with fail
  go_ret2
  exact ⟨_, rfl, World.ownsRow_nil _ _ _ _, Below.refl _ _⟩
/-- Both Parse at any text: the same row, the same error. -/
theorem both (s : ByteArray) : ∃ xs er, (∀ w, Env w.heap.size w → Calls Tryd.prog 10 #[.string s] w (ErPost w xs er)) ∧ (∀ w, Env w.heap.size w → Calls Tryd.prog 12 #[.string s] w (ErPost w xs er)) ∧ xs.length ≤ 8 ∧ (er = 0 → validRow xs = true ∧ textR xs = s.data.toList) := by
  by_cases hl : 65536 < s.size
  · refine ⟨[], 3, fun w _ => (rowParse_long s hl w).mono ?_, fun w _ => refParse_long s hl w, by simp, fun h => by omega⟩
    rintro e w' ⟨rfl, h⟩
    exact ⟨_, rfl, World.ownsRow_nil _ _ _ _, h⟩
  · by_cases hr : IsRow s.data.toList
    · obtain ⟨xs, hv, ht⟩ := hr
      refine ⟨xs, 0, fun w hE => ?_, fun w hE => ?_, (valid_split hv).1, fun _ => ⟨hv, ht⟩⟩
      · have := rowParse_good xs hv w hE
        rw [ht, bs_back] at this
        exact this
      · by_cases hz : s.size = 0
        · have hs0 : s = ⟨#[]⟩ := by rw [← bs_back s, List.length_eq_zero_iff.1 (by simpa using hz : s.data.toList.length = 0)]; rfl
          have hx0 : xs = [] := textR_inj hv (by decide) (by rw [ht, hs0]; rfl)
          rw [hs0, hx0]
          exact refParse_nil w
        · refine (refParse_any s (by omega) (by omega) w hE.tab).mono ?_
          rintro e w' (⟨ys, v, hvy, hty, he, ho, hb⟩ | ⟨hn, _⟩)
          · obtain rfl := textR_inj hv hvy (by rw [ht, hty])
            exact ⟨v, he, ho, hb⟩
          · exact absurd ⟨xs, hv, ht⟩ hn
    · refine ⟨[], 2, fun w hE => ?_, fun w hE => ?_, by simp, fun h => by omega⟩
      · have := rowParse_not s.data.toList hr (by simp; omega) w hE
        rw [bs_back] at this
        refine this.mono ?_
        rintro e w' ⟨rfl, h⟩
        exact ⟨_, rfl, World.ownsRow_nil _ _ _ _, h⟩
      · have hp : 0 < s.size := Nat.pos_of_ne_zero fun hz => not_row_ne hr (List.length_eq_zero_iff.1 (by simpa using hz))
        refine (refParse_any s (by omega) hp w hE.tab).mono ?_
        rintro e w' (⟨ys, v, hvy, hty, _⟩ | ⟨_, he, hb⟩)
        · exact absurd ⟨ys, hvy, hty⟩ hr
        · exact ⟨_, he, World.ownsRow_nil _ _ _ _, hb⟩

set_option maxRecDepth 100000 in
set_option maxHeartbeats 4000000 in
theorem walk (s : ByteArray) (w : World) (hE : Env w.heap.size w) :
    Calls Tryd.prog 4 #[.string s] w fun e w' => e = .returned (.bool true) ∧ Below w.heap.size w w' := by
  have HAW := Lib.hid fun W (k : Below w.heap.size w W) => awake_any W ((hE.on k).up k.size).tab
  by_cases hl : 131072 < s.size
  · have g1 : (131072 : Int) < s.size := by omega
    clear hl
    go_enter Tryd.func4, Tryd.ntmps4
    go_wp2_with fail
    refine (HAW.out _ (Below.refl _ _)).mono ?_
    rintro e w1 ⟨rfl, k1⟩
    go_wp2_with fail
    go_ret
    exact ⟨rfl, k1⟩
  · have g1 : ¬ (131072 : Int) < s.size := by omega
    obtain ⟨xs, er, h1, h2, h8, h0⟩ := both s
    have HP := Lib.hid fun W (k : Below w.heap.size w W) => h1 W ((hE.on k).up k.size)
    have HR := Lib.hid fun W (k : Below w.heap.size w W) => h2 W ((hE.on k).up k.size)
    have HX := Lib.hid fun W (p : Option Addr) (cap : Nat) (hX : ValsIn W p xs) (k : Below w.heap.size w W) => rowText_any p xs cap W hX ((hE.on k).up k.size).tab
    have HH1 := Lib.hid fun W => rowHash_any s (by omega) W
    have HH2 := Lib.hid fun W => refHash_any s (by omega) W
    have H8 := Lib.hid h8
    have H0 := Lib.hid (show er = 0 → (⟨(textOf xs).toArray⟩ : ByteArray) = s from fun h => by
      obtain ⟨hv, ht⟩ := h0 h
      unfold textOf
      rw [hv, if_pos rfl, ht])
    generalize hashN fnv s s.size = hh at HH1 HH2
    unfold TextPost at HX
    generalize (⟨(textOf xs).toArray⟩ : ByteArray) = y at HX H0
    clear h1 h2 h8 h0 hl hE
    go_enter Tryd.func4, Tryd.ntmps4
    go_wp2_with fail
    refine (HP.out _ (Below.refl _ _)).mono ?_
    rintro e w1 ⟨v, rfl, o1, k1⟩
    obtain ⟨p, c, rfl⟩ := slice_of_owns o1
    have HB1 := Lib.hid k1
    have HO1 := Lib.hid o1
    clear k1 o1
    go_wp2_with fail
    refine (HR.out _ HB1.out).mono ?_
    rintro e w2 ⟨v2, rfl, o2, k2⟩
    obtain ⟨q, d, rfl⟩ := slice_of_owns o2
    have HB2 := Lib.hid (HB1.out.trans (k2.mono HB1.out.size))
    have HO1b := Lib.hid (owns_below HO1.out k2)
    have HO2 := Lib.hid (ownsRow_base o2 HB1.out.size)
    clear k2 o2 HO1 HP HR
    go_wp2_with fail
    refine (Same_any p q xs c d xs.length rfl (by have := H8.out; omega) _ (valsIn_of_owns HO1b.out) (valsIn_of_owns HO2.out)).mono ?_
    rintro e w3 ⟨rfl, k3⟩
    have HB3 := Lib.hid (HB2.out.trans (k3.mono HB2.out.size))
    have HO3 := Lib.hid (owns_below HO1b.out k3)
    clear k3 HO1b HO2
    go_wp2_with fail
    refine (HH1.out _).mono ?_
    rintro e w4 ⟨rfl, rfl⟩
    go_wp2_with fail
    refine (HH2.out _).mono ?_
    rintro e w4 ⟨rfl, rfl⟩
    by_cases he : er = 0
    · have hy := H0.out he
      subst he
      subst hy
      go_wp2_with fail
      refine (HX.out _ p c (valsIn_of_owns HO3.out) HB3.out).mono ?_
      rintro e w5 ⟨rfl, k5⟩
      have HB5 := Lib.hid (HB3.out.trans (k5.mono HB3.out.size))
      clear k5
      go_wp2_with fail
      refine (HAW.out _ HB5.out).mono ?_
      rintro e w6 ⟨rfl, k6⟩
      have HB6 := Lib.hid (HB5.out.trans (k6.mono HB5.out.size))
      clear k6
      go_wp2_with fail
      go_ret
      exact ⟨rfl, HB6.out⟩
    · have e1 : (er != 0) = true := by simpa using he
      go_wp2_with fail
      refine (HAW.out _ HB3.out).mono ?_
      rintro e w6 ⟨rfl, k6⟩
      have HB6 := Lib.hid (HB3.out.trans (k6.mono HB3.out.size))
      clear k6
      go_wp2_with fail
      go_ret
      exact ⟨rfl, HB6.out⟩
end Go.Proofs.YtmjobnakaamlpaaDoor.rowReads
