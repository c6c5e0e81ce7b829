/-
  RowSchemaTexts: what its own walk leaves.
-/
import Derived.Test.YtlhhkiglpehnfaaDoorSg
import Derived.Test.YtlhhkiglpehnfaaDoorDoor
import Derived.Test.YtlhhkiglpehnfaaDoorAw
namespace Go.Proofs.YtlhhkiglpehnfaaDoor.rowSchemaTexts
open Go.ChangeShapes Go.WideShapes Go.ChangeAt Go.RowKit
set_option linter.unusedSimpArgs false
set_option linter.unusedVariables false

theorem fmt_data (l : List Col) : (⟨(fmtS l).toArray⟩ : ByteArray).data.toList = fmtS l := rfl
theorem fmt_small (l : List Col) : (⟨(fmtS l).toArray⟩ : ByteArray).size ≤ 200 := by
  show (fmtS l).toArray.size ≤ 200
  unfold fmtS
  split
  · rename_i h; rw [List.size_toArray]; exact (schT_len h).1
  · exact Nat.zero_le _
theorem size_toList (s : ByteArray) : s.data.toList.length = s.size := by simp
/-- ParseSchema of package row at a text that a schema has. -/
theorem row_good (s : ByteArray) (l : List Col) (h : isS s.data.toList l) (m : Int) (w : World) (hM : w.cell? ⟨0, 0, none⟩ = some (.int .i64 m)) :
    Calls Tryd.prog 7 #[.string s] w (ParseP w l 0) := by
  have hz : s.size ≤ 200 := by rw [← size_toList, ← h.2]; exact (schT_len h.1).1
  have hg := prog_good h s.size (by have := @schT_more l; rw [h.2, size_toList] at this; exact this)
  exact rowParseS_any s (by omega) m w hM 0 l (.inl ⟨by rw [hg]; exact h.1, rfl, hg.symm⟩)
theorem row_bad (s : ByteArray) (hs : s.size ≤ 65536) (h : ∀ l, ¬ isS s.data.toList l) (m : Int) (w : World) (hM : w.cell? ⟨0, 0, none⟩ = some (.int .i64 m)) :
    Calls Tryd.prog 7 #[.string s] w (ParseP w [] 2) :=
  rowParseS_any s hs m w hM 2 [] (.inr ⟨prog_bad h _, rfl, rfl⟩)
theorem ref_good (s : ByteArray) (l : List Col) (h : isS s.data.toList l) (w : World) :
    Calls Tryd.prog 10 #[.string s] w (ParseP w l 0) := by
  have hz : s.size ≤ 200 := by rw [← size_toList, ← h.2]; exact (schT_len h.1).1
  have hd := doc_good h
  exact refParseS_any s (by omega) w 0 l (.inl ⟨by rw [ByteArray.toList_eq, ← h.2]; exact (schT_len h.1).2, by rw [hd]; unfold fmtS; rw [if_pos h.1]; exact h.2, rfl, hd.symm⟩)
set_option maxRecDepth 100000 in
set_option maxHeartbeats 2000000 in
theorem ref_mid (s : ByteArray) (h1 : 300 ≤ s.size) (hs : s.size ≤ 65536) (w : World) :
    Calls Tryd.prog 10 #[.string s] w (ParseP w [] 2) := by
  have hz : (s.size : Int) ≤ 65536 := by omega
  have hz2 : ¬ ((s.size : Int) < 300) := by omega
  have hn : ¬ s.toList = [] := by
    rw [ByteArray.toList_eq]
    intro e
    have := congrArg List.length e
    rw [size_toList] at this
    simp only [List.length_nil] at this
    omega
  have hn2 : s.toList.isEmpty = false := by simpa using hn
  have hT := refFormat_any none [] 0 (Nat.le_refl _) (by omega) (fun j => by simp [colAt, c0, ByteArray.size]) w (fun h => absurd h (by simp))
  rw [show fmtS [] = [] from rfl] at hT
  unfold FmtPost at hT
  have HT := Lib.hid hT
  have hne : ((⟨([] : List UInt8).toArray⟩ : ByteArray).toList == s.toList) = false := by
    rw [beq_eq_false_iff_ne, ByteArray.toList_eq]; exact fun e => hn e.symm
  generalize (⟨([] : List UInt8).toArray⟩ : ByteArray) = x at hne HT
  clear hT h1 hs
  go_enter Tryd.func10, Tryd.ntmps10
  go_wp2_with fail
  go_loopw [4, 5, 6] (fun o tt c wr => o = .slice none 0 0 ∧ tt = .string ⟨#[]⟩ ∧ c = .int .i64 0 ∧ wr = w) (fun _ _ _ _ => 0)
  case atStart => exact ⟨rfl, rfl, rfl, rfl⟩
  case round =>
    obtain ⟨rfl, rfl, rfl, rfl⟩ := hrel
    go_wp2_with fail
    refine HT.out.mono ?_
    rintro e w5 ⟨rfl, k5⟩
    have HF := Lib.hid k5
    clear k5
    go_wp2_with fail
    go_ret2
    exact ⟨_, rfl, World.ownsRow_nil _ _ _ _, HF.out⟩
theorem ref_bad (s : ByteArray) (hs : s.size ≤ 65536) (h : ∀ l, ¬ isS s.data.toList l) (w : World) :
    Calls Tryd.prog 10 #[.string s] w (ParseP w [] 2) := by
  by_cases h3 : s.size < 300
  · refine refParseS_any s h3 w 2 [] (.inr ⟨?_, rfl, rfl⟩)
    by_cases h0 : s.toList = []
    · exact .inl h0
    · exact .inr (doc_bad h (by rw [← ByteArray.toList_eq]; exact h0) _)
  · exact ref_mid s (by omega) hs w
set_option maxRecDepth 100000 in
theorem ref_long (s : ByteArray) (hs : 65536 < s.size) (w : World) :
    Calls Tryd.prog 10 #[.string s] w (ParseP w [] 3) := by
  have hz : (65536 : Int) < (s.size : Int) := by omega
  clear hs
  go_enter Tryd.func10, Tryd.ntmps10
  go_wp2_with fail
  go_ret2
  exact ⟨_, rfl, World.ownsRow_nil _ _ _ _, Below.refl _ _⟩
set_option maxRecDepth 100000 in
theorem row_long (s : ByteArray) (hs : 65536 < s.size) (w : World) :
    Calls Tryd.prog 7 #[.string s] w (ParseP w [] 3) := by
  have hz : (65536 : Int) < (s.size : Int) := by omega
  clear hs
  go_enter Tryd.func7, Tryd.ntmps7
  go_wp2_with fail
  go_ret2
  exact ⟨_, rfl, World.ownsRow_nil _ _ _ _, Below.refl _ _⟩

set_option maxRecDepth 100000 in
set_option maxHeartbeats 4000000 in
theorem walk_ok (p : Option Addr) (l : List Col) (cap : Nat) (t : ByteArray) (hl1 : l.length ≤ 100) (ht : t.size ≤ 131072) (hm : l.length ≤ 9223372036854775807) (c : List Col) (er : Int) (w : World) (hX : ColsIn w p l) (hok : schemaOK l = true)
    (h1 : ∀ W, Below w.heap.size w W → Calls Tryd.prog 5 #[.slice p l.length cap] W (FmtPost W (fmtS l)))
    (h2 : ∀ W, Below w.heap.size w W → Calls Tryd.prog 6 #[.slice p l.length cap] W (FmtPost W (fmtS l)))
    (h3 : ∀ W, Below w.heap.size w W → Calls Tryd.prog 7 #[.string ⟨(fmtS l).toArray⟩] W (ParseP W l 0))
    (hv : ∀ W, Below w.heap.size w W → Calls Tryd.prog 8 #[.slice p l.length cap] W (BoolPost W (schemaOK l)))
    (h4 : ∀ W, Below w.heap.size w W → Calls Tryd.prog 7 #[.string t] W (ParseP W c er))
    (h5 : ∀ W, Below w.heap.size w W → Calls Tryd.prog 10 #[.string t] W (ParseP W c er))
    (ha : ∀ W, Below w.heap.size w W → Calls Tryd.prog 4 #[] W fun e w' => e = .returned (.bool true) ∧ Below W.heap.size W w') :
    Calls Tryd.prog 3 #[.slice p l.length cap, .string t] w fun e w' => e = .returned (.bool true) ∧ Below w.heap.size w w' := by
  have g1 : (l.length : Int) ≤ 100 := by omega
  have g2 : (t.size : Int) ≤ 131072 := by omega
  rw [hok] at hv
  have H1 := Lib.hid h1
  have H2 := Lib.hid h2
  have H3 := Lib.hid h3
  have H4 := Lib.hid h4
  have H5 := Lib.hid h5
  have HV := Lib.hid hv
  have HA := Lib.hid ha
  have HX := Lib.hid fun W (h : Below w.heap.size w W) => hX.belowV h
  have HS := Lib.hid SameC_any
  have HB0 := Lib.hid (Below.refl w.heap.size w)
  unfold FmtPost at H1 H2
  generalize (⟨(fmtS l).toArray⟩ : ByteArray) = a at H1 H2 H3
  clear h1 h2 h3 h4 h5 hv ha hX hok
  go_enter Tryd.func3, Tryd.ntmps3
  go_wp2_with fail
  refine (H1.out _ HB0.out).mono ?_
  rintro e w1 ⟨rfl, k1⟩
  have HB1 := Lib.hid k1
  clear k1 H1
  go_wp2_with fail
  refine (H2.out _ HB1.out).mono ?_
  rintro e w2 ⟨rfl, k2⟩
  have HB2 := Lib.hid (HB1.out.trans (k2.mono HB1.out.size))
  clear k2 H2
  go_wp2_with fail
  refine (H3.out _ HB2.out).mono ?_
  rintro e w3 ⟨v3, rfl, o3, k3⟩
  obtain ⟨q3, c3, rfl, _, _⟩ := slice_of_ownsC o3
  have HB3 := Lib.hid (HB2.out.trans (k3.mono HB2.out.size))
  have HO3 := Lib.hid o3
  clear k3 H3 o3
  go_wp2_with fail
  refine (HV.out _ HB3.out).mono ?_
  rintro e w4 ⟨rfl, k4⟩
  have HB4 := Lib.hid (HB3.out.trans (k4.mono HB3.out.size))
  have HO4 := Lib.hid (owns_below HO3.out k4)
  clear k4 HV HO3
  go_wp2_with fail
  have hSA := HS.out q3 p l c3 cap l.length rfl hm w4 (colsIn_of_owns HO4.out) (HX.out _ HB4.out)
  have HSA := Lib.hid hSA
  clear hSA
  refine HSA.out.mono ?_
  rintro e w5 ⟨rfl, k5⟩
  have HB5 := Lib.hid (HB4.out.trans (k5.mono HB4.out.size))
  clear k5 HSA
  go_wp2_with fail
  refine (H4.out _ HB5.out).mono ?_
  rintro e w6 ⟨v6, rfl, o6, k6⟩
  obtain ⟨q6, c6, rfl, _, _⟩ := slice_of_ownsC o6
  have HB6 := Lib.hid (HB5.out.trans (k6.mono HB5.out.size))
  have HO6 := Lib.hid o6
  clear k6 H4 o6
  go_wp2_with fail
  refine (H5.out _ HB6.out).mono ?_
  rintro e w7 ⟨v7, rfl, o7, k7⟩
  obtain ⟨q7, c7, rfl, _, _⟩ := slice_of_ownsC o7
  have HB7 := Lib.hid (HB6.out.trans (k7.mono HB6.out.size))
  have HO7 := Lib.hid (owns_below HO6.out k7)
  have HP7 := Lib.hid o7
  have hcl := (owns_cap o7)
  have hS := HS.out q6 q7 c c6 c7 c.length rfl (by have := hcl; unfold maxLen at this; omega) w7 (colsIn_of_owns HO7.out) (colsIn_of_owns HP7.out)
  have HSB := Lib.hid hS
  clear k7 H5 o7 hS hcl
  go_wp2_with fail
  refine HSB.out.mono ?_
  rintro e w8 ⟨rfl, k8⟩
  have HB8 := Lib.hid (HB7.out.trans (k8.mono HB7.out.size))
  clear k8 HSB
  go_wp2_with fail
  refine (HA.out _ HB8.out).mono ?_
  rintro e w9 ⟨rfl, k9⟩
  have HF := Lib.hid (HB8.out.trans (k9.mono HB8.out.size))
  clear k9
  go_wp2_with fail
  go_ret
  exact ⟨rfl, HF.out⟩

set_option maxRecDepth 100000 in
set_option maxHeartbeats 4000000 in
theorem walk_no (p : Option Addr) (l : List Col) (cap : Nat) (t : ByteArray) (hl1 : l.length ≤ 100) (ht : t.size ≤ 131072) (hm : l.length ≤ 9223372036854775807) (c : List Col) (er : Int) (w : World) (hX : ColsIn w p l) (hok : schemaOK l = false)
    (h1 : ∀ W, Below w.heap.size w W → Calls Tryd.prog 5 #[.slice p l.length cap] W (FmtPost W (fmtS l)))
    (h2 : ∀ W, Below w.heap.size w W → Calls Tryd.prog 6 #[.slice p l.length cap] W (FmtPost W (fmtS l)))
    (h3 : ∀ W, Below w.heap.size w W → Calls Tryd.prog 7 #[.string ⟨(fmtS l).toArray⟩] W (ParseP W [] 2))
    (hv : ∀ W, Below w.heap.size w W → Calls Tryd.prog 8 #[.slice p l.length cap] W (BoolPost W (schemaOK l)))
    (h4 : ∀ W, Below w.heap.size w W → Calls Tryd.prog 7 #[.string t] W (ParseP W c er))
    (h5 : ∀ W, Below w.heap.size w W → Calls Tryd.prog 10 #[.string t] W (ParseP W c er))
    (ha : ∀ W, Below w.heap.size w W → Calls Tryd.prog 4 #[] W fun e w' => e = .returned (.bool true) ∧ Below W.heap.size W w') :
    Calls Tryd.prog 3 #[.slice p l.length cap, .string t] w fun e w' => e = .returned (.bool true) ∧ Below w.heap.size w w' := by
  have g1 : (l.length : Int) ≤ 100 := by omega
  have g2 : (t.size : Int) ≤ 131072 := by omega
  rw [hok] at hv
  have H1 := Lib.hid h1
  have H2 := Lib.hid h2
  have H3 := Lib.hid h3
  have H4 := Lib.hid h4
  have H5 := Lib.hid h5
  have HV := Lib.hid hv
  have HA := Lib.hid ha
  have HX := Lib.hid fun W (h : Below w.heap.size w W) => hX.belowV h
  have HS := Lib.hid SameC_any
  have HB0 := Lib.hid (Below.refl w.heap.size w)
  unfold FmtPost at H1 H2
  generalize (⟨(fmtS l).toArray⟩ : ByteArray) = a at H1 H2 H3
  clear h1 h2 h3 h4 h5 hv ha hX hok
  go_enter Tryd.func3, Tryd.ntmps3
  go_wp2_with fail
  refine (H1.out _ HB0.out).mono ?_
  rintro e w1 ⟨rfl, k1⟩
  have HB1 := Lib.hid k1
  clear k1 H1
  go_wp2_with fail
  refine (H2.out _ HB1.out).mono ?_
  rintro e w2 ⟨rfl, k2⟩
  have HB2 := Lib.hid (HB1.out.trans (k2.mono HB1.out.size))
  clear k2 H2
  go_wp2_with fail
  refine (H3.out _ HB2.out).mono ?_
  rintro e w3 ⟨v3, rfl, o3, k3⟩
  obtain ⟨q3, c3, rfl, _, _⟩ := slice_of_ownsC o3
  have HB3 := Lib.hid (HB2.out.trans (k3.mono HB2.out.size))
  have HO3 := Lib.hid o3
  clear k3 H3 o3
  go_wp2_with fail
  refine (HV.out _ HB3.out).mono ?_
  rintro e w4 ⟨rfl, k4⟩
  have HB4 := Lib.hid (HB3.out.trans (k4.mono HB3.out.size))
  have HO4 := Lib.hid (owns_below HO3.out k4)
  clear k4 HV HO3
  go_wp2_with fail
  have HB5 := HB4
  refine (H4.out _ HB5.out).mono ?_
  rintro e w6 ⟨v6, rfl, o6, k6⟩
  obtain ⟨q6, c6, rfl, _, _⟩ := slice_of_ownsC o6
  have HB6 := Lib.hid (HB5.out.trans (k6.mono HB5.out.size))
  have HO6 := Lib.hid o6
  clear k6 H4 o6
  go_wp2_with fail
  refine (H5.out _ HB6.out).mono ?_
  rintro e w7 ⟨v7, rfl, o7, k7⟩
  obtain ⟨q7, c7, rfl, _, _⟩ := slice_of_ownsC o7
  have HB7 := Lib.hid (HB6.out.trans (k7.mono HB6.out.size))
  have HO7 := Lib.hid (owns_below HO6.out k7)
  have HP7 := Lib.hid o7
  have hcl := (owns_cap o7)
  have hS := HS.out q6 q7 c c6 c7 c.length rfl (by have := hcl; unfold maxLen at this; omega) w7 (colsIn_of_owns HO7.out) (colsIn_of_owns HP7.out)
  have HSB := Lib.hid hS
  clear k7 H5 o7 hS hcl
  go_wp2_with fail
  refine HSB.out.mono ?_
  rintro e w8 ⟨rfl, k8⟩
  have HB8 := Lib.hid (HB7.out.trans (k8.mono HB7.out.size))
  clear k8 HSB
  go_wp2_with fail
  refine (HA.out _ HB8.out).mono ?_
  rintro e w9 ⟨rfl, k9⟩
  have HF := Lib.hid (HB8.out.trans (k9.mono HB8.out.size))
  clear k9
  go_wp2_with fail
  go_ret
  exact ⟨rfl, HF.out⟩

set_option maxRecDepth 100000 in
theorem walk_big (p : Option Addr) (l : List Col) (cap : Nat) (t : ByteArray) (h : 100 < l.length ∨ 131072 < t.size) (w : World)
    (ha : ∀ W, Below w.heap.size w W → Calls Tryd.prog 4 #[] W fun e w' => e = .returned (.bool true) ∧ Below W.heap.size W w') :
    Calls Tryd.prog 3 #[.slice p l.length cap, .string t] w fun e w' => e = .returned (.bool true) ∧ Below w.heap.size w w' := by
  have HA := Lib.hid ha
  have HB0 := Lib.hid (Below.refl w.heap.size w)
  clear ha
  by_cases h1 : 100 < l.length
  · have g1 : (100 : Int) < (l.length : Int) := by omega
    go_enter Tryd.func3, Tryd.ntmps3
    go_wp2_with fail
    refine (HA.out _ HB0.out).mono ?_
    rintro e w9 ⟨rfl, k9⟩
    have HF := Lib.hid k9
    clear k9
    go_wp2_with fail
    go_ret
    exact ⟨rfl, HF.out⟩
  · have g1 : ¬ ((100 : Int) < (l.length : Int)) := by omega
    have g2 : (131072 : Int) < (t.size : Int) := by omega
    go_enter Tryd.func3, Tryd.ntmps3
    go_wp2_with fail
    refine (HA.out _ HB0.out).mono ?_
    rintro e w9 ⟨rfl, k9⟩
    have HF := Lib.hid k9
    clear k9
    go_wp2_with fail
    go_ret
    exact ⟨rfl, HF.out⟩
theorem walk (p : Option Addr) (l : List Col) (cap : Nat) (t : ByteArray) (hcap : l.length ≤ cap) (hcm : cap ≤ 9223372036854775807) (hsz : ∀ j, (colAt l j).1.size ≤ maxLen) (m : Int) (w : World) (hX : ColsIn w p l) (hT : Tab w.heap.size w) (hM : w.cell? ⟨0, 0, none⟩ = some (.int .i64 m)) :
    Calls Tryd.prog 3 #[.slice p l.length cap, .string t] w fun e w' => e = .returned (.bool true) ∧ Below w.heap.size w w' := by
  have hMl := World.block_lt_of_cell? w _ hM
  have hMB : ∀ W, Below w.heap.size w W → W.cell? ⟨0, 0, none⟩ = some (.int .i64 m) := fun W h => (h.cell (p := ⟨0, 0, none⟩) hMl).trans hM
  have ha : ∀ W, Below w.heap.size w W → Calls Tryd.prog 4 #[] W fun e w' => e = .returned (.bool true) ∧ Below W.heap.size W w' := fun W h => awake_any _ (hT.up h h.size)
  by_cases hb : 100 < l.length ∨ 131072 < t.size
  · exact walk_big p l cap t hb w ha
  have hP : ∃ c er, (∀ W, Below w.heap.size w W → Calls Tryd.prog 7 #[.string t] W (ParseP W c er)) ∧ (∀ W, Below w.heap.size w W → Calls Tryd.prog 10 #[.string t] W (ParseP W c er)) := by
    by_cases h6 : 65536 < t.size
    · exact ⟨[], 3, fun W _ => row_long t h6 W, fun W _ => ref_long t h6 W⟩
    by_cases hp : ∃ c, isS t.data.toList c
    · obtain ⟨c, hp⟩ := hp
      exact ⟨c, 0, fun W h => row_good t c hp m W (hMB W h), fun W _ => ref_good t c hp W⟩
    · have hn : ∀ c, ¬ isS t.data.toList c := fun c h => hp ⟨c, h⟩
      exact ⟨[], 2, fun W h => row_bad t (by omega) hn m W (hMB W h), fun W _ => ref_bad t (by omega) hn W⟩
  obtain ⟨c, er, h4, h5⟩ := hP
  have h1 := fun W (h : Below w.heap.size w W) => rowFormat_any p l cap (by omega) hsz W (hX.belowV h)
  have h2 := fun W (h : Below w.heap.size w W) => refFormat_any p l cap hcap hcm hsz W (hX.belowV h)
  have hv := fun W (h : Below w.heap.size w W) => refSchema_any p l cap hcap (by omega) hcm hsz W (hX.belowV h)
  cases hok : schemaOK l with
  | true =>
    have hp : isS (⟨(fmtS l).toArray⟩ : ByteArray).data.toList l := ⟨hok, by rw [fmt_data]; unfold fmtS; rw [if_pos hok]⟩
    exact walk_ok p l cap t (by omega) (by omega) (by omega) c er w hX hok h1 h2 (fun W h => row_good _ l hp m W (hMB W h)) hv h4 h5 ha
  | false =>
    have he : fmtS l = [] := by unfold fmtS; rw [hok]; rfl
    have hn : ∀ c, ¬ isS (⟨(fmtS l).toArray⟩ : ByteArray).data.toList c := by
      rw [fmt_data, he]
      rintro c ⟨h8, h9⟩
      exact (schT_len h8).2 h9
    exact walk_no p l cap t (by omega) (by omega) (by omega) c er w hX hok h1 h2 (fun W h => row_bad _ (by have := fmt_small l; omega) hn m W (hMB W h)) hv h4 h5 ha
end Go.Proofs.YtlhhkiglpehnfaaDoor.rowSchemaTexts
