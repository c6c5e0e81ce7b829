/-
  Format of the document's own rows, at a schema.
-/
import Derived.Test.YtlhhkiglpehnfaaDoorSb
namespace Go.Proofs.YtlhhkiglpehnfaaDoor
open Go.RowKit
set_option linter.unusedSimpArgs false
set_option linter.unusedVariables false

theorem join_next {l : List Col} {i : Nat} (h : i < l.length) (h0 : 0 < i) : Lib.join ((l.take (i + 1)).map colT) [44, 32] = Lib.join ((l.take i).map colT) [44, 32] ++ [44, 32] ++ colT (colAt l i) := by
  have hc : colAt l i = l[i] := by unfold colAt; rw [List.getElem?_eq_getElem h]; rfl
  rw [List.take_succ_eq_append_getElem h, List.map_append, hc]
  match l, i, h, h0 with
  | c :: r, i + 1, h, _ =>
    rw [List.take_succ_cons, List.map_cons, List.cons_append, Lib.join_cons, Lib.join_cons]
    simp [Lib.joinTail]
theorem join_first {l : List Col} (h : 0 < l.length) : Lib.join ((l.take 1).map colT) [44, 32] = colT (colAt l 0) := by
  match l, h with
  | c :: r, _ => simp [Lib.join_one, colAt]

set_option maxRecDepth 100000 in
set_option maxHeartbeats 2000000 in
theorem refFormat_no (p : Option Addr) (l : List Col) (cap : Nat) (hcap : l.length ≤ cap) (hmc : cap ≤ 9223372036854775807) (hsz : ∀ j, (colAt l j).1.size ≤ maxLen) (hok : schemaOK l = false) (w : World) (hX : ColsIn w p l) :
    Calls Tryd.prog 6 #[.slice p l.length cap] w (FmtPost w []) := by
  have HV := Lib.hid (refSchema_any p l cap hcap (by omega) hmc hsz w hX)
  rw [hok] at HV
  clear hok
  go_enter Tryd.func6, Tryd.ntmps6
  go_wp2_with fail
  refine HV.out.mono ?_
  rintro e w1 ⟨rfl, hb1⟩
  have HB := Lib.hid hb1
  clear hb1
  go_wp2_with fail
  go_ret
  exact ⟨rfl, HB.out⟩

set_option maxRecDepth 100000 in
set_option maxHeartbeats 2000000 in
theorem refFormat_ok (p : Option Addr) (l : List Col) (cap : Nat) (hcap : l.length ≤ cap) (hmc : cap ≤ 9223372036854775807) (hsz : ∀ j, (colAt l j).1.size ≤ maxLen) (hok : schemaOK l = true) (w : World) (hX : ColsIn w p l) :
    Calls Tryd.prog 6 #[.slice p l.length cap] w (FmtPost w (schT l)) := by
  have HV := Lib.hid (refSchema_any p l cap hcap (by omega) hmc hsz w hX)
  rw [hok] at HV
  have h8 := (schemaOK_is hok).2.1
  have h1 := (schemaOK_is hok).1
  have HOK := Lib.hid hok
  have HX := Lib.hid hX
  clear hok hX
  go_enter Tryd.func6, Tryd.ntmps6
  go_wp2_with fail
  refine HV.out.mono ?_
  rintro e w1 ⟨rfl, hb1⟩
  have HB1 := Lib.hid hb1
  clear hb1 HV
  go_wp2_with fail
  go_loopw [3, 4] (fun o s wr => ∃ (i : Nat) (t : ByteArray), o = .string t ∧ s = .int .i64 i ∧ i ≤ l.length ∧ t.size ≤ 30 * i ∧ Hid (t.data.toList = Lib.join ((l.take i).map colT) [44, 32]) ∧ Hid (Below w.heap.size w wr)) (fun _ s _ => l.length - (intOf s).toNat)
  case atStart => exact ⟨0, ⟨#[]⟩, rfl, rfl, Nat.zero_le _, Nat.le_refl _, rfl, HB1.out⟩
  case round =>
    clear HB1
    obtain ⟨i, t, rfl, rfl, hin, ht, HT, HB⟩ := hrel
    by_cases hlt : i < l.length
    · obtain ⟨b, off, rfl, hbl, hra⟩ := HX.out (by omega)
      obtain ⟨c0, c1⟩ := (hra.belowV HB.out hbl) i hlt
      have hfi : fine (colAt l i) := fine_of HOK.out _ (by unfold colAt; rw [List.getElem?_eq_getElem hlt]; exact List.getElem_mem hlt)
      have hn16 := (fine_len hfi).2
      have hk := hfi.2
      have hi0 : (0 : Int) ≤ (i : Int) := by omega
      have hi1 : (i : Int) < (l.length : Int) := by omega
      have hNX := @join_next l i hlt
      have hFX := @join_first l
      rw [← HT.out] at hNX
      clear hra hfi
      have hz : i = 0 → t = ⟨#[]⟩ := fun h => by
        subst h
        have := HT.out
        cases t with
        | mk d => simp only [List.take_zero, List.map_nil, Lib.join_nil] at this; rw [ByteArray.mk.injEq]; exact Array.toList_inj.1 this
      by_cases h0 : i = 0
      · subst h0
        obtain rfl := hz rfl
        have hFX := hFX hlt
        generalize colAt l 0 = col at c0 c1 hFX hn16 hk
        obtain ⟨nm, kd⟩ := col
        dsimp only at c0 c1 hn16 hk
        have hn17 : nm.size ≤ 16 := by simpa using hn16
        simp only [Nat.zero_mul, Nat.add_zero] at c0 c1
        have hi2 : (0 : Int) < (l.length : Int) := by omega
        have hi3 : 0 < l.length := by omega
        rcases hk with rfl | rfl
        · have hA3 : ¬ (9223372036854775807 < nm.size + 1 + 3) := by omega
          have hA1 : ¬ (9223372036854775807 < nm.size) := by omega
          have hA2 : ¬ (9223372036854775807 < nm.size + 1) := by omega
          have HW := Lib.hid (show ((⟨#[]⟩ : ByteArray) ++ nm ++ ⟨#[32]⟩ ++ ⟨#[105, 110, 116]⟩ : ByteArray).data.toList = Lib.join ((l.take (0 + 1)).map colT) [44, 32] by
            rw [hFX]; simp [colT, kindT, ByteArray.data_append])
          have HZ := Lib.hid (show ((⟨#[]⟩ : ByteArray) ++ nm ++ ⟨#[32]⟩ ++ ⟨#[105, 110, 116]⟩ : ByteArray).size ≤ 30 * (0 + 1) by simp only [ByteArray.size_append]; have e1 : (⟨#[32]⟩ : ByteArray).size = 1 := rfl; have e2 : (⟨#[105, 110, 116]⟩ : ByteArray).size = 3 := rfl; have e3 : (⟨#[44, 32]⟩ : ByteArray).size = 2 := rfl; have e4 : (⟨#[]⟩ : ByteArray).size = 0 := rfl; omega)
          clear hFX hNX hz
          go_wp2_with fail
          go_roundw
          case rel => exact ⟨0 + 1, _, rfl, by go_num, by omega, HZ.out, HW.out, HB.out⟩
          case measure => simp [intOf]; omega
        · have hA3 : ¬ (9223372036854775807 < nm.size + 1 + 4) := by omega
          have hA1 : ¬ (9223372036854775807 < nm.size) := by omega
          have hA2 : ¬ (9223372036854775807 < nm.size + 1) := by omega
          have HW := Lib.hid (show ((⟨#[]⟩ : ByteArray) ++ nm ++ ⟨#[32]⟩ ++ ⟨#[116, 101, 120, 116]⟩ : ByteArray).data.toList = Lib.join ((l.take (0 + 1)).map colT) [44, 32] by
            rw [hFX]; simp [colT, kindT, ByteArray.data_append])
          have HZ := Lib.hid (show ((⟨#[]⟩ : ByteArray) ++ nm ++ ⟨#[32]⟩ ++ ⟨#[116, 101, 120, 116]⟩ : ByteArray).size ≤ 30 * (0 + 1) by simp only [ByteArray.size_append]; have e1 : (⟨#[32]⟩ : ByteArray).size = 1 := rfl; have e2 : (⟨#[116, 101, 120, 116]⟩ : ByteArray).size = 4 := rfl; have e3 : (⟨#[44, 32]⟩ : ByteArray).size = 2 := rfl; have e4 : (⟨#[]⟩ : ByteArray).size = 0 := rfl; omega)
          clear hFX hNX hz
          go_wp2_with fail
          go_roundw
          case rel => exact ⟨0 + 1, _, rfl, by go_num, by omega, HZ.out, HW.out, HB.out⟩
          case measure => simp [intOf]; omega
      · have hp0 : (0 : Int) < (i : Int) := by omega
        have hNX := hNX (by omega)
        generalize colAt l i = col at c0 c1 hNX hn16 hk
        obtain ⟨nm, kd⟩ := col
        dsimp only at c0 c1 hn16 hk
        have hn17 : nm.size ≤ 16 := by simpa using hn16
        have hA0 : ¬ (9223372036854775807 < t.size + 2) := by omega
        have hA1 : ¬ (9223372036854775807 < t.size + 2 + nm.size) := by omega
        have hA2 : ¬ (9223372036854775807 < t.size + 2 + nm.size + 1) := by omega
        rcases hk with rfl | rfl
        · have hA3 : ¬ (9223372036854775807 < t.size + 2 + nm.size + 1 + 3) := by omega
          have HW := Lib.hid (show (t ++ ⟨#[44, 32]⟩ ++ nm ++ ⟨#[32]⟩ ++ ⟨#[105, 110, 116]⟩ : ByteArray).data.toList = Lib.join ((l.take (i + 1)).map colT) [44, 32] by
            rw [hNX]; simp [colT, kindT, ByteArray.data_append])
          have HZ := Lib.hid (show (t ++ ⟨#[44, 32]⟩ ++ nm ++ ⟨#[32]⟩ ++ ⟨#[105, 110, 116]⟩ : ByteArray).size ≤ 30 * (i + 1) by simp only [ByteArray.size_append]; have e1 : (⟨#[32]⟩ : ByteArray).size = 1 := rfl; have e2 : (⟨#[105, 110, 116]⟩ : ByteArray).size = 3 := rfl; have e3 : (⟨#[44, 32]⟩ : ByteArray).size = 2 := rfl; have e4 : (⟨#[]⟩ : ByteArray).size = 0 := rfl; omega)
          clear hFX hNX hz
          go_wp2_with fail
          go_roundw
          case rel => exact ⟨i + 1, _, rfl, by go_num, by omega, HZ.out, HW.out, HB.out⟩
          case measure => simp [intOf]; omega
        · have hA3 : ¬ (9223372036854775807 < t.size + 2 + nm.size + 1 + 4) := by omega
          have HW := Lib.hid (show (t ++ ⟨#[44, 32]⟩ ++ nm ++ ⟨#[32]⟩ ++ ⟨#[116, 101, 120, 116]⟩ : ByteArray).data.toList = Lib.join ((l.take (i + 1)).map colT) [44, 32] by
            rw [hNX]; simp [colT, kindT, ByteArray.data_append])
          have HZ := Lib.hid (show (t ++ ⟨#[44, 32]⟩ ++ nm ++ ⟨#[32]⟩ ++ ⟨#[116, 101, 120, 116]⟩ : ByteArray).size ≤ 30 * (i + 1) by simp only [ByteArray.size_append]; have e1 : (⟨#[32]⟩ : ByteArray).size = 1 := rfl; have e2 : (⟨#[116, 101, 120, 116]⟩ : ByteArray).size = 4 := rfl; have e3 : (⟨#[44, 32]⟩ : ByteArray).size = 2 := rfl; have e4 : (⟨#[]⟩ : ByteArray).size = 0 := rfl; omega)
          clear hFX hNX hz
          go_wp2_with fail
          go_roundw
          case rel => exact ⟨i + 1, _, rfl, by go_num, by omega, HZ.out, HW.out, HB.out⟩
          case measure => simp [intOf]; omega
    · have hie : i = l.length := by omega
      have HF := Lib.hid (show (⟨(schT l).toArray⟩ : ByteArray) = t by
        have := HT.out
        rw [hie, List.take_length] at this
        cases t with
        | mk d => rw [ByteArray.mk.injEq]; apply Array.toList_inj.1; exact this.symm)
      clear hie
      go_wp2_with fail
      go_ret
      exact ⟨by rw [HF.out]; rfl, HB.out⟩
theorem refFormat_any (p : Option Addr) (l : List Col) (cap : Nat) (hcap : l.length ≤ cap) (hmc : cap ≤ 9223372036854775807) (hsz : ∀ j, (colAt l j).1.size ≤ maxLen) (w : World) (hX : ColsIn w p l) :
    Calls Tryd.prog 6 #[.slice p l.length cap] w (FmtPost w (fmtS l)) := by
  unfold fmtS
  cases hok : schemaOK l with
  | true => exact refFormat_ok p l cap hcap hmc hsz hok w hX
  | false => exact refFormat_no p l cap hcap hmc hsz hok w hX
end Go.Proofs.YtlhhkiglpehnfaaDoor
