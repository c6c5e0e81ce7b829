/-
  The document's own order of values, as a contract.
-/
import Derived.Test.YtledgnolmiecfaaGreatDoorCmp
import Derived.Deep.RegionHeld3
namespace Go.Proofs.YtledgnolmiecfaaGreatDoor
open Go.RowKit
set_option linter.unusedSimpArgs false

theorem bytes_zero : ∀ x y, Lib.compareBytes x y = 0 ↔ x = y
  | [], [] => by simp [Lib.compareBytes]
  | [], _ :: _ => by simp [Lib.compareBytes]
  | _ :: _, [] => by simp [Lib.compareBytes]
  | a :: x, b :: y => by
    have ih := bytes_zero x y
    simp only [Lib.compareBytes, List.cons.injEq]
    by_cases h1 : a < b
    · rw [if_pos h1]
      constructor
      · intro h; omega
      · rintro ⟨rfl, _⟩; exact absurd h1 (UInt8.lt_irrefl a)
    · rw [if_neg h1]
      by_cases h2 : b < a
      · rw [if_pos h2]
        constructor
        · intro h; omega
        · rintro ⟨rfl, _⟩; exact absurd h2 (UInt8.lt_irrefl a)
      · rw [if_neg h2, ih]
        have e : a = b := by
          rw [UInt8.lt_iff_toNat_lt] at h1 h2
          exact UInt8.toNat_inj.1 (by omega)
        simp [e]
theorem bytes_less : ∀ x y, Op.bytesLess x y = decide (Lib.compareBytes x y = -1)
  | [], [] => by simp [Lib.compareBytes, Op.bytesLess]
  | [], _ :: _ => by simp [Lib.compareBytes, Op.bytesLess]
  | _ :: _, [] => by simp [Lib.compareBytes, Op.bytesLess]
  | a :: x, b :: y => by
    have ih := bytes_less x y
    simp only [Lib.compareBytes, Op.bytesLess]
    by_cases h1 : a < b
    · simp [h1]
    · by_cases h2 : b < a
      · have hne : a ≠ b := fun e => by subst e; exact h1 h2
        simp [h1, h2, hne]
      · have e : a = b := by
          rw [UInt8.lt_iff_toNat_lt] at h1 h2
          exact UInt8.toNat_inj.1 (by omega)
        simp [e, ih]
theorem less_S (s r : ByteArray) : Op.bytesLess s.toList r.toList = decide (Lib.compareBytes s.data.toList r.data.toList = -1) := by
  rw [ByteArray.toList_eq, ByteArray.toList_eq, bytes_less]
theorem eq_S (s r : ByteArray) : (s.toList == r.toList) = decide (Lib.compareBytes s.data.toList r.data.toList = 0) := by
  rw [ByteArray.toList_eq, ByteArray.toList_eq, Bool.eq_iff_iff, beq_iff_eq, decide_eq_true_iff, bytes_zero]

set_option maxRecDepth 100000 in
set_option maxHeartbeats 2000000 in
theorem refCmpVal_any (k n l m : Int) (s r : ByteArray) (w : World) : Calls Tryz.prog 46 #[.agg #[.int .i64 k, .int .i64 n, .string s], .agg #[.int .i64 l, .int .i64 m, .string r]] w (BelowInt w (cmpVal (k, n, s) (l, m, r))) := by
  have hcc := cls_cases k
  have hcv : cmpVal (k, n, s) (l, m, r) = if cls k = cls l then (if cls k = 1 then Lib.compareInt n m else if cls k = 2 then Lib.compareBytes s.data.toList r.data.toList else 0) else Lib.compareInt (cls k) (cls l) := rfl
  have HCV := Lib.hid hcv
  clear hcv
  have hW : ∃ W2 : World, (w.alloc (.cells #[.int .i64 k, .int .i64 n, .string s] 40)).alloc (.cells #[.int .i64 l, .int .i64 m, .string r] 40) = W2 ∧ Below w.heap.size w W2 ∧ Blk W2 w.heap.size 40 #[.int .i64 k, .int .i64 n, .string s] ∧ Blk W2 (w.heap.size + 1) 40 #[.int .i64 l, .int .i64 m, .string r] := by
    refine ⟨_, rfl, two_below _ _ _ _ _, ?_, ?_⟩
    · have b2 : Below (w.heap.size + 1) (w.alloc (.cells #[.int .i64 k, .int .i64 n, .string s] 40)) ((w.alloc (.cells #[.int .i64 k, .int .i64 n, .string s] 40)).alloc (.cells #[.int .i64 l, .int .i64 m, .string r] 40)) := (Below.refl _ _).alloc (by simp) _
      exact (Blk.new w _ _).belowV b2 (by omega)
    · have e1 : (w.alloc (.cells #[.int .i64 k, .int .i64 n, .string s] 40)).heap.size = w.heap.size + 1 := by simp
      have := Blk.new (w.alloc (.cells #[.int .i64 k, .int .i64 n, .string s] 40)) 40 #[.int .i64 l, .int .i64 m, .string r]
      rw [e1] at this
      exact this
  obtain ⟨W2, hW2, hBA, kx, ky⟩ := hW
  have HW := Lib.hid hW2
  have hS : ∀ w' : World, Below W2.heap.size W2 w' → (Below W2.heap.size W2 w' ∧ w'.cell? ⟨w.heap.size, 0, none⟩ = some (.int .i64 k) ∧ w'.cell? ⟨w.heap.size, 1, none⟩ = some (.int .i64 n) ∧ w'.cell? ⟨w.heap.size, 2, none⟩ = some (.string s) ∧ w'.cell? ⟨w.heap.size + 1, 0, none⟩ = some (.int .i64 l) ∧ w'.cell? ⟨w.heap.size + 1, 1, none⟩ = some (.int .i64 m) ∧ w'.cell? ⟨w.heap.size + 1, 2, none⟩ = some (.string r)) := fun w' hb => ⟨hb, (hb.cell (p := ⟨w.heap.size, 0, none⟩) kx.lt).trans (kx.cell 0), (hb.cell (p := ⟨w.heap.size, 1, none⟩) kx.lt).trans (kx.cell 1), (hb.cell (p := ⟨w.heap.size, 2, none⟩) kx.lt).trans (kx.cell 2), (hb.cell (p := ⟨w.heap.size + 1, 0, none⟩) ky.lt).trans (ky.cell 0), (hb.cell (p := ⟨w.heap.size + 1, 1, none⟩) ky.lt).trans (ky.cell 1), (hb.cell (p := ⟨w.heap.size + 1, 2, none⟩) ky.lt).trans (ky.cell 2)⟩
  have keepS : ∀ (u v : World), Below W2.heap.size W2 u → Below u.heap.size u v → Below W2.heap.size W2 v := fun u v h1 h2 => h1.trans (h2.mono h1.size)
  have HS := Lib.hid hS
  have HK := Lib.hid keepS
  have HBA := Lib.hid hBA
  have hWr : Below W2.heap.size W2 W2 := Below.refl _ _
  clear hS keepS kx ky hW2 hBA
  by_cases hab : cls k = cls l
  · have hne : (cls k != cls l) = false := by rw [bne_eq_false_iff_eq]; exact hab
    rw [if_pos hab] at HCV
    clear hab
    rcases hcc with hc | hc | hc
    · rw [if_neg (by omega), if_neg (by omega)] at HCV
      have g1 : (cls k == 1) = false := by rw [hc]; rfl
      have g2 : (cls k == 2) = false := by rw [hc]; rfl
      clear hc
      go_enter Tryz.func46, Tryz.ntmps46
      go_wp2_with fail
      rw [HW.out]
      go_region_held3 (fun w' => Below W2.heap.size W2 w' ∧ w'.cell? ⟨w.heap.size, 0, none⟩ = some (.int .i64 k) ∧ w'.cell? ⟨w.heap.size, 1, none⟩ = some (.int .i64 n) ∧ w'.cell? ⟨w.heap.size, 2, none⟩ = some (.string s) ∧ w'.cell? ⟨w.heap.size + 1, 0, none⟩ = some (.int .i64 l) ∧ w'.cell? ⟨w.heap.size + 1, 1, none⟩ = some (.int .i64 m) ∧ w'.cell? ⟨w.heap.size + 1, 2, none⟩ = some (.string r)) (first | exact HS.out _ (HK.out _ _ (by assumption) (by assumption)) | exact HS.out _ (HK.out _ _ (And.left (by assumption)) (by assumption)) | exact HS.out _ (Below.drew (by assumption)) | exact HS.out _ (Below.drew (And.left (by assumption))) | assumption)
        (first
          | (go_at_call 64; refine (class_any _ _ _ _).mono ?_; rintro e w' ⟨rfl, hb⟩))
      have hB3 : Below W2.heap.size W2 w' := And.left (by assumption)
      obtain ⟨w3, rfl⟩ : ∃ w3 : World, w3 = w' := ⟨_, rfl⟩
      clear hWr
      obtain ⟨_, c0, c1, c2, d0, d1, d2⟩ := HS.out _ hB3
      go_wp2_with fail
      clear c0 c1 c2 d0 d1 d2
      refine (class_any k n s _).mono ?_
      rintro e w5 ⟨rfl, hb⟩
      have hB5 := HK.out _ _ hB3 hb
      clear hb hB3
      obtain ⟨_, c0, c1, c2, d0, d1, d2⟩ := HS.out _ hB5
      go_wp2_with fail
      clear c0 c1 c2 d0 d1 d2
      refine (class_any k n s _).mono ?_
      rintro e w6 ⟨rfl, hb⟩
      have hB6 := HK.out _ _ hB5 hb
      clear hb hB5
      obtain ⟨_, c0, c1, c2, d0, d1, d2⟩ := HS.out _ hB6
      go_wp2_with fail
      clear c0 c1 c2 d0 d1 d2
      refine (class_any k n s _).mono ?_
      rintro e w7 ⟨rfl, hb⟩
      have hB7 := HK.out _ _ hB6 hb
      clear hb hB6
      obtain ⟨_, c0, c1, c2, d0, d1, d2⟩ := HS.out _ hB7
      go_wp2_with fail
      clear c0 c1 c2 d0 d1 d2
      refine (class_any k n s _).mono ?_
      rintro e w8 ⟨rfl, hb⟩
      have hB8 := HK.out _ _ hB7 hb
      clear hb hB7
      obtain ⟨_, c0, c1, c2, d0, d1, d2⟩ := HS.out _ hB8
      go_wp2_with fail
      clear c0 c1 c2 d0 d1 d2
      go_ret
      exact ⟨by rw [HCV.out] <;> rfl, HBA.out.trans (hB8.mono HBA.out.size)⟩
    · rw [if_pos hc] at HCV
      have g1 : (cls k == 1) = true := by rw [hc]; rfl
      have g2 : (cls k == 2) = false := by rw [hc]; rfl
      clear hc
      by_cases hnm : n < m
      · have e : Lib.compareInt n m = -1 := by unfold Lib.compareInt; rw [if_pos hnm]
        rw [e] at HCV
        clear e
        go_enter Tryz.func46, Tryz.ntmps46
        go_wp2_with fail
        rw [HW.out]
        go_region_held3 (fun w' => Below W2.heap.size W2 w' ∧ w'.cell? ⟨w.heap.size, 0, none⟩ = some (.int .i64 k) ∧ w'.cell? ⟨w.heap.size, 1, none⟩ = some (.int .i64 n) ∧ w'.cell? ⟨w.heap.size, 2, none⟩ = some (.string s) ∧ w'.cell? ⟨w.heap.size + 1, 0, none⟩ = some (.int .i64 l) ∧ w'.cell? ⟨w.heap.size + 1, 1, none⟩ = some (.int .i64 m) ∧ w'.cell? ⟨w.heap.size + 1, 2, none⟩ = some (.string r)) (first | exact HS.out _ (HK.out _ _ (by assumption) (by assumption)) | exact HS.out _ (HK.out _ _ (And.left (by assumption)) (by assumption)) | exact HS.out _ (Below.drew (by assumption)) | exact HS.out _ (Below.drew (And.left (by assumption))) | assumption)
          (first
            | (go_at_call 64; refine (class_any _ _ _ _).mono ?_; rintro e w' ⟨rfl, hb⟩))
        have hB3 : Below W2.heap.size W2 w' := And.left (by assumption)
        obtain ⟨w3, rfl⟩ : ∃ w3 : World, w3 = w' := ⟨_, rfl⟩
        clear hWr
        obtain ⟨_, c0, c1, c2, d0, d1, d2⟩ := HS.out _ hB3
        go_wp2_with fail
        clear c0 c1 c2 d0 d1 d2
        refine (class_any k n s _).mono ?_
        rintro e w5 ⟨rfl, hb⟩
        have hB5 := HK.out _ _ hB3 hb
        clear hb hB3
        obtain ⟨_, c0, c1, c2, d0, d1, d2⟩ := HS.out _ hB5
        go_wp2_with fail
        clear c0 c1 c2 d0 d1 d2
        go_ret
        exact ⟨by rw [HCV.out] <;> rfl, HBA.out.trans (hB5.mono HBA.out.size)⟩
      · have f1 : decide (n < m) = false := by simpa using hnm
        by_cases hmn : m < n
        · have e : Lib.compareInt n m = 1 := by unfold Lib.compareInt; rw [if_neg hnm, if_pos hmn]
          rw [e] at HCV
          clear e hnm
          go_enter Tryz.func46, Tryz.ntmps46
          go_wp2_with fail
          rw [HW.out]
          go_region_held3 (fun w' => Below W2.heap.size W2 w' ∧ w'.cell? ⟨w.heap.size, 0, none⟩ = some (.int .i64 k) ∧ w'.cell? ⟨w.heap.size, 1, none⟩ = some (.int .i64 n) ∧ w'.cell? ⟨w.heap.size, 2, none⟩ = some (.string s) ∧ w'.cell? ⟨w.heap.size + 1, 0, none⟩ = some (.int .i64 l) ∧ w'.cell? ⟨w.heap.size + 1, 1, none⟩ = some (.int .i64 m) ∧ w'.cell? ⟨w.heap.size + 1, 2, none⟩ = some (.string r)) (first | exact HS.out _ (HK.out _ _ (by assumption) (by assumption)) | exact HS.out _ (HK.out _ _ (And.left (by assumption)) (by assumption)) | exact HS.out _ (Below.drew (by assumption)) | exact HS.out _ (Below.drew (And.left (by assumption))) | assumption)
            (first
              | (go_at_call 64; refine (class_any _ _ _ _).mono ?_; rintro e w' ⟨rfl, hb⟩))
          have hB3 : Below W2.heap.size W2 w' := And.left (by assumption)
          obtain ⟨w3, rfl⟩ : ∃ w3 : World, w3 = w' := ⟨_, rfl⟩
          clear hWr
          obtain ⟨_, c0, c1, c2, d0, d1, d2⟩ := HS.out _ hB3
          go_wp2_with fail
          clear c0 c1 c2 d0 d1 d2
          refine (class_any k n s _).mono ?_
          rintro e w5 ⟨rfl, hb⟩
          have hB5 := HK.out _ _ hB3 hb
          clear hb hB3
          obtain ⟨_, c0, c1, c2, d0, d1, d2⟩ := HS.out _ hB5
          go_wp2_with fail
          clear c0 c1 c2 d0 d1 d2
          refine (class_any k n s _).mono ?_
          rintro e w6 ⟨rfl, hb⟩
          have hB6 := HK.out _ _ hB5 hb
          clear hb hB5
          obtain ⟨_, c0, c1, c2, d0, d1, d2⟩ := HS.out _ hB6
          go_wp2_with fail
          clear c0 c1 c2 d0 d1 d2
          refine (class_any k n s _).mono ?_
          rintro e w7 ⟨rfl, hb⟩
          have hB7 := HK.out _ _ hB6 hb
          clear hb hB6
          obtain ⟨_, c0, c1, c2, d0, d1, d2⟩ := HS.out _ hB7
          go_wp2_with fail
          clear c0 c1 c2 d0 d1 d2
          go_ret
          exact ⟨by rw [HCV.out] <;> rfl, HBA.out.trans (hB7.mono HBA.out.size)⟩
        · have e : Lib.compareInt n m = 0 := by unfold Lib.compareInt; rw [if_neg hnm, if_neg hmn]
          have f2 : decide (m < n) = false := by simpa using hmn
          rw [e] at HCV
          clear e hnm hmn
          go_enter Tryz.func46, Tryz.ntmps46
          go_wp2_with fail
          rw [HW.out]
          go_region_held3 (fun w' => Below W2.heap.size W2 w' ∧ w'.cell? ⟨w.heap.size, 0, none⟩ = some (.int .i64 k) ∧ w'.cell? ⟨w.heap.size, 1, none⟩ = some (.int .i64 n) ∧ w'.cell? ⟨w.heap.size, 2, none⟩ = some (.string s) ∧ w'.cell? ⟨w.heap.size + 1, 0, none⟩ = some (.int .i64 l) ∧ w'.cell? ⟨w.heap.size + 1, 1, none⟩ = some (.int .i64 m) ∧ w'.cell? ⟨w.heap.size + 1, 2, none⟩ = some (.string r)) (first | exact HS.out _ (HK.out _ _ (by assumption) (by assumption)) | exact HS.out _ (HK.out _ _ (And.left (by assumption)) (by assumption)) | exact HS.out _ (Below.drew (by assumption)) | exact HS.out _ (Below.drew (And.left (by assumption))) | assumption)
            (first
              | (go_at_call 64; refine (class_any _ _ _ _).mono ?_; rintro e w' ⟨rfl, hb⟩))
          have hB3 : Below W2.heap.size W2 w' := And.left (by assumption)
          obtain ⟨w3, rfl⟩ : ∃ w3 : World, w3 = w' := ⟨_, rfl⟩
          clear hWr
          obtain ⟨_, c0, c1, c2, d0, d1, d2⟩ := HS.out _ hB3
          go_wp2_with fail
          clear c0 c1 c2 d0 d1 d2
          refine (class_any k n s _).mono ?_
          rintro e w5 ⟨rfl, hb⟩
          have hB5 := HK.out _ _ hB3 hb
          clear hb hB3
          obtain ⟨_, c0, c1, c2, d0, d1, d2⟩ := HS.out _ hB5
          go_wp2_with fail
          clear c0 c1 c2 d0 d1 d2
          refine (class_any k n s _).mono ?_
          rintro e w6 ⟨rfl, hb⟩
          have hB6 := HK.out _ _ hB5 hb
          clear hb hB5
          obtain ⟨_, c0, c1, c2, d0, d1, d2⟩ := HS.out _ hB6
          go_wp2_with fail
          clear c0 c1 c2 d0 d1 d2
          refine (class_any k n s _).mono ?_
          rintro e w7 ⟨rfl, hb⟩
          have hB7 := HK.out _ _ hB6 hb
          clear hb hB6
          obtain ⟨_, c0, c1, c2, d0, d1, d2⟩ := HS.out _ hB7
          go_wp2_with fail
          clear c0 c1 c2 d0 d1 d2
          refine (class_any k n s _).mono ?_
          rintro e w8 ⟨rfl, hb⟩
          have hB8 := HK.out _ _ hB7 hb
          clear hb hB7
          obtain ⟨_, c0, c1, c2, d0, d1, d2⟩ := HS.out _ hB8
          go_wp2_with fail
          clear c0 c1 c2 d0 d1 d2
          go_ret
          exact ⟨by rw [HCV.out] <;> rfl, HBA.out.trans (hB8.mono HBA.out.size)⟩
    · rw [if_neg (by omega), if_pos hc] at HCV
      have g1 : (cls k == 1) = false := by rw [hc]; rfl
      have g2 : (cls k == 2) = true := by rw [hc]; rfl
      clear hc
      have hL := less_S s r
      have hE := eq_S s r
      rcases bytes_ok.range s.data.toList r.data.toList with e | e | e
      · rw [e] at HCV hL hE
        clear e hE
        have hL' : Op.bytesLess s.toList r.toList = true := hL
        clear hL
        go_enter Tryz.func46, Tryz.ntmps46
        go_wp2_with fail
        rw [HW.out]
        go_region_held3 (fun w' => Below W2.heap.size W2 w' ∧ w'.cell? ⟨w.heap.size, 0, none⟩ = some (.int .i64 k) ∧ w'.cell? ⟨w.heap.size, 1, none⟩ = some (.int .i64 n) ∧ w'.cell? ⟨w.heap.size, 2, none⟩ = some (.string s) ∧ w'.cell? ⟨w.heap.size + 1, 0, none⟩ = some (.int .i64 l) ∧ w'.cell? ⟨w.heap.size + 1, 1, none⟩ = some (.int .i64 m) ∧ w'.cell? ⟨w.heap.size + 1, 2, none⟩ = some (.string r)) (first | exact HS.out _ (HK.out _ _ (by assumption) (by assumption)) | exact HS.out _ (HK.out _ _ (And.left (by assumption)) (by assumption)) | exact HS.out _ (Below.drew (by assumption)) | exact HS.out _ (Below.drew (And.left (by assumption))) | assumption)
          (first
            | (go_at_call 64; refine (class_any _ _ _ _).mono ?_; rintro e w' ⟨rfl, hb⟩))
        have hB3 : Below W2.heap.size W2 w' := And.left (by assumption)
        obtain ⟨w3, rfl⟩ : ∃ w3 : World, w3 = w' := ⟨_, rfl⟩
        clear hWr
        obtain ⟨_, c0, c1, c2, d0, d1, d2⟩ := HS.out _ hB3
        go_wp2_with fail
        clear c0 c1 c2 d0 d1 d2
        refine (class_any k n s _).mono ?_
        rintro e w5 ⟨rfl, hb⟩
        have hB5 := HK.out _ _ hB3 hb
        clear hb hB3
        obtain ⟨_, c0, c1, c2, d0, d1, d2⟩ := HS.out _ hB5
        go_wp2_with fail
        clear c0 c1 c2 d0 d1 d2
        refine (class_any k n s _).mono ?_
        rintro e w6 ⟨rfl, hb⟩
        have hB6 := HK.out _ _ hB5 hb
        clear hb hB5
        obtain ⟨_, c0, c1, c2, d0, d1, d2⟩ := HS.out _ hB6
        go_wp2_with fail
        clear c0 c1 c2 d0 d1 d2
        go_ret
        exact ⟨by rw [HCV.out] <;> rfl, HBA.out.trans (hB6.mono HBA.out.size)⟩
      · rw [e] at HCV hL hE
        clear e
        have hL' : Op.bytesLess s.toList r.toList = false := hL
        have hE' : (s.toList == r.toList) = true := hE
        clear hL hE
        go_enter Tryz.func46, Tryz.ntmps46
        go_wp2_with fail
        rw [HW.out]
        go_region_held3 (fun w' => Below W2.heap.size W2 w' ∧ w'.cell? ⟨w.heap.size, 0, none⟩ = some (.int .i64 k) ∧ w'.cell? ⟨w.heap.size, 1, none⟩ = some (.int .i64 n) ∧ w'.cell? ⟨w.heap.size, 2, none⟩ = some (.string s) ∧ w'.cell? ⟨w.heap.size + 1, 0, none⟩ = some (.int .i64 l) ∧ w'.cell? ⟨w.heap.size + 1, 1, none⟩ = some (.int .i64 m) ∧ w'.cell? ⟨w.heap.size + 1, 2, none⟩ = some (.string r)) (first | exact HS.out _ (HK.out _ _ (by assumption) (by assumption)) | exact HS.out _ (HK.out _ _ (And.left (by assumption)) (by assumption)) | exact HS.out _ (Below.drew (by assumption)) | exact HS.out _ (Below.drew (And.left (by assumption))) | assumption)
          (first
            | (go_at_call 64; refine (class_any _ _ _ _).mono ?_; rintro e w' ⟨rfl, hb⟩))
        have hB3 : Below W2.heap.size W2 w' := And.left (by assumption)
        obtain ⟨w3, rfl⟩ : ∃ w3 : World, w3 = w' := ⟨_, rfl⟩
        clear hWr
        obtain ⟨_, c0, c1, c2, d0, d1, d2⟩ := HS.out _ hB3
        go_wp2_with fail
        clear c0 c1 c2 d0 d1 d2
        refine (class_any k n s _).mono ?_
        rintro e w5 ⟨rfl, hb⟩
        have hB5 := HK.out _ _ hB3 hb
        clear hb hB3
        obtain ⟨_, c0, c1, c2, d0, d1, d2⟩ := HS.out _ hB5
        go_wp2_with fail
        clear c0 c1 c2 d0 d1 d2
        refine (class_any k n s _).mono ?_
        rintro e w6 ⟨rfl, hb⟩
        have hB6 := HK.out _ _ hB5 hb
        clear hb hB5
        obtain ⟨_, c0, c1, c2, d0, d1, d2⟩ := HS.out _ hB6
        go_wp2_with fail
        clear c0 c1 c2 d0 d1 d2
        refine (class_any k n s _).mono ?_
        rintro e w7 ⟨rfl, hb⟩
        have hB7 := HK.out _ _ hB6 hb
        clear hb hB6
        obtain ⟨_, c0, c1, c2, d0, d1, d2⟩ := HS.out _ hB7
        go_wp2_with fail
        clear c0 c1 c2 d0 d1 d2
        refine (class_any k n s _).mono ?_
        rintro e w8 ⟨rfl, hb⟩
        have hB8 := HK.out _ _ hB7 hb
        clear hb hB7
        obtain ⟨_, c0, c1, c2, d0, d1, d2⟩ := HS.out _ hB8
        go_wp2_with fail
        clear c0 c1 c2 d0 d1 d2
        go_ret
        exact ⟨by rw [HCV.out] <;> rfl, HBA.out.trans (hB8.mono HBA.out.size)⟩
      · rw [e] at HCV hL hE
        clear e
        have hL' : Op.bytesLess s.toList r.toList = false := hL
        have hE' : (s.toList == r.toList) = false := hE
        clear hL hE
        go_enter Tryz.func46, Tryz.ntmps46
        go_wp2_with fail
        rw [HW.out]
        go_region_held3 (fun w' => Below W2.heap.size W2 w' ∧ w'.cell? ⟨w.heap.size, 0, none⟩ = some (.int .i64 k) ∧ w'.cell? ⟨w.heap.size, 1, none⟩ = some (.int .i64 n) ∧ w'.cell? ⟨w.heap.size, 2, none⟩ = some (.string s) ∧ w'.cell? ⟨w.heap.size + 1, 0, none⟩ = some (.int .i64 l) ∧ w'.cell? ⟨w.heap.size + 1, 1, none⟩ = some (.int .i64 m) ∧ w'.cell? ⟨w.heap.size + 1, 2, none⟩ = some (.string r)) (first | exact HS.out _ (HK.out _ _ (by assumption) (by assumption)) | exact HS.out _ (HK.out _ _ (And.left (by assumption)) (by assumption)) | exact HS.out _ (Below.drew (by assumption)) | exact HS.out _ (Below.drew (And.left (by assumption))) | assumption)
          (first
            | (go_at_call 64; refine (class_any _ _ _ _).mono ?_; rintro e w' ⟨rfl, hb⟩))
        have hB3 : Below W2.heap.size W2 w' := And.left (by assumption)
        obtain ⟨w3, rfl⟩ : ∃ w3 : World, w3 = w' := ⟨_, rfl⟩
        clear hWr
        obtain ⟨_, c0, c1, c2, d0, d1, d2⟩ := HS.out _ hB3
        go_wp2_with fail
        clear c0 c1 c2 d0 d1 d2
        refine (class_any k n s _).mono ?_
        rintro e w5 ⟨rfl, hb⟩
        have hB5 := HK.out _ _ hB3 hb
        clear hb hB3
        obtain ⟨_, c0, c1, c2, d0, d1, d2⟩ := HS.out _ hB5
        go_wp2_with fail
        clear c0 c1 c2 d0 d1 d2
        refine (class_any k n s _).mono ?_
        rintro e w6 ⟨rfl, hb⟩
        have hB6 := HK.out _ _ hB5 hb
        clear hb hB5
        obtain ⟨_, c0, c1, c2, d0, d1, d2⟩ := HS.out _ hB6
        go_wp2_with fail
        clear c0 c1 c2 d0 d1 d2
        refine (class_any k n s _).mono ?_
        rintro e w7 ⟨rfl, hb⟩
        have hB7 := HK.out _ _ hB6 hb
        clear hb hB6
        obtain ⟨_, c0, c1, c2, d0, d1, d2⟩ := HS.out _ hB7
        go_wp2_with fail
        clear c0 c1 c2 d0 d1 d2
        refine (class_any k n s _).mono ?_
        rintro e w8 ⟨rfl, hb⟩
        have hB8 := HK.out _ _ hB7 hb
        clear hb hB7
        obtain ⟨_, c0, c1, c2, d0, d1, d2⟩ := HS.out _ hB8
        go_wp2_with fail
        clear c0 c1 c2 d0 d1 d2
        go_ret
        exact ⟨by rw [HCV.out] <;> rfl, HBA.out.trans (hB8.mono HBA.out.size)⟩
  · have hne : (cls k != cls l) = true := by rw [bne_iff_ne]; exact hab
    rw [if_neg hab] at HCV
    by_cases hlt : cls k < cls l
    · have e : Lib.compareInt (cls k) (cls l) = -1 := by unfold Lib.compareInt; rw [if_pos hlt]
      rw [e] at HCV
      clear hcc e hab
      go_enter Tryz.func46, Tryz.ntmps46
      go_wp2_with fail
      rw [HW.out]
      go_region_held3 (fun w' => Below W2.heap.size W2 w' ∧ w'.cell? ⟨w.heap.size, 0, none⟩ = some (.int .i64 k) ∧ w'.cell? ⟨w.heap.size, 1, none⟩ = some (.int .i64 n) ∧ w'.cell? ⟨w.heap.size, 2, none⟩ = some (.string s) ∧ w'.cell? ⟨w.heap.size + 1, 0, none⟩ = some (.int .i64 l) ∧ w'.cell? ⟨w.heap.size + 1, 1, none⟩ = some (.int .i64 m) ∧ w'.cell? ⟨w.heap.size + 1, 2, none⟩ = some (.string r)) (first | exact HS.out _ (HK.out _ _ (by assumption) (by assumption)) | exact HS.out _ (HK.out _ _ (And.left (by assumption)) (by assumption)) | exact HS.out _ (Below.drew (by assumption)) | exact HS.out _ (Below.drew (And.left (by assumption))) | assumption)
        (first
          | (go_at_call 64; refine (class_any _ _ _ _).mono ?_; rintro e w' ⟨rfl, hb⟩))
      have hB3 : Below W2.heap.size W2 w' := And.left (by assumption)
      obtain ⟨w3, rfl⟩ : ∃ w3 : World, w3 = w' := ⟨_, rfl⟩
      clear hWr
      have hBv := hB3
      clear hB3
      go_wp2_with fail
      go_region_held3 (fun w' => Below W2.heap.size W2 w' ∧ w'.cell? ⟨w.heap.size, 0, none⟩ = some (.int .i64 k) ∧ w'.cell? ⟨w.heap.size, 1, none⟩ = some (.int .i64 n) ∧ w'.cell? ⟨w.heap.size, 2, none⟩ = some (.string s) ∧ w'.cell? ⟨w.heap.size + 1, 0, none⟩ = some (.int .i64 l) ∧ w'.cell? ⟨w.heap.size + 1, 1, none⟩ = some (.int .i64 m) ∧ w'.cell? ⟨w.heap.size + 1, 2, none⟩ = some (.string r)) (first | exact HS.out _ hBv | exact HS.out _ (HK.out _ _ (by assumption) (by assumption)) | exact HS.out _ (HK.out _ _ (And.left (by assumption)) (by assumption)) | exact HS.out _ (Below.drew (by assumption)) | exact HS.out _ (Below.drew (And.left (by assumption))) | assumption)
        (first
          | (go_at_call 64; refine (class_any _ _ _ _).mono ?_; rintro e w' ⟨rfl, hb⟩))
      have hB4 : Below W2.heap.size W2 w' := And.left (by assumption)
      obtain ⟨w4, rfl⟩ : ∃ w4 : World, w4 = w' := ⟨_, rfl⟩
      obtain ⟨_, c0, c1, c2, d0, d1, d2⟩ := HS.out _ hB4
      go_wp2_with fail
      clear c0 c1 c2 d0 d1 d2
      go_ret
      exact ⟨by rw [HCV.out] <;> rfl, HBA.out.trans (hB4.mono HBA.out.size)⟩
    · have e : Lib.compareInt (cls k) (cls l) = 1 := by unfold Lib.compareInt; rw [if_neg hlt, if_pos (by omega)]
      have f1 : decide (cls k < cls l) = false := by simpa using hlt
      rw [e] at HCV
      clear hcc e hab hlt
      go_enter Tryz.func46, Tryz.ntmps46
      go_wp2_with fail
      rw [HW.out]
      go_region_held3 (fun w' => Below W2.heap.size W2 w' ∧ w'.cell? ⟨w.heap.size, 0, none⟩ = some (.int .i64 k) ∧ w'.cell? ⟨w.heap.size, 1, none⟩ = some (.int .i64 n) ∧ w'.cell? ⟨w.heap.size, 2, none⟩ = some (.string s) ∧ w'.cell? ⟨w.heap.size + 1, 0, none⟩ = some (.int .i64 l) ∧ w'.cell? ⟨w.heap.size + 1, 1, none⟩ = some (.int .i64 m) ∧ w'.cell? ⟨w.heap.size + 1, 2, none⟩ = some (.string r)) (first | exact HS.out _ (HK.out _ _ (by assumption) (by assumption)) | exact HS.out _ (HK.out _ _ (And.left (by assumption)) (by assumption)) | exact HS.out _ (Below.drew (by assumption)) | exact HS.out _ (Below.drew (And.left (by assumption))) | assumption)
        (first
          | (go_at_call 64; refine (class_any _ _ _ _).mono ?_; rintro e w' ⟨rfl, hb⟩))
      have hB3 : Below W2.heap.size W2 w' := And.left (by assumption)
      obtain ⟨w3, rfl⟩ : ∃ w3 : World, w3 = w' := ⟨_, rfl⟩
      clear hWr
      have hBv := hB3
      clear hB3
      go_wp2_with fail
      go_region_held3 (fun w' => Below W2.heap.size W2 w' ∧ w'.cell? ⟨w.heap.size, 0, none⟩ = some (.int .i64 k) ∧ w'.cell? ⟨w.heap.size, 1, none⟩ = some (.int .i64 n) ∧ w'.cell? ⟨w.heap.size, 2, none⟩ = some (.string s) ∧ w'.cell? ⟨w.heap.size + 1, 0, none⟩ = some (.int .i64 l) ∧ w'.cell? ⟨w.heap.size + 1, 1, none⟩ = some (.int .i64 m) ∧ w'.cell? ⟨w.heap.size + 1, 2, none⟩ = some (.string r)) (first | exact HS.out _ hBv | exact HS.out _ (HK.out _ _ (by assumption) (by assumption)) | exact HS.out _ (HK.out _ _ (And.left (by assumption)) (by assumption)) | exact HS.out _ (Below.drew (by assumption)) | exact HS.out _ (Below.drew (And.left (by assumption))) | assumption)
        (first
          | (go_at_call 64; refine (class_any _ _ _ _).mono ?_; rintro e w' ⟨rfl, hb⟩))
      have hB4 : Below W2.heap.size W2 w' := And.left (by assumption)
      obtain ⟨w4, rfl⟩ : ∃ w4 : World, w4 = w' := ⟨_, rfl⟩
      obtain ⟨_, c0, c1, c2, d0, d1, d2⟩ := HS.out _ hB4
      go_wp2_with fail
      clear c0 c1 c2 d0 d1 d2
      go_ret
      exact ⟨by rw [HCV.out] <;> rfl, HBA.out.trans (hB4.mono HBA.out.size)⟩
#print axioms refCmpVal_any
end Go.Proofs.YtledgnolmiecfaaGreatDoor
