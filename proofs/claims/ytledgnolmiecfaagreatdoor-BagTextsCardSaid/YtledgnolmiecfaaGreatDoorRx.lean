/-
  The document's own Unquoted.
-/
import Derived.Test.YtledgnolmiecfaaGreatDoorJD
import Derived.StillTailTactics
import Derived.Deep.RegionWith
import Derived.Deep.RegionHeld3
import Derived.Deep.AppendLies
namespace Go.Proofs.YtledgnolmiecfaaGreatDoor
open Go.RowKit Go.Lib
set_option linter.unusedSimpArgs false
set_option linter.unusedVariables false

def UnqPost (s : ByteArray) (i : Nat) (w : World) (e : Ending) (w' : World) : Prop := ∃ (x : List UInt8) (j : Int), e = .returned (.tuple #[.string (bs x), .int .i64 j]) ∧ Below w.heap.size w w' ∧ ((j = -1 ∧ ∀ L r, s.data.toList.drop i ≠ quoted L ++ r) ∨ ∃ k : Nat, j = (k : Int) ∧ i < k ∧ k ≤ s.size ∧ s.data.toList.drop i = quoted x ++ s.data.toList.drop k)
theorem head_drop {s : ByteArray} {k : Nat} (h : k < s.size) : (s.data.toList.drop k).head? = some s[k] := by rw [drop_at h]; rfl
theorem ext_take (s : ByteArray) (i j : Nat) : s.extract i j = bs ((s.data.toList.drop i).take (j - i)) := by
  apply ByteArray.ext
  apply Array.toList_inj.1
  rw [ByteArray.data_extract, Array.toList_extract, List.extract_eq_take_drop]
  simp [bs]
theorem dig_le (c : UInt8) : digN c ≤ 15 := by unfold digN; split <;> (try split) <;> omega
theorem docDec_x (a b : UInt8) (q : List UInt8) : docDec (92 :: 120 :: a :: b :: q) = if 0 ≤ digN a ∧ 0 ≤ digN b then some (UInt8.ofNat (16 * digN a + digN b).toNat, q) else none := by rfl
theorem docDec_e {d : UInt8} (h1 : d ≠ 110) (h2 : ¬ (d = 34 ∨ d = 92)) (h3 : d ≠ 120) (q : List UInt8) : docDec (92 :: d :: q) = none := by simp [docDec, h1, h2, h3]
theorem docDec_s {q : List UInt8} (h : q.length < 2) : docDec (92 :: 120 :: q) = none := by
  match q, h with
  | [], _ => rfl
  | [a], _ => rfl
  | a :: b :: q, h => exact absurd h (by simp)
theorem below_drewN {n : Nat} {w w' : World} (h : Below n w w') (k : Nat) : Below n w (w'.drewN k) := ⟨h.os, h.tape, h.output, h.size, h.block⟩
theorem u8_of {c : UInt8} {n : Nat} (h : c.toNat = n) : c = UInt8.ofNat n := by rw [← h]; exact (UInt8.ofNat_toNat).symm

set_option maxRecDepth 100000 in
set_option maxHeartbeats 4000000 in
theorem refUnquoted_any (s : ByteArray) (hs : s.size ≤ 70000) (i : Nat) (hi : i < s.size) (w : World) :
    Calls Tryz.prog 65 #[.string s, .int .i64 (i : Int)] w (UnqPost s i w) := by
  obtain ⟨i0, hi', hz0, hz1, hz2⟩ := info_parts infoB
  have HI := Lib.hid hi
  have HQ0 := Lib.hid (show ReadQ (s.data.toList.drop i) [] (s.data.toList.drop (i + 1)) by rw [drop_at hi]; exact readQ_start _ _)
  have q0 : wrap64 ((i : Int) + 1) = (i : Int) + 1 := by unfold wrap64; omega
  go_enter Tryz.func65, Tryz.ntmps65
  go_wp2_with fail
  go_loopw [6, 7] (fun o t wr => ∃ (l : List UInt8) (k : Nat), t = .int .i64 k ∧ i < k ∧ k ≤ s.size ∧ l.length ≤ k ∧ Hid (wr.ownsRow w.heap.size 5 1 o l.length (byteCells l)) ∧ Hid (ReadQ (s.data.toList.drop i) l (s.data.toList.drop k)) ∧ Hid (Below w.heap.size w wr)) (fun _ t _ => s.size - (RowKit.intOf t).toNat)
  case atStart => exact ⟨[], i + 1, by go_num, by omega, by omega, Nat.zero_le _, World.ownsRow_nil _ _ _ _, HQ0.out, Below.refl _ _⟩
  case round =>
    clear HQ0 q0
    obtain ⟨l, k, rfl, hik, hks, hlk, HO, HQ, HB⟩ := hrel
    obtain ⟨q, cap, rfl⟩ := slice_of_bytes HO.out
    by_cases hlt : k < s.size
    · have k0 : (0 : Int) ≤ (k : Int) := by omega
      have k1 : (k : Int) < (s.size : Int) := by omega
      have hc256 := s[k].toNat_lt
      by_cases h34 : s[k].toNat = 34
      · have e34 : ((s[k].toNat : Int) == 34) = true := by rw [h34]; rfl
        have n34 : ((s[k].toNat : Int) != 34) = false := by rw [h34]; rfl
        have h34' : s[k] = 34 := UInt8.toNat_inj.1 h34
        have HU := Lib.hid (fun L r e => readQ_shut (t := s.data.toList.drop i) (l := l) (u := s.data.toList.drop (k + 1)) (by rw [← h34', ← drop_at hlt]; exact HQ.out) L r e)
        have HCV := Lib.hid (fun W (hb : Below wr.heap.size wr W) => (owns_string rfl (owns_below HO.out hb) : (convert 48 9 (.slice q l.length cap)).run Tryz.prog W = .ok (.string (bs l)) W))
        have hcv := HCV.out wr (Below.refl _ _)
        have hcw := fun n => HCV.out (wr.drewN n) (below_drewN (Below.refl _ _) n)
        have hll : (bs l).size ≤ 1000000 := by rw [bs_size]; omega
        have HC := Lib.hid (fun W => refQuoted_any (bs l) hll W)
        rw [bs_data] at HC
        have p1 : (k : Int) + 1 ≤ (s.size : Int) := by omega
        have p2 : (i : Int) ≤ (k : Int) + 1 := by omega
        have p3 : (0 : Int) ≤ (i : Int) := by omega
        have p4 : (0 : Int) ≤ (k : Int) + 1 := by omega
        have p5 : wrap64 ((k : Int) + 1) = (k : Int) + 1 := by unfold wrap64; omega
        have p6 : IntKind.i64.wrap ((k : Int) + 1) = (k : Int) + 1 := by rw [IntKind.wrap_i64]; omega
        have p7 : ¬ (s.size : Int) ≤ (k : Int) := by omega
        have p8 : decide ((s.size : Int) ≤ (k : Int)) = false := decide_eq_false p7
        have p9 : decide (s.size ≤ k) = false := decide_eq_false (by omega)
        have hsl : ∀ W, (Instr.slice 9 (.string s) (some (.int .i64 (i : Int))) (some (.int .i64 ((k : Int) + 1))) none).run Tryz.prog W = .ok (.string (bs ((s.data.toList.drop i).take (k + 1 - i)))) W := fun W => by
          have e1 : ((k : Int) + 1).toNat = k + 1 := by omega
          rw [← ext_take]
          simp [Instr.slice, run_underlying Tryz.underlying9, Instr.sliceBounds, run_sliceBound, p1, p2, p3, p4, e1]
        have HIK := Lib.hid (show i < k + 1 ∧ k + 1 ≤ s.size ∧ s.size ≤ 70000 from ⟨by omega, by omega, hs⟩)
        have HEQ := Lib.hid (show quoted l = (s.data.toList.drop i).take (k + 1 - i) → s.data.toList.drop i = quoted l ++ s.data.toList.drop (k + 1) from fun e => by
          rw [e, show s.data.toList.drop (k + 1) = (s.data.toList.drop i).drop (k + 1 - i) by rw [List.drop_drop]; congr 1; omega, List.take_append_drop])
        have HNE := Lib.hid (show quoted l ≠ (s.data.toList.drop i).take (k + 1 - i) → ∀ L r, s.data.toList.drop i ≠ quoted L ++ r from fun h L r e => by
          obtain ⟨rfl, hr⟩ := HU.out L r e
          refine h ?_
          have hl1 := congrArg List.length e
          rw [hr, List.length_append, List.length_drop, List.length_drop] at hl1
          simp only [Array.length_toList, ByteArray.size_data] at hl1
          rw [e]
          symm
          exact List.take_left' (by omega))
        generalize hz : (s.data.toList.drop i).take (k + 1 - i) = z at hsl HEQ HNE
        clear HO HQ hc256 HU hz
        have HS := Lib.hid (fun W (hb : Below wr.heap.size wr W) => (show Below wr.heap.size wr W ∧ (convert 48 9 (.slice q l.length cap)).run Tryz.prog W = .ok (.string (bs l)) W from ⟨hb, HCV.out W hb⟩))
        clear hcv hcw HCV
        by_cases hqe : quoted l = z
        · have HX := Lib.hid (HEQ.out hqe)
          subst hqe
          clear HEQ HNE
          generalize bs (quoted l) = y at hsl HC
          go_wp2_with fail
          refine wp_region_held_drew (S := fun W' : World => Below wr.heap.size wr W' ∧ (convert 48 9 (.slice q l.length cap)).run Tryz.prog W' = .ok (.string (bs l)) W') (by kernel_rfl) (HS.out _ ((Below.refl _ _).drew)) (fun hHeld => ?_)
          refine wpAnyH_take (i := 0) (oi := _) (v := ?_) rfl (by kernel_rfl) (by kernel_rfl) (by kernel_rfl) (fun _ _ _ h => h) (Or.inl ⟨by rfl, ?_⟩) (by assumption) ?_
          rotate_left
          · intro w hSw
            try dsimp only at hSw
            go_simp
            all_goals with_reducible rfl
          simp only [List.getElem_toArray, List.getElem_cons_succ, List.getElem_cons_zero, Act.put, List.setIfInBounds_toArray, List.set_cons_zero, List.set_cons_succ]
          refine wpAnyH_take (i := 1) (oi := _) (v := ?_) rfl (by kernel_rfl) (by kernel_rfl) (by kernel_rfl) (fun _ _ _ h => h) (Or.inl ⟨by rfl, ?_⟩) (by assumption) ?_
          rotate_left
          · intro w hSw
            try dsimp only at hSw
            go_simp
            all_goals with_reducible rfl
          simp only [List.getElem_toArray, List.getElem_cons_succ, List.getElem_cons_zero, Act.put, List.setIfInBounds_toArray, List.set_cons_zero, List.set_cons_succ]
          refine wpAnyH_take (i := 2) (oi := _) (v := ?_) rfl (by kernel_rfl) (by kernel_rfl) (by kernel_rfl) (fun _ _ _ h => h) (Or.inl ⟨by rfl, ?_⟩) (by assumption) ?_
          rotate_left
          · intro w hSw
            try dsimp only at hSw
            go_simp
            all_goals with_reducible rfl
          simp only [List.getElem_toArray, List.getElem_cons_succ, List.getElem_cons_zero, Act.put, List.setIfInBounds_toArray, List.set_cons_zero, List.set_cons_succ]
          refine wpAnyH_take (i := 3) (oi := _) (v := ?_) rfl (by kernel_rfl) (by kernel_rfl) (by kernel_rfl) (fun _ _ _ h => h) (Or.inl ⟨by rfl, ?_⟩) (by assumption) ?_
          rotate_left
          · intro w hSw
            try dsimp only at hSw
            go_simp
            all_goals with_reducible rfl
          simp only [List.getElem_toArray, List.getElem_cons_succ, List.getElem_cons_zero, Act.put, List.setIfInBounds_toArray, List.set_cons_zero, List.set_cons_succ]
          refine wpAnyH_take (i := 4) (oi := _) (v := ?_) rfl (by kernel_rfl) (by kernel_rfl) (by kernel_rfl) (fun _ _ _ h => h) (Or.inl ⟨by rfl, ?_⟩) (by assumption) ?_
          rotate_left
          · intro w hSw
            try dsimp only at hSw
            go_simp
            all_goals with_reducible rfl
          simp only [List.getElem_toArray, List.getElem_cons_succ, List.getElem_cons_zero, Act.put, List.setIfInBounds_toArray, List.set_cons_zero, List.set_cons_succ]
          refine wpAnyH_take (i := 5) (oi := _) (v := ?_) rfl (by kernel_rfl) (by kernel_rfl) (by kernel_rfl) (fun _ _ _ h => h) (Or.inl ⟨by rfl, ?_⟩) (by assumption) ?_
          rotate_left
          · intro w hSw
            try dsimp only at hSw
            go_simp
            all_goals with_reducible rfl
          simp only [List.getElem_toArray, List.getElem_cons_succ, List.getElem_cons_zero, Act.put, List.setIfInBounds_toArray, List.set_cons_zero, List.set_cons_succ]
          refine wpAnyH_take (i := 6) (oi := _) (v := ?_) rfl (by kernel_rfl) (by kernel_rfl) (by kernel_rfl) (fun _ _ _ h => h) (Or.inl ⟨by rfl, ?_⟩) (by assumption) ?_
          rotate_left
          · intro w hSw
            try dsimp only at hSw
            go_simp
            all_goals with_reducible rfl
          simp only [List.getElem_toArray, List.getElem_cons_succ, List.getElem_cons_zero, Act.put, List.setIfInBounds_toArray, List.set_cons_zero, List.set_cons_succ]
          refine wpAnyH_take (i := 8) (oi := _) (v := ?_) rfl (by kernel_rfl) (by kernel_rfl) (by kernel_rfl) (fun _ _ _ h => h) (Or.inl ⟨by rfl, ?_⟩) (by assumption) ?_
          rotate_left
          · intro w hSw
            try dsimp only at hSw
            go_simp
            all_goals with_reducible rfl
          simp only [List.getElem_toArray, List.getElem_cons_succ, List.getElem_cons_zero, Act.put, List.setIfInBounds_toArray, List.set_cons_zero, List.set_cons_succ]
          refine wpAnyH_take (i := 9) (oi := _) (v := ?_) rfl (by kernel_rfl) (by kernel_rfl) (by kernel_rfl) (fun _ _ _ h => h) (Or.inl ⟨by rfl, ?_⟩) (by assumption) ?_
          rotate_left
          · intro w hSw
            try dsimp only at hSw
            go_simp
            all_goals with_reducible rfl
          simp only [List.getElem_toArray, List.getElem_cons_succ, List.getElem_cons_zero, Act.put, List.setIfInBounds_toArray, List.set_cons_zero, List.set_cons_succ]
          refine wpAnyH_take (i := 10) (oi := _) (v := ?_) rfl (by kernel_rfl) (by kernel_rfl) (by kernel_rfl) (fun _ _ _ h => h) (Or.inl ⟨by rfl, ?_⟩) (by assumption) ?_
          rotate_left
          · intro w hSw
            try dsimp only at hSw
            go_simp
            all_goals with_reducible rfl
          simp only [List.getElem_toArray, List.getElem_cons_succ, List.getElem_cons_zero, Act.put, List.setIfInBounds_toArray, List.set_cons_zero, List.set_cons_succ]
          refine wpAnyH_take (i := 11) (oi := _) (v := ?_) rfl (by kernel_rfl) (by kernel_rfl) (by kernel_rfl) (fun _ _ _ h => h) (Or.inl ⟨by rfl, ?_⟩) (by assumption) ?_
          rotate_left
          · intro w hSw
            try dsimp only at hSw
            go_simp
            all_goals with_reducible rfl
          simp only [List.getElem_toArray, List.getElem_cons_succ, List.getElem_cons_zero, Act.put, List.setIfInBounds_toArray, List.set_cons_zero, List.set_cons_succ]
          refine wpAnyH_take (i := 12) (oi := _) (v := ?_) rfl (by kernel_rfl) (by kernel_rfl) (by kernel_rfl) (fun _ _ _ h => h) (Or.inl ⟨by rfl, ?_⟩) (by assumption) ?_
          rotate_left
          · intro w hSw
            try dsimp only at hSw
            go_simp
            all_goals with_reducible rfl
          simp only [List.getElem_toArray, List.getElem_cons_succ, List.getElem_cons_zero, Act.put, List.setIfInBounds_toArray, List.set_cons_zero, List.set_cons_succ]
          refine wpAnyH_ready (rs := [7]) (by kernel_rfl) (by simp) ?_
          refine AllReadyH.cons (o := _) rfl (fun K hK => ?_) AllReadyH.nil
          go_simp
          refine (HC.out _).mono ?_
          rintro e w9 ⟨rfl, k9⟩
          have HB9 := Lib.hid (hHeld.1.trans (k9.mono hHeld.1.size))
          refine hK.out _ _ (HS.out _ HB9.out) (fun hHeld1 => ?_)
          clear hHeld k9 hK K
          try simp only [List.getElem_toArray, List.getElem_cons_succ, List.getElem_cons_zero, Act.put, List.setIfInBounds_toArray, List.set_cons_zero, List.set_cons_succ]
          refine wpAnyH_take (i := 13) (oi := _) (v := ?_) rfl (by kernel_rfl) (by kernel_rfl) (by kernel_rfl) (fun _ _ _ h => h) (Or.inl ⟨by rfl, ?_⟩) (by assumption) ?_
          rotate_left
          · intro w hSw
            try dsimp only at hSw
            go_simp
            all_goals with_reducible rfl
          simp only [List.getElem_toArray, List.getElem_cons_succ, List.getElem_cons_zero, Act.put, List.setIfInBounds_toArray, List.set_cons_zero, List.set_cons_succ]
          refine wpAnyH_take (i := 14) (oi := _) (v := ?_) rfl (by kernel_rfl) (by kernel_rfl) (by kernel_rfl) (fun _ _ _ h => h) (Or.inl ⟨by rfl, ?_⟩) (by assumption) ?_
          rotate_left
          · intro w hSw
            try dsimp only at hSw
            go_simp
            all_goals with_reducible rfl
          simp only [List.getElem_toArray, List.getElem_cons_succ, List.getElem_cons_zero, Act.put, List.setIfInBounds_toArray, List.set_cons_zero, List.set_cons_succ]
          refine wpAnyH_done (by kernel_rfl) ?_ _
          clear hHeld1
          have hcv9 := (HS.out w9 HB9.out).2
          have HBF := Lib.hid (HB.out.trans (HB9.out.mono HB.out.size))
          go_wp2_with fail
          go_ret2
          exact ⟨l, (k : Int) + 1, rfl, HBF.out, .inr ⟨k + 1, by omega, HIK.out.1, HIK.out.2.1, HX.out⟩⟩
        · have HX := Lib.hid (HNE.out hqe)
          have hne := bs_ne hqe
          clear HEQ HNE hqe
          generalize bs (quoted l) = y at HC hne
          generalize bs z = y2 at hsl hne
          have hzy : (y.toList == y2.toList) = false := by simpa using hne
          go_wp2_with fail
          refine wp_region_held_drew (S := fun W' : World => Below wr.heap.size wr W' ∧ (convert 48 9 (.slice q l.length cap)).run Tryz.prog W' = .ok (.string (bs l)) W') (by kernel_rfl) (HS.out _ ((Below.refl _ _).drew)) (fun hHeld => ?_)
          refine wpAnyH_take (i := 0) (oi := _) (v := ?_) rfl (by kernel_rfl) (by kernel_rfl) (by kernel_rfl) (fun _ _ _ h => h) (Or.inl ⟨by rfl, ?_⟩) (by assumption) ?_
          rotate_left
          · intro w hSw
            try dsimp only at hSw
            go_simp
            all_goals with_reducible rfl
          simp only [List.getElem_toArray, List.getElem_cons_succ, List.getElem_cons_zero, Act.put, List.setIfInBounds_toArray, List.set_cons_zero, List.set_cons_succ]
          refine wpAnyH_take (i := 1) (oi := _) (v := ?_) rfl (by kernel_rfl) (by kernel_rfl) (by kernel_rfl) (fun _ _ _ h => h) (Or.inl ⟨by rfl, ?_⟩) (by assumption) ?_
          rotate_left
          · intro w hSw
            try dsimp only at hSw
            go_simp
            all_goals with_reducible rfl
          simp only [List.getElem_toArray, List.getElem_cons_succ, List.getElem_cons_zero, Act.put, List.setIfInBounds_toArray, List.set_cons_zero, List.set_cons_succ]
          refine wpAnyH_take (i := 2) (oi := _) (v := ?_) rfl (by kernel_rfl) (by kernel_rfl) (by kernel_rfl) (fun _ _ _ h => h) (Or.inl ⟨by rfl, ?_⟩) (by assumption) ?_
          rotate_left
          · intro w hSw
            try dsimp only at hSw
            go_simp
            all_goals with_reducible rfl
          simp only [List.getElem_toArray, List.getElem_cons_succ, List.getElem_cons_zero, Act.put, List.setIfInBounds_toArray, List.set_cons_zero, List.set_cons_succ]
          refine wpAnyH_take (i := 3) (oi := _) (v := ?_) rfl (by kernel_rfl) (by kernel_rfl) (by kernel_rfl) (fun _ _ _ h => h) (Or.inl ⟨by rfl, ?_⟩) (by assumption) ?_
          rotate_left
          · intro w hSw
            try dsimp only at hSw
            go_simp
            all_goals with_reducible rfl
          simp only [List.getElem_toArray, List.getElem_cons_succ, List.getElem_cons_zero, Act.put, List.setIfInBounds_toArray, List.set_cons_zero, List.set_cons_succ]
          refine wpAnyH_take (i := 4) (oi := _) (v := ?_) rfl (by kernel_rfl) (by kernel_rfl) (by kernel_rfl) (fun _ _ _ h => h) (Or.inl ⟨by rfl, ?_⟩) (by assumption) ?_
          rotate_left
          · intro w hSw
            try dsimp only at hSw
            go_simp
            all_goals with_reducible rfl
          simp only [List.getElem_toArray, List.getElem_cons_succ, List.getElem_cons_zero, Act.put, List.setIfInBounds_toArray, List.set_cons_zero, List.set_cons_succ]
          refine wpAnyH_take (i := 5) (oi := _) (v := ?_) rfl (by kernel_rfl) (by kernel_rfl) (by kernel_rfl) (fun _ _ _ h => h) (Or.inl ⟨by rfl, ?_⟩) (by assumption) ?_
          rotate_left
          · intro w hSw
            try dsimp only at hSw
            go_simp
            all_goals with_reducible rfl
          simp only [List.getElem_toArray, List.getElem_cons_succ, List.getElem_cons_zero, Act.put, List.setIfInBounds_toArray, List.set_cons_zero, List.set_cons_succ]
          refine wpAnyH_take (i := 6) (oi := _) (v := ?_) rfl (by kernel_rfl) (by kernel_rfl) (by kernel_rfl) (fun _ _ _ h => h) (Or.inl ⟨by rfl, ?_⟩) (by assumption) ?_
          rotate_left
          · intro w hSw
            try dsimp only at hSw
            go_simp
            all_goals with_reducible rfl
          simp only [List.getElem_toArray, List.getElem_cons_succ, List.getElem_cons_zero, Act.put, List.setIfInBounds_toArray, List.set_cons_zero, List.set_cons_succ]
          refine wpAnyH_take (i := 8) (oi := _) (v := ?_) rfl (by kernel_rfl) (by kernel_rfl) (by kernel_rfl) (fun _ _ _ h => h) (Or.inl ⟨by rfl, ?_⟩) (by assumption) ?_
          rotate_left
          · intro w hSw
            try dsimp only at hSw
            go_simp
            all_goals with_reducible rfl
          simp only [List.getElem_toArray, List.getElem_cons_succ, List.getElem_cons_zero, Act.put, List.setIfInBounds_toArray, List.set_cons_zero, List.set_cons_succ]
          refine wpAnyH_take (i := 9) (oi := _) (v := ?_) rfl (by kernel_rfl) (by kernel_rfl) (by kernel_rfl) (fun _ _ _ h => h) (Or.inl ⟨by rfl, ?_⟩) (by assumption) ?_
          rotate_left
          · intro w hSw
            try dsimp only at hSw
            go_simp
            all_goals with_reducible rfl
          simp only [List.getElem_toArray, List.getElem_cons_succ, List.getElem_cons_zero, Act.put, List.setIfInBounds_toArray, List.set_cons_zero, List.set_cons_succ]
          refine wpAnyH_take (i := 10) (oi := _) (v := ?_) rfl (by kernel_rfl) (by kernel_rfl) (by kernel_rfl) (fun _ _ _ h => h) (Or.inl ⟨by rfl, ?_⟩) (by assumption) ?_
          rotate_left
          · intro w hSw
            try dsimp only at hSw
            go_simp
            all_goals with_reducible rfl
          simp only [List.getElem_toArray, List.getElem_cons_succ, List.getElem_cons_zero, Act.put, List.setIfInBounds_toArray, List.set_cons_zero, List.set_cons_succ]
          refine wpAnyH_take (i := 11) (oi := _) (v := ?_) rfl (by kernel_rfl) (by kernel_rfl) (by kernel_rfl) (fun _ _ _ h => h) (Or.inl ⟨by rfl, ?_⟩) (by assumption) ?_
          rotate_left
          · intro w hSw
            try dsimp only at hSw
            go_simp
            all_goals with_reducible rfl
          simp only [List.getElem_toArray, List.getElem_cons_succ, List.getElem_cons_zero, Act.put, List.setIfInBounds_toArray, List.set_cons_zero, List.set_cons_succ]
          refine wpAnyH_take (i := 12) (oi := _) (v := ?_) rfl (by kernel_rfl) (by kernel_rfl) (by kernel_rfl) (fun _ _ _ h => h) (Or.inl ⟨by rfl, ?_⟩) (by assumption) ?_
          rotate_left
          · intro w hSw
            try dsimp only at hSw
            go_simp
            all_goals with_reducible rfl
          simp only [List.getElem_toArray, List.getElem_cons_succ, List.getElem_cons_zero, Act.put, List.setIfInBounds_toArray, List.set_cons_zero, List.set_cons_succ]
          refine wpAnyH_ready (rs := [7]) (by kernel_rfl) (by simp) ?_
          refine AllReadyH.cons (o := _) rfl (fun K hK => ?_) AllReadyH.nil
          go_simp
          refine (HC.out _).mono ?_
          rintro e w9 ⟨rfl, k9⟩
          have HB9 := Lib.hid (hHeld.1.trans (k9.mono hHeld.1.size))
          refine hK.out _ _ (HS.out _ HB9.out) (fun hHeld1 => ?_)
          clear hHeld k9 hK K
          try simp only [List.getElem_toArray, List.getElem_cons_succ, List.getElem_cons_zero, Act.put, List.setIfInBounds_toArray, List.set_cons_zero, List.set_cons_succ]
          refine wpAnyH_take (i := 13) (oi := _) (v := ?_) rfl (by kernel_rfl) (by kernel_rfl) (by kernel_rfl) (fun _ _ _ h => h) (Or.inl ⟨by rfl, ?_⟩) (by assumption) ?_
          rotate_left
          · intro w hSw
            try dsimp only at hSw
            go_simp
            all_goals with_reducible rfl
          simp only [List.getElem_toArray, List.getElem_cons_succ, List.getElem_cons_zero, Act.put, List.setIfInBounds_toArray, List.set_cons_zero, List.set_cons_succ]
          refine wpAnyH_take (i := 14) (oi := _) (v := ?_) rfl (by kernel_rfl) (by kernel_rfl) (by kernel_rfl) (fun _ _ _ h => h) (Or.inl ⟨by rfl, ?_⟩) (by assumption) ?_
          rotate_left
          · intro w hSw
            try dsimp only at hSw
            go_simp
            all_goals with_reducible rfl
          simp only [List.getElem_toArray, List.getElem_cons_succ, List.getElem_cons_zero, Act.put, List.setIfInBounds_toArray, List.set_cons_zero, List.set_cons_succ]
          refine wpAnyH_done (by kernel_rfl) ?_ _
          clear hHeld1
          have HBF := Lib.hid (HB.out.trans (HB9.out.mono HB.out.size))
          go_wp2_with fail
          go_ret2
          exact ⟨[], -1, rfl, HBF.out, .inl ⟨rfl, HX.out⟩⟩
      · have e34 : ((s[k].toNat : Int) == 34) = false := by rw [beq_eq_false_iff_ne]; omega
        have n34 : ((s[k].toNat : Int) != 34) = true := by rw [bne_iff_ne]; omega
        have HN34 := Lib.hid (show (s.data.toList.drop k).head? ≠ some 34 by rw [head_drop hlt]; intro h; exact h34 (by rw [Option.some.inj h]; rfl))
        by_cases h92 : s[k].toNat = 92
        · have e92 : ((s[k].toNat : Int) == 92) = true := by rw [h92]; rfl
          have n92 : ((s[k].toNat : Int) != 92) = false := by rw [h92]; rfl
          have h92' : s[k] = 92 := UInt8.toNat_inj.1 h92
          have q1 : wrap64 ((k : Int) + 1) = (k : Int) + 1 := by unfold wrap64; omega
          have q2 : wrap64 ((k : Int) + 2) = (k : Int) + 2 := by unfold wrap64; omega
          have q3 : wrap64 ((k : Int) + 3) = (k : Int) + 3 := by unfold wrap64; omega
          have p0 : (0 : Int) ≤ (k : Int) + 1 := by omega
          have t1 : ((k : Int) + 1).toNat = k + 1 := by omega
          have t2 : ((k : Int) + 2).toNat = k + 2 := by omega
          have t3 : ((k : Int) + 3).toNat = k + 3 := by omega
          by_cases hk1 : k + 1 < s.size
          · have p1 : (k : Int) + 1 < (s.size : Int) := by omega
            have hd2 : s.data.toList.drop k = 92 :: s[k + 1] :: s.data.toList.drop (k + 2) := by rw [drop_at hlt, drop_at hk1, h92']
            have hd256 := s[k + 1].toNat_lt
            by_cases h110 : s[k + 1].toNat = 110
            · have e110 : ((s[k + 1].toNat : Int) == 110) = true := by rw [h110]; rfl
              have HX := Lib.hid (readQ_step HQ.out HN34.out (c := (10 : UInt8)) (u' := s.data.toList.drop (k + 2)) (by rw [hd2, u8_of h110]; rfl))
              have HLT := Lib.hid (show k + 2 ≤ s.size ∧ s.size ≤ 70000 from ⟨by omega, hs⟩)
              have HIK := Lib.hid (show i < k ∧ l.length ≤ k ∧ l.length ≤ 70000 from ⟨hik, hlk, by omega⟩)
              have hO4 := HO.out
              have hsz := HB.out.size
              clear HN34 HQ hc256
              go_wp2_with (at_builtin; refine wpList_append_bytes rfl _ _ rfl w.heap.size _ l.length (byteCells l) rfl (hO4.alloc _) ⟨wr.heap.size, 0, none⟩ 1 1 [(10 : UInt8)] rfl rfl (cells_new _ _ _) (by have := HIK.out; omega) (by simp <;> omega) ?_; intro v5 w5 hown5 hb5 _; have HF := Lib.hid (show w5.ownsRow w.heap.size 5 1 v5 (l ++ [(10 : UInt8)]).length (byteCells (l ++ [(10 : UInt8)])) ∧ Below w.heap.size wr w5 from ⟨by simpa [byteCells] using hown5, ((Below.refl _ wr).alloc hsz _).trans hb5⟩); clear hown5 hb5)
              obtain ⟨q', cap', hv'⟩ := slice_of_bytes HF.out.1
              subst hv'
              go_roundw
              case rel => exact ⟨l ++ [(10 : UInt8)], k + 2, by go_num, by have := HIK.out; omega, HLT.out.1, by have := HIK.out; simp; omega, HF.out.1, HX.out, HB.out.trans HF.out.2⟩
              case measure => have := HLT.out; simp [RowKit.intOf]; omega
            · have e110 : ((s[k + 1].toNat : Int) == 110) = false := by rw [beq_eq_false_iff_ne]; omega
              by_cases hq : s[k + 1].toNat = 34 ∨ s[k + 1].toNat = 92
              · have hds : docDec (s.data.toList.drop k) = some (s[k + 1], s.data.toList.drop (k + 2)) := by
                  rw [hd2]
                  rcases hq with h | h
                  · rw [u8_of h]; rfl
                  · rw [u8_of h]; rfl
                rcases hq with h34b | h92b
                · have e34b : ((s[k + 1].toNat : Int) == 34) = true := by rw [h34b]; rfl
                  have HX := Lib.hid (readQ_step HQ.out HN34.out (c := (34 : UInt8)) (u' := s.data.toList.drop (k + 2)) (by rw [hd2, u8_of h34b]; rfl))
                  have HLT := Lib.hid (show k + 2 ≤ s.size ∧ s.size ≤ 70000 from ⟨by omega, hs⟩)
                  have HIK := Lib.hid (show i < k ∧ l.length ≤ k ∧ l.length ≤ 70000 from ⟨hik, hlk, by omega⟩)
                  have hO4 := HO.out
                  have hsz := HB.out.size
                  clear HN34 HQ hc256
                  go_wp2_with (at_builtin; refine wpList_append_bytes rfl _ _ rfl w.heap.size _ l.length (byteCells l) rfl (hO4.alloc _) ⟨wr.heap.size, 0, none⟩ 1 1 [(34 : UInt8)] rfl rfl (cells_new _ _ _) (by have := HIK.out; omega) (by simp <;> omega) ?_; intro v5 w5 hown5 hb5 _; have HF := Lib.hid (show w5.ownsRow w.heap.size 5 1 v5 (l ++ [(34 : UInt8)]).length (byteCells (l ++ [(34 : UInt8)])) ∧ Below w.heap.size wr w5 from ⟨by simpa [byteCells] using hown5, ((Below.refl _ wr).alloc hsz _).trans hb5⟩); clear hown5 hb5)
                  obtain ⟨q', cap', hv'⟩ := slice_of_bytes HF.out.1
                  subst hv'
                  go_roundw
                  case rel => exact ⟨l ++ [(34 : UInt8)], k + 2, by go_num, by have := HIK.out; omega, HLT.out.1, by have := HIK.out; simp; omega, HF.out.1, HX.out, HB.out.trans HF.out.2⟩
                  case measure => have := HLT.out; simp [RowKit.intOf]; omega
                · have e34b : ((s[k + 1].toNat : Int) == 34) = false := by rw [beq_eq_false_iff_ne]; omega
                  have e92b : ((s[k + 1].toNat : Int) == 92) = true := by rw [h92b]; rfl
                  have HX := Lib.hid (readQ_step HQ.out HN34.out (c := (92 : UInt8)) (u' := s.data.toList.drop (k + 2)) (by rw [hd2, u8_of h92b]; rfl))
                  have HLT := Lib.hid (show k + 2 ≤ s.size ∧ s.size ≤ 70000 from ⟨by omega, hs⟩)
                  have HIK := Lib.hid (show i < k ∧ l.length ≤ k ∧ l.length ≤ 70000 from ⟨hik, hlk, by omega⟩)
                  have hO4 := HO.out
                  have hsz := HB.out.size
                  clear HN34 HQ hc256
                  go_wp2_with (at_builtin; refine wpList_append_bytes rfl _ _ rfl w.heap.size _ l.length (byteCells l) rfl (hO4.alloc _) ⟨wr.heap.size, 0, none⟩ 1 1 [(92 : UInt8)] rfl rfl (cells_new _ _ _) (by have := HIK.out; omega) (by simp <;> omega) ?_; intro v5 w5 hown5 hb5 _; have HF := Lib.hid (show w5.ownsRow w.heap.size 5 1 v5 (l ++ [(92 : UInt8)]).length (byteCells (l ++ [(92 : UInt8)])) ∧ Below w.heap.size wr w5 from ⟨by simpa [byteCells] using hown5, ((Below.refl _ wr).alloc hsz _).trans hb5⟩); clear hown5 hb5)
                  obtain ⟨q', cap', hv'⟩ := slice_of_bytes HF.out.1
                  subst hv'
                  go_roundw
                  case rel => exact ⟨l ++ [(92 : UInt8)], k + 2, by go_num, by have := HIK.out; omega, HLT.out.1, by have := HIK.out; simp; omega, HF.out.1, HX.out, HB.out.trans HF.out.2⟩
                  case measure => have := HLT.out; simp [RowKit.intOf]; omega
              · have e34b : ((s[k + 1].toNat : Int) == 34) = false := by rw [beq_eq_false_iff_ne]; omega
                have e92b : ((s[k + 1].toNat : Int) == 92) = false := by rw [beq_eq_false_iff_ne]; omega
                have m110 : s[k + 1] ≠ 110 := fun e => h110 (by rw [e]; rfl)
                have mq : ¬ (s[k + 1] = 34 ∨ s[k + 1] = 92) := fun e => hq (e.elim (fun e => .inl (by rw [e]; rfl)) (fun e => .inr (by rw [e]; rfl)))
                by_cases h120 : s[k + 1].toNat = 120
                · have e120 : ((s[k + 1].toNat : Int) == 120) = true := by rw [h120]; rfl
                  by_cases hk3 : k + 3 < s.size
                  · have p3 : (k : Int) + 3 < (s.size : Int) := by omega
                    have r0 : (0 : Int) ≤ (k : Int) + 2 := by omega
                    have r1 : (k : Int) + 2 < (s.size : Int) := by omega
                    have r2 : (0 : Int) ≤ (k : Int) + 3 := by omega
                    have hk2 : k + 2 < s.size := by omega
                    have hd4 : s.data.toList.drop k = 92 :: 120 :: s[k + 2] :: s[k + 3] :: s.data.toList.drop (k + 4) := by rw [hd2, drop_at hk2, drop_at hk3, u8_of h120]; rfl
                    by_cases hda : 0 ≤ digN s[k + 2]
                    · by_cases hdb : 0 ≤ digN s[k + 3]
                      · have hds : docDec (s.data.toList.drop k) = some (UInt8.ofNat (16 * digN s[k + 2] + digN s[k + 3]).toNat, s.data.toList.drop (k + 4)) := by rw [hd4, docDec_x, if_pos ⟨hda, hdb⟩]
                        have hla := dig_le s[k + 2]
                        have hlb := dig_le s[k + 3]
                        have HA := Lib.hid fun W => digit_any s[k + 2] W
                        have HA2 := Lib.hid fun W => digit_any s[k + 3] W
                        generalize digN s[k + 2] = da at HA hda hds hla
                        generalize digN s[k + 3] = db at HA2 hdb hds hlb
                        have hcc : ((UInt8.ofNat (16 * da + db).toNat).toNat : Int) = 16 * da + db := by rw [UInt8.toNat_ofNat']; omega
                        generalize UInt8.ofNat (16 * da + db).toNat = c at hcc hds
                        have HX := Lib.hid (readQ_step HQ.out HN34.out hds)
                        have HLT := Lib.hid (show k + 4 ≤ s.size ∧ s.size ≤ 70000 from ⟨by omega, hs⟩)
                        have HIK := Lib.hid (show i < k ∧ l.length ≤ k ∧ l.length ≤ 70000 from ⟨hik, hlk, by omega⟩)
                        have m1 : wrap64 (16 * da) = 16 * da := by unfold wrap64; omega
                        have m2 : IntKind.i64.wrap (16 * da) = 16 * da := by rw [IntKind.wrap_i64]; omega
                        have m3 : wrap64 (16 * da + db) = 16 * da + db := by unfold wrap64; omega
                        have m4 : IntKind.i64.wrap (16 * da + db) = 16 * da + db := by rw [IntKind.wrap_i64]; omega
                        have m5 : IntKind.u8.wrap (16 * da + db) = (c.toNat : Int) := by rw [IntKind.wrap_u8]; omega
                        have m6 : IntKind.i64.wrap ((k : Int) + 2) = (k : Int) + 2 := by rw [IntKind.wrap_i64]; omega
                        have m7 : IntKind.i64.wrap ((k : Int) + 3) = (k : Int) + 3 := by rw [IntKind.wrap_i64]; omega
                        have hsz := HB.out.size
                        clear HN34 HQ hc256 hd2 hd4 hds hcc hla hlb
                        go_wp2_with fail
                        refine (HA.out _).mono ?_
                        rintro e w9 ⟨rfl, rfl⟩
                        go_wp2_with fail
                        refine (HA2.out _).mono ?_
                        rintro e w9 ⟨rfl, rfl⟩
                        go_wp2_with fail
                        refine wp_region_held_drew (S := fun W' : World => Below w.heap.size w W') (by kernel_rfl) (HB.out.trans ((Below.refl _ _).drew.mono HB.out.size)) (fun hHeld => ?_)
                        have hO1 := owns_below HO.out ((Below.refl wr.heap.size wr).drew)
                        generalize wr.drew = u1 at hO1 hHeld ⊢
                        refine wpAnyH_take (i := 0) (oi := _) (v := ?_) rfl (by kernel_rfl) (by kernel_rfl) (by kernel_rfl) (fun _ _ _ h => h) (Or.inl ⟨by rfl, ?_⟩) (by assumption) ?_
                        rotate_left
                        · intro w hSw
                          try dsimp only at hSw
                          go_simp
                          all_goals with_reducible rfl
                        simp only [List.getElem_toArray, List.getElem_cons_succ, List.getElem_cons_zero, Act.put, List.setIfInBounds_toArray, List.set_cons_zero, List.set_cons_succ]
                        refine wpAnyH_take (i := 1) (oi := _) (v := ?_) rfl (by kernel_rfl) (by kernel_rfl) (by kernel_rfl) (fun _ _ _ h => h) (Or.inl ⟨by rfl, ?_⟩) (by assumption) ?_
                        rotate_left
                        · intro w hSw
                          try dsimp only at hSw
                          go_simp
                          all_goals with_reducible rfl
                        simp only [List.getElem_toArray, List.getElem_cons_succ, List.getElem_cons_zero, Act.put, List.setIfInBounds_toArray, List.set_cons_zero, List.set_cons_succ]
                        refine wpAnyH_take (i := 2) (oi := _) (v := ?_) rfl (by kernel_rfl) (by kernel_rfl) (by kernel_rfl) (fun _ _ _ h => h) (Or.inl ⟨by rfl, ?_⟩) (by assumption) ?_
                        rotate_left
                        · intro w hSw
                          try dsimp only at hSw
                          go_simp
                          all_goals with_reducible rfl
                        simp only [List.getElem_toArray, List.getElem_cons_succ, List.getElem_cons_zero, Act.put, List.setIfInBounds_toArray, List.set_cons_zero, List.set_cons_succ]
                        refine wpAnyH_take (i := 3) (oi := _) (v := ?_) rfl (by kernel_rfl) (by kernel_rfl) (by kernel_rfl) (fun _ _ _ h => h) (Or.inl ⟨by rfl, ?_⟩) (by assumption) ?_
                        rotate_left
                        · intro w hSw
                          try dsimp only at hSw
                          go_simp
                          all_goals with_reducible rfl
                        simp only [List.getElem_toArray, List.getElem_cons_succ, List.getElem_cons_zero, Act.put, List.setIfInBounds_toArray, List.set_cons_zero, List.set_cons_succ]
                        refine wpAnyH_take (i := 4) (oi := _) (v := ?_) rfl (by kernel_rfl) (by kernel_rfl) (by kernel_rfl) (fun _ _ _ h => h) (Or.inl ⟨by rfl, ?_⟩) (by assumption) ?_
                        rotate_left
                        · intro w hSw
                          try dsimp only at hSw
                          go_simp
                          all_goals with_reducible rfl
                        simp only [List.getElem_toArray, List.getElem_cons_succ, List.getElem_cons_zero, Act.put, List.setIfInBounds_toArray, List.set_cons_zero, List.set_cons_succ]
                        refine wpAnyH_take (i := 7) (oi := _) (v := ?_) rfl (by kernel_rfl) (by kernel_rfl) (by kernel_rfl) (fun _ _ _ h => h) (Or.inl ⟨by rfl, ?_⟩) (by assumption) ?_
                        rotate_left
                        · intro w hSw
                          try dsimp only at hSw
                          go_simp
                          all_goals with_reducible rfl
                        simp only [List.getElem_toArray, List.getElem_cons_succ, List.getElem_cons_zero, Act.put, List.setIfInBounds_toArray, List.set_cons_zero, List.set_cons_succ]
                        refine wpAnyH_take (i := 8) (oi := _) (v := ?_) rfl (by kernel_rfl) (by kernel_rfl) (by kernel_rfl) (fun _ _ _ h => h) (Or.inl ⟨by rfl, ?_⟩) (by assumption) ?_
                        rotate_left
                        · intro w hSw
                          try dsimp only at hSw
                          go_simp
                          all_goals with_reducible rfl
                        simp only [List.getElem_toArray, List.getElem_cons_succ, List.getElem_cons_zero, Act.put, List.setIfInBounds_toArray, List.set_cons_zero, List.set_cons_succ]
                        refine wpAnyH_take (i := 9) (oi := _) (v := ?_) rfl (by kernel_rfl) (by kernel_rfl) (by kernel_rfl) (fun _ _ _ h => h) (Or.inl ⟨by rfl, ?_⟩) (by assumption) ?_
                        rotate_left
                        · intro w hSw
                          try dsimp only at hSw
                          go_simp
                          all_goals with_reducible rfl
                        simp only [List.getElem_toArray, List.getElem_cons_succ, List.getElem_cons_zero, Act.put, List.setIfInBounds_toArray, List.set_cons_zero, List.set_cons_succ]
                        refine wpAnyH_take (i := 10) (oi := _) (v := ?_) rfl (by kernel_rfl) (by kernel_rfl) (by kernel_rfl) (fun _ _ _ h => h) (Or.inl ⟨by rfl, ?_⟩) (by assumption) ?_
                        rotate_left
                        · intro w hSw
                          try dsimp only at hSw
                          go_simp
                          all_goals with_reducible rfl
                        simp only [List.getElem_toArray, List.getElem_cons_succ, List.getElem_cons_zero, Act.put, List.setIfInBounds_toArray, List.set_cons_zero, List.set_cons_succ]
                        refine wpAnyH_ready (rs := [5]) (by kernel_rfl) (by simp) ?_
                        refine AllReadyH.cons (o := _) rfl (fun K hK => ?_) AllReadyH.nil
                        go_simp
                        refine (HA.out _).mono ?_
                        rintro e w9 ⟨rfl, rfl⟩
                        refine hK.out _ _ hHeld (fun hHeld1 => ?_)
                        clear hHeld hK K
                        try simp only [List.getElem_toArray, List.getElem_cons_succ, List.getElem_cons_zero, Act.put, List.setIfInBounds_toArray, List.set_cons_zero, List.set_cons_succ]
                        refine wpAnyH_take (i := 6) (oi := _) (v := ?_) rfl (by kernel_rfl) (by kernel_rfl) (by kernel_rfl) (fun _ _ _ h => h) (Or.inl ⟨by rfl, ?_⟩) (by assumption) ?_
                        rotate_left
                        · intro w hSw
                          try dsimp only at hSw
                          go_simp
                          all_goals with_reducible rfl
                        simp only [List.getElem_toArray, List.getElem_cons_succ, List.getElem_cons_zero, Act.put, List.setIfInBounds_toArray, List.set_cons_zero, List.set_cons_succ]
                        refine wpAnyH_ready (rs := [11]) (by kernel_rfl) (by simp) ?_
                        refine AllReadyH.cons (o := _) rfl (fun K hK => ?_) AllReadyH.nil
                        go_simp
                        refine (HA2.out _).mono ?_
                        rintro e w9 ⟨rfl, rfl⟩
                        refine hK.out _ _ hHeld1 (fun hHeld2 => ?_)
                        clear hHeld1 hK K
                        try simp only [List.getElem_toArray, List.getElem_cons_succ, List.getElem_cons_zero, Act.put, List.setIfInBounds_toArray, List.set_cons_zero, List.set_cons_succ]
                        refine wpAnyH_take (i := 12) (oi := _) (v := ?_) rfl (by kernel_rfl) (by kernel_rfl) (by kernel_rfl) (fun _ _ _ h => h) (Or.inl ⟨by rfl, ?_⟩) (by assumption) ?_
                        rotate_left
                        · intro w hSw
                          try dsimp only at hSw
                          go_simp
                          all_goals with_reducible rfl
                        simp only [List.getElem_toArray, List.getElem_cons_succ, List.getElem_cons_zero, Act.put, List.setIfInBounds_toArray, List.set_cons_zero, List.set_cons_succ]
                        refine wpAnyH_take (i := 13) (oi := _) (v := ?_) rfl (by kernel_rfl) (by kernel_rfl) (by kernel_rfl) (fun _ _ _ h => h) (Or.inl ⟨by rfl, ?_⟩) (by assumption) ?_
                        rotate_left
                        · intro w hSw
                          try dsimp only at hSw
                          go_simp
                          all_goals with_reducible rfl
                        simp only [List.getElem_toArray, List.getElem_cons_succ, List.getElem_cons_zero, Act.put, List.setIfInBounds_toArray, List.set_cons_zero, List.set_cons_succ]
                        refine wpAnyH_ready (rs := [14]) (by kernel_rfl) (by simp) ?_
                        refine AllReadyH.cons (o := _) rfl (fun K hK => ?_) AllReadyH.nil
                        go_simp
                        refine hK.out _ _ (hHeld2.alloc hHeld2.size _) (fun hHeld3 => ?_)
                        clear hHeld3 hK K
                        try simp only [List.getElem_toArray, List.getElem_cons_succ, List.getElem_cons_zero, Act.put, List.setIfInBounds_toArray, List.set_cons_zero, List.set_cons_succ]
                        refine wpAnyH_ready (rs := [15]) (by kernel_rfl) (by simp) ?_
                        refine AllReadyH.cons (o := _) rfl (fun K hK => ?_) AllReadyH.nil
                        refine step_append_lies _ rfl _ _ 48 rfl w.heap.size 5 i0 (.int .u8 0) 1 1 Tryz.underlying48 hi' hz0 hz1 hz2 rfl (by decide) _ _ _ rfl (hO1.alloc _) ⟨u1.heap.size, 0, none⟩ 1 1 (byteCells [c]) rfl rfl (cells_new _ _ _) (by simp [byteCells, Value.oneCell']) (by decide) (by have := HIK.out; unfold maxLen; omega) (by have := HIK.out; omega) (by have := hHeld2.size; simp; omega) (u1.heap.size + 1) (by simp) ?_
                        intro g' cap' w5 hown' hgrow hor hlt5
                        have HO5 := Lib.hid (show w5.ownsRow w.heap.size 5 1 (.slice (some ⟨g', 0, none⟩) (l ++ [c]).length cap') (l ++ [c]).length (byteCells (l ++ [c])) from by simpa [byteCells] using hown')
                        have HB5 := Lib.hid (show Below w.heap.size w w5 from (hHeld2.alloc hHeld2.size _).grown hgrow (by have := hHeld2.size; simp; omega) (fun k e => (hO1.lt k e).1))
                        refine hK.out _ _ HB5.out (fun hHeld4 => ?_)
                        clear hK K hown' hgrow hor hlt5 hHeld2 hO1
                        try simp only [List.getElem_toArray, List.getElem_cons_succ, List.getElem_cons_zero, Act.put, List.setIfInBounds_toArray, List.set_cons_zero, List.set_cons_succ]
                        refine wpAnyH_take (i := 16) (oi := _) (v := ?_) rfl (by kernel_rfl) (by kernel_rfl) (by kernel_rfl) (fun _ _ _ h => h) (Or.inl ⟨by rfl, ?_⟩) (by assumption) ?_
                        rotate_left
                        · intro w hSw
                          try dsimp only at hSw
                          go_simp
                          all_goals with_reducible rfl
                        simp only [List.getElem_toArray, List.getElem_cons_succ, List.getElem_cons_zero, Act.put, List.setIfInBounds_toArray, List.set_cons_zero, List.set_cons_succ]
                        refine wpAnyH_done (by kernel_rfl) ?_ _
                        clear hHeld4
                        go_wp2_with fail
                        go_roundw
                        case rel => exact ⟨l ++ [c], k + 4, by go_num, by have := HIK.out; omega, HLT.out.1, by have := HIK.out; simp; omega, by have := HO5.out; rw [List.length_append] at this; exact (by rw [List.length_append]; exact this), HX.out, HB5.out⟩
                        case measure => have := HLT.out; simp [RowKit.intOf]; omega
                      · have HX := Lib.hid (fun L r => readQ_none HQ.out HN34.out (by rw [hd4, docDec_x, if_neg (fun h => hdb h.2)]) L r)
                        clear HQ HN34 HO hc256 hd4 hd2
                        have HA := Lib.hid fun W => digit_any s[k + 2] W
                        have HA2 := Lib.hid fun W => digit_any s[k + 3] W
                        generalize digN s[k + 2] = da at HA hda
                        generalize digN s[k + 3] = db at HA2 hdb
                        go_wp2_with fail
                        refine (HA.out _).mono ?_
                        rintro e w9 ⟨rfl, rfl⟩
                        go_wp2_with fail
                        refine (HA2.out _).mono ?_
                        rintro e w9 ⟨rfl, rfl⟩
                        go_wp2_with fail
                        go_ret2
                        exact ⟨[], -1, rfl, HB.out, .inl ⟨rfl, HX.out⟩⟩
                    · have HX := Lib.hid (fun L r => readQ_none HQ.out HN34.out (by rw [hd4, docDec_x, if_neg (fun h => hda h.1)]) L r)
                      clear HQ HN34 HO hc256 hd4 hd2
                      have HA := Lib.hid fun W => digit_any s[k + 2] W
                      generalize digN s[k + 2] = da at HA hda
                      go_wp2_with fail
                      refine (HA.out _).mono ?_
                      rintro e w9 ⟨rfl, rfl⟩
                      go_wp2_with fail
                      go_ret2
                      exact ⟨[], -1, rfl, HB.out, .inl ⟨rfl, HX.out⟩⟩
                  · have p3 : ¬ (k : Int) + 3 < (s.size : Int) := by omega
                    have hnd : docDec (s.data.toList.drop k) = none := by rw [hd2, u8_of h120]; exact docDec_s (by rw [List.length_drop]; simp; omega)
                    have HX := Lib.hid (fun L r => readQ_none HQ.out HN34.out hnd L r)
                    clear HQ HN34 HO hc256 hd2
                    go_wp2_with fail
                    go_ret2
                    exact ⟨[], -1, rfl, HB.out, .inl ⟨rfl, HX.out⟩⟩
                · have e120 : ((s[k + 1].toNat : Int) == 120) = false := by rw [beq_eq_false_iff_ne]; omega
                  have hnd : docDec (s.data.toList.drop k) = none := by
                    have m120 : s[k + 1] ≠ 120 := fun e => h120 (by rw [e]; rfl)
                    rw [hd2]; exact docDec_e m110 mq m120 _
                  by_cases hk3 : k + 3 < s.size
                  · have p3 : (k : Int) + 3 < (s.size : Int) := by omega
                    have HX := Lib.hid (fun L r => readQ_none HQ.out HN34.out hnd L r)
                    clear HQ HN34 HO hc256 hd2
                    go_wp2_with fail
                    go_ret2
                    exact ⟨[], -1, rfl, HB.out, .inl ⟨rfl, HX.out⟩⟩
                  · have p3 : ¬ (k : Int) + 3 < (s.size : Int) := by omega
                    have HX := Lib.hid (fun L r => readQ_none HQ.out HN34.out hnd L r)
                    clear HQ HN34 HO hc256 hd2
                    go_wp2_with fail
                    go_ret2
                    exact ⟨[], -1, rfl, HB.out, .inl ⟨rfl, HX.out⟩⟩
          · have p1 : ¬ (k : Int) + 1 < (s.size : Int) := by omega
            have p3 : ¬ (k : Int) + 3 < (s.size : Int) := by omega
            have hnd : docDec (s.data.toList.drop k) = none := by
              rw [drop_at hlt, h92', List.drop_eq_nil_of_le (by simp; omega)]
              rfl
            have HX := Lib.hid (fun L r => readQ_none HQ.out HN34.out hnd L r)
            clear HQ HN34 HO hc256
            go_wp2_with fail
            go_ret2
            exact ⟨[], -1, rfl, HB.out, .inl ⟨rfl, HX.out⟩⟩
        · have e92 : ((s[k].toNat : Int) == 92) = false := by rw [beq_eq_false_iff_ne]; omega
          have n92 : ((s[k].toNat : Int) != 92) = true := by rw [bne_iff_ne]; omega
          have hds : docDec (s.data.toList.drop k) = some (s[k], s.data.toList.drop (k + 1)) := by rw [drop_at hlt]; simp only [docDec]; rw [if_neg (fun e => h92 (by rw [e]; rfl))]
          have HX := Lib.hid (readQ_step HQ.out HN34.out (c := s[k]) (u' := s.data.toList.drop (k + 1)) hds)
          have HLT := Lib.hid (show k + 1 ≤ s.size ∧ s.size ≤ 70000 from ⟨by omega, hs⟩)
          have HIK := Lib.hid (show i < k ∧ l.length ≤ k ∧ l.length ≤ 70000 from ⟨hik, hlk, by omega⟩)
          have hO4 := HO.out
          have hsz := HB.out.size
          clear HN34 HQ hc256
          go_wp2_with (at_builtin; refine wpList_append_bytes rfl _ _ rfl w.heap.size _ l.length (byteCells l) rfl (hO4.alloc _) ⟨wr.heap.size, 0, none⟩ 1 1 [s[k]] rfl rfl (cells_new _ _ _) (by have := HIK.out; omega) (by simp <;> omega) ?_; intro v5 w5 hown5 hb5 _; have HF := Lib.hid (show w5.ownsRow w.heap.size 5 1 v5 (l ++ [s[k]]).length (byteCells (l ++ [s[k]])) ∧ Below w.heap.size wr w5 from ⟨by simpa [byteCells] using hown5, ((Below.refl _ wr).alloc hsz _).trans hb5⟩); clear hown5 hb5)
          obtain ⟨q', cap', hv'⟩ := slice_of_bytes HF.out.1
          subst hv'
          go_roundw
          case rel => exact ⟨l ++ [s[k]], k + 1, by go_num, by have := HIK.out; omega, HLT.out.1, by have := HIK.out; simp; omega, HF.out.1, HX.out, HB.out.trans HF.out.2⟩
          case measure => have := HLT.out; simp [RowKit.intOf]; omega
    · have hke : k = s.size := by omega
      have k1 : ¬ (k : Int) < (s.size : Int) := by omega
      have p7 : (s.size : Int) ≤ (k : Int) := by omega
      have p8 : decide ((s.size : Int) ≤ (k : Int)) = true := decide_eq_true p7
      have HX := Lib.hid (fun L r => readQ_end (t := s.data.toList.drop i) (l := l) (by have := HQ.out; rw [show s.data.toList.drop k = [] from List.drop_eq_nil_of_le (by simp; omega)] at this; exact this) L r)
      clear HQ HO hke
      go_wp2_with fail
      go_quiet (fail)
      go_wp2_with fail
      go_ret2
      exact ⟨[], -1, rfl, below_drewN HB.out _, .inl ⟨rfl, HX.out⟩⟩
end Go.Proofs.YtledgnolmiecfaaGreatDoor
