/-
  The document's own Quoted.
-/
import Derived.Test.YtledgnolmiecfaaGreatDoorQuote
import Derived.BigQuiet
import Derived.IntWalk
namespace Go.Proofs.YtledgnolmiecfaaGreatDoor
open Go.RowKit
set_option linter.unusedSimpArgs false
set_option linter.unusedVariables false

def bs (l : List UInt8) : ByteArray := ⟨l.toArray⟩
theorem bs_app (l m : List UInt8) : bs l ++ bs m = bs (l ++ m) := by
  apply ByteArray.ext
  rw [ByteArray.data_append]
  simp [bs]
theorem bs_size (l : List UInt8) : (bs l).size = l.length := by
  show l.toArray.size = l.length
  rw [List.size_toArray]
theorem one_at (s : ByteArray) (k : Nat) (h : k < s.size) : s.extract k (k + 1) = bs [s[k]] := by
  apply ByteArray.ext
  rw [ByteArray.data_extract]
  apply Array.ext
  · simp [bs]
    have : k < s.data.size := h
    omega
  · intro i h1 h2
    simp [bs] at h2
    subst h2
    simp [bs]
    rfl
def soFar (s : ByteArray) (k : Nat) : List UInt8 := 34 :: (s.data.toList.take k).flatMap qB
theorem soFar_next {s : ByteArray} {k : Nat} (h : k < s.size) {q : List UInt8} (hq : qB s[k] = q) : soFar s (k + 1) = soFar s k ++ q := by
  unfold soFar
  rw [take_snocS s k h, List.flatMap_append]
  simp [hq]
theorem soFar_len (s : ByteArray) (k : Nat) : (soFar s k).length ≤ 1 + 4 * k := by
  unfold soFar
  have h1 := flat_len (s.data.toList.take k)
  have h2 : (s.data.toList.take k).length ≤ k := by rw [List.length_take]; omega
  simp only [List.length_cons]
  omega

theorem hex_bytes : ∀ j : Nat, j < 16 → (⟨#[48, 49, 50, 51, 52, 53, 54, 55, 56, 57, 97, 98, 99, 100, 101, 102]⟩ : ByteArray).data.toList.extract j (j + 1) = [UInt8.ofNat (hexd j)] := by decide +kernel
theorem hex_slice (j : Nat) (h : j < 16) (W : World) : (Instr.slice 9 (.string ⟨#[48, 49, 50, 51, 52, 53, 54, 55, 56, 57, 97, 98, 99, 100, 101, 102]⟩) (some (.int .i64 (j : Int))) (some (.int .i64 ((j : Int) + 1))) none).run Tryz.prog W = .ok (.string (bs [UInt8.ofNat (hexd j)])) W := by
  have b1 : (0 : Int) ≤ (j : Int) + 1 := by omega
  have b2 : (j : Int) ≤ (j : Int) + 1 := by omega
  have e1 : ((j : Int) + 1).toNat = j + 1 := by omega
  have e2 : (⟨#[48, 49, 50, 51, 52, 53, 54, 55, 56, 57, 97, 98, 99, 100, 101, 102]⟩ : ByteArray).extract j (j + 1) = bs [UInt8.ofNat (hexd j)] := by
    apply ByteArray.ext
    apply Array.toList_inj.1
    rw [ByteArray.data_extract, Array.toList_extract, hex_bytes j h]
    rfl
  rw [← e2]
  have b0 : (0 : Int) ≤ (j : Int) := by omega
  have b3 : (j : Int) + 1 ≤ ((⟨#[48, 49, 50, 51, 52, 53, 54, 55, 56, 57, 97, 98, 99, 100, 101, 102]⟩ : ByteArray).size : Int) := by
    have : (⟨#[48, 49, 50, 51, 52, 53, 54, 55, 56, 57, 97, 98, 99, 100, 101, 102]⟩ : ByteArray).size = 16 := rfl
    omega
  generalize (⟨#[48, 49, 50, 51, 52, 53, 54, 55, 56, 57, 97, 98, 99, 100, 101, 102]⟩ : ByteArray) = D at b3 ⊢
  simp [Instr.slice, run_underlying Tryz.underlying9, Instr.sliceBounds, run_sliceBound, b0, b1, b2, b3, e1]
theorem hex_join {s S : ByteArray} {k n : Nat} (h : k < s.size) (hn : s[k].toNat = n) (hq : qB s[k] = [92, 120, UInt8.ofNat (hexd (n / 16)), UInt8.ofNat (hexd (n % 16))]) (hS : S = bs (soFar s k)) : S ++ ⟨#[92, 120]⟩ ++ bs [UInt8.ofNat (hexd (n / 16))] ++ bs [UInt8.ofNat (hexd (n % 16))] = bs (soFar s (k + 1)) := by
  rw [soFar_next h hq, hS]
  have e : (⟨#[92, 120]⟩ : ByteArray) = bs [92, 120] := rfl
  rw [e, bs_app, bs_app, bs_app]
  simp
theorem wr0 {n : Nat} (h : n < 256) : wrap64 (n : Int) = (n : Int) := by unfold wrap64; omega
theorem wr1 {n : Nat} (h : n < 256) : wrap64 ((n : Int) + 1) = (n : Int) + 1 := by unfold wrap64; omega
theorem wi0 {n : Nat} (h : n < 256) : IntKind.i64.wrap (n : Int) = (n : Int) := by rw [IntKind.wrap_i64]; omega
theorem wi1 {n : Nat} (h : n < 256) : IntKind.i64.wrap ((n : Int) + 1) = (n : Int) + 1 := by rw [IntKind.wrap_i64]; omega
set_option maxRecDepth 100000 in
set_option maxHeartbeats 2000000 in
theorem refQuoted_any (s : ByteArray) (hs : s.size ≤ 1000000) (w : World) :
    Calls Tryz.prog 53 #[.string s] w fun e w' => e = .returned (.string (bs (quoted s.data.toList))) ∧ Below w.heap.size w w' := by
  go_enter Tryz.func53, Tryz.ntmps53
  go_wp2_with fail
  go_loopw [4, 5] (fun o t wr => ∃ (k : Nat) (S : ByteArray), o = .string S ∧ t = .int .i64 k ∧ k ≤ s.size ∧ S.size ≤ 1 + 4 * k ∧ Hid (S = bs (soFar s k)) ∧ Below w.heap.size w wr) (fun _ t _ => s.size - (intOf t).toNat)
  case atStart => exact ⟨0, _, rfl, rfl, Nat.zero_le _, by decide, rfl, Below.refl _ _⟩
  case round =>
    obtain ⟨k, S, rfl, rfl, hk, hS, hSo, hB⟩ := hrel
    by_cases hlt : k < s.size
    · have hi0 : (0 : Int) ≤ (k : Int) := by omega
      have hi1 : (k : Int) < (s.size : Int) := by omega
      have hb256 : s[k].toNat < 256 := s[k].toNat_lt
      have z1 : ¬ 9223372036854775807 < S.size + 1 := by omega
      have hsl : ∀ W, (Instr.slice 9 (.string s) (some (.int .i64 (k : Int))) (some (.int .i64 ((k : Int) + 1))) none).run Tryz.prog W = .ok (.string (bs [s[k]])) W := fun W => by
        have b1 : (0 : Int) ≤ (k : Int) + 1 := by omega
        have b2 : (k : Int) ≤ (k : Int) + 1 := by omega
        have b3 : (k : Int) + 1 ≤ (s.size : Int) := by omega
        have e1 : ((k : Int) + 1).toNat = k + 1 := by omega
        rw [← one_at s k hlt]
        simp [Instr.slice, run_underlying Tryz.underlying9, Instr.sliceBounds, run_sliceBound, hi0, b1, b2, b3, e1]
      have hw : wrap64 ((s[k].toNat : Nat) : Int) = ((s[k].toNat : Nat) : Int) := by unfold wrap64; omega
      have hlen := soFar_len s (k + 1)
      have z3 : (bs [s[k]]).size = 1 := bs_size _
      have hz2 : S.size + 1 + 1 ≤ 9223372036854775807 := by omega
      have z2 : ¬ 9223372036854775807 < S.size + 1 + (bs [s[k]]).size := by omega
      have z4 : ¬ 9223372036854775807 < S.size + (bs [s[k]]).size := by omega
      have z5 : ¬ 9223372036854775807 < S.size + 2 := by omega
      have hnx := fun q hq => soFar_next (s := s) hlt (q := q) hq
      by_cases h34 : s[k].toNat = 34 ∨ s[k].toNat = 92
      · have hq : qB s[k] = [92, s[k]] := by unfold qB; rw [if_pos h34]
        have HN := Lib.hid (show S ++ ⟨#[92]⟩ ++ bs [s[k]] = bs (soFar s (k + 1)) by rw [hnx _ hq, hSo.out]; exact (congrArg (· ++ bs [s[k]]) (bs_app (soFar s k) [92])).trans (by rw [bs_app]; simp))
        have HSZ := Lib.hid (show (S ++ ⟨#[92]⟩ ++ bs [s[k]]).size ≤ 1 + 4 * (k + 1) by rw [HN.out, bs_size]; exact hlen)
        rcases h34 with h34 | h34
        · have d1 : (wrap64 (s[k].toNat : Int) == 34) = true := by rw [hw, beq_iff_eq]; omega
          clear hq hb256 hw hnx hSo
          go_wp2_with fail
          go_roundw
          case rel => exact ⟨k + 1, _, rfl, by go_num, by omega, HSZ.out, HN.out, hB⟩
          case measure => simp [intOf]; omega
        · have d1 : (wrap64 (s[k].toNat : Int) == 34) = false := by rw [hw, beq_eq_false_iff_ne]; omega
          have d2 : (wrap64 (s[k].toNat : Int) == 92) = true := by rw [hw, beq_iff_eq]; omega
          clear hq hb256 hw hnx hSo
          go_wp2_with fail
          go_roundw
          case rel => exact ⟨k + 1, _, rfl, by go_num, by omega, HSZ.out, HN.out, hB⟩
          case measure => simp [intOf]; omega
      · have d1 : (wrap64 (s[k].toNat : Int) == 34) = false := by rw [hw, beq_eq_false_iff_ne]; omega
        have d2 : (wrap64 (s[k].toNat : Int) == 92) = false := by rw [hw, beq_eq_false_iff_ne]; omega
        by_cases h10 : s[k].toNat = 10
        · have hq : qB s[k] = [92, 110] := by unfold qB; rw [if_neg h34, if_pos h10]
          have HN := Lib.hid (show S ++ ⟨#[92, 110]⟩ = bs (soFar s (k + 1)) by rw [hnx _ hq, hSo.out]; exact bs_app (soFar s k) [92, 110])
          have HSZ := Lib.hid (show (S ++ ⟨#[92, 110]⟩ : ByteArray).size ≤ 1 + 4 * (k + 1) by rw [HN.out, bs_size]; exact hlen)
          have d3 : (wrap64 (s[k].toNat : Int) == 10) = true := by rw [hw, beq_iff_eq]; omega
          clear hq hb256 hw hnx hSo h34 h10
          go_wp2_with fail
          go_roundw
          case rel => exact ⟨k + 1, _, rfl, by go_num, by omega, HSZ.out, HN.out, hB⟩
          case measure => simp [intOf]; omega
        · have d3 : (wrap64 (s[k].toNat : Int) == 10) = false := by rw [hw, beq_eq_false_iff_ne]; omega
          by_cases hctl : s[k].toNat < 32 ∨ 126 < s[k].toNat
          · have hq : qB s[k] = [92, 120, UInt8.ofNat (hexd (s[k].toNat / 16)), UInt8.ofNat (hexd (s[k].toNat % 16))] := by unfold qB; rw [if_neg h34, if_neg h10, if_pos hctl]
            have HQ := Lib.hid hq
            have d4 : (decide (wrap64 (s[k].toNat : Int) < 32) || decide (126 < wrap64 (s[k].toNat : Int))) = true := by rw [hw, Bool.or_eq_true, decide_eq_true_eq, decide_eq_true_eq]; omega
            clear hq hnx h34 h10
            have hlen2 := hlen
            obtain ⟨n, hn⟩ : ∃ n : Nat, s[k].toNat = n := ⟨_, rfl⟩
            have hn16 : n / 16 < 16 := by omega
            have hm16 : n % 16 < 16 := by omega
            have q1 : ((n : Int).tdiv 16) = ((n / 16 : Nat) : Int) := by rw [Int.tdiv_eq_ediv_of_nonneg (by omega)]; omega
            have q2 : ((n : Int).tmod 16) = ((n % 16 : Nat) : Int) := by rw [Int.tmod_eq_emod_of_nonneg (by omega)]; omega
            have HN := Lib.hid (hex_join hlt hn (by rw [← hn]; exact HQ.out) hSo.out)
            have HSZ := Lib.hid (show (S ++ ⟨#[92, 120]⟩ ++ bs [UInt8.ofNat (hexd (n / 16))] ++ bs [UInt8.ofNat (hexd (n % 16))]).size ≤ 1 + 4 * (k + 1) by rw [HN.out, bs_size]; exact hlen)
            have hd1 := hex_slice (n / 16) hn16
            have hd2 := hex_slice (n % 16) hm16
            have z6 : (bs [UInt8.ofNat (hexd (n / 16))]).size = 1 := bs_size _
            have z7 : (bs [UInt8.ofNat (hexd (n % 16))]).size = 1 := bs_size _
            generalize bs [UInt8.ofNat (hexd (n / 16))] = A1 at HN HSZ hd1 z6
            generalize bs [UInt8.ofNat (hexd (n % 16))] = A2 at HN HSZ hd2 z7
            generalize n / 16 = u at hn16 q1 hd1
            generalize n % 16 = v at hm16 q2 hd2
            have HQ1 := Lib.hid q1
            have HQ2 := Lib.hid q2
            clear q1 q2 hlen2
            have hu : u < 256 := Nat.lt_of_lt_of_le hn16 (by decide)
            have hv : v < 256 := Nat.lt_of_lt_of_le hm16 (by decide)
            have w1 := wr0 hu
            have w2 := wr0 hv
            have w3 := wr1 hu
            have w4 := wr1 hv
            have v1 := wi0 hu
            have v2 := wi0 hv
            have v3 := wi1 hu
            have v4 := wi1 hv
            have z8 : ¬ 9223372036854775807 < S.size + 2 + A1.size := by clear w1 w2 w3 w4 v1 v2 v3 v4; omega
            have z9 : ¬ 9223372036854775807 < S.size + 2 + A1.size + A2.size := by clear w1 w2 w3 w4 v1 v2 v3 v4; omega
            have z10 : ¬ 9223372036854775807 < S.size + 2 + 1 := by clear w1 w2 w3 w4 v1 v2 v3 v4; omega
            have z11 : ¬ 9223372036854775807 < S.size + 2 + 1 + 1 := by clear w1 w2 w3 w4 v1 v2 v3 v4; omega
            have HN0 := Lib.hid hn
            clear HQ hn
            by_cases c32 : s[k].toNat < 32
            · have d5 : decide (wrap64 (s[k].toNat : Int) < 32) = true := by rw [hw, decide_eq_true_eq]; omega
              have HW := Lib.hid hw
              clear hw hb256 hSo c32 hctl
              go_wp2_with fail
              clear d1 d2 d3 d4 d5
              rw [HW.out, HN0.out]
              clear HW
              have q1 := HQ1.out
              have q2 := HQ2.out
              refine wp_region_held_drew (S := fun _ : World => True) (by kernel_rfl) trivial (fun hHeld => ?_)
              refine wpAnyH_take (i := 0) (oi := _) (v := ?_) rfl (by kernel_rfl) (by kernel_rfl) (by kernel_rfl) (fun _ _ _ h => h) (Or.inl ⟨by rfl, ?_⟩) trivial ?_
              rotate_left
              · intro w hSw
                try dsimp only at hSw
                go_simp
                all_goals with_reducible rfl
              simp only [List.getElem_toArray, List.getElem_cons_succ, List.getElem_cons_zero, Act.put, List.setIfInBounds_toArray, List.set_cons_zero, List.set_cons_succ]
              refine wpAnyH_take (i := 1) (oi := _) (v := ?_) rfl (by kernel_rfl) (by kernel_rfl) (by kernel_rfl) (fun _ _ _ h => h) (Or.inl ⟨by rfl, ?_⟩) trivial ?_
              rotate_left
              · intro w hSw
                try dsimp only at hSw
                go_simp
                all_goals with_reducible rfl
              simp only [List.getElem_toArray, List.getElem_cons_succ, List.getElem_cons_zero, Act.put, List.setIfInBounds_toArray, List.set_cons_zero, List.set_cons_succ]
              refine wpAnyH_take (i := 2) (oi := _) (v := ?_) rfl (by kernel_rfl) (by kernel_rfl) (by kernel_rfl) (fun _ _ _ h => h) (Or.inl ⟨by rfl, ?_⟩) trivial ?_
              rotate_left
              · intro w hSw
                try dsimp only at hSw
                go_simp
                all_goals with_reducible rfl
              simp only [List.getElem_toArray, List.getElem_cons_succ, List.getElem_cons_zero, Act.put, List.setIfInBounds_toArray, List.set_cons_zero, List.set_cons_succ]
              refine wpAnyH_take (i := 3) (oi := _) (v := ?_) rfl (by kernel_rfl) (by kernel_rfl) (by kernel_rfl) (fun _ _ _ h => h) (Or.inl ⟨by rfl, ?_⟩) trivial ?_
              rotate_left
              · intro w hSw
                try dsimp only at hSw
                go_simp
                all_goals with_reducible rfl
              simp only [List.getElem_toArray, List.getElem_cons_succ, List.getElem_cons_zero, Act.put, List.setIfInBounds_toArray, List.set_cons_zero, List.set_cons_succ]
              refine wpAnyH_take (i := 4) (oi := _) (v := ?_) rfl (by kernel_rfl) (by kernel_rfl) (by kernel_rfl) (fun _ _ _ h => h) (Or.inl ⟨by rfl, ?_⟩) trivial ?_
              rotate_left
              · intro w hSw
                try dsimp only at hSw
                go_simp
                all_goals with_reducible rfl
              simp only [List.getElem_toArray, List.getElem_cons_succ, List.getElem_cons_zero, Act.put, List.setIfInBounds_toArray, List.set_cons_zero, List.set_cons_succ]
              refine wpAnyH_take (i := 5) (oi := _) (v := ?_) rfl (by kernel_rfl) (by kernel_rfl) (by kernel_rfl) (fun _ _ _ h => h) (Or.inl ⟨by rfl, ?_⟩) trivial ?_
              rotate_left
              · intro w hSw
                try dsimp only at hSw
                go_simp
                all_goals with_reducible rfl
              simp only [List.getElem_toArray, List.getElem_cons_succ, List.getElem_cons_zero, Act.put, List.setIfInBounds_toArray, List.set_cons_zero, List.set_cons_succ]
              refine wpAnyH_take (i := 6) (oi := _) (v := ?_) rfl (by kernel_rfl) (by kernel_rfl) (by kernel_rfl) (fun _ _ _ h => h) (Or.inl ⟨by rfl, ?_⟩) trivial ?_
              rotate_left
              · intro w hSw
                try dsimp only at hSw
                go_simp
                all_goals with_reducible rfl
              simp only [List.getElem_toArray, List.getElem_cons_succ, List.getElem_cons_zero, Act.put, List.setIfInBounds_toArray, List.set_cons_zero, List.set_cons_succ]
              refine wpAnyH_take (i := 7) (oi := _) (v := ?_) rfl (by kernel_rfl) (by kernel_rfl) (by kernel_rfl) (fun _ _ _ h => h) (Or.inl ⟨by rfl, ?_⟩) trivial ?_
              rotate_left
              · intro w hSw
                try dsimp only at hSw
                go_simp
                all_goals with_reducible rfl
              simp only [List.getElem_toArray, List.getElem_cons_succ, List.getElem_cons_zero, Act.put, List.setIfInBounds_toArray, List.set_cons_zero, List.set_cons_succ]
              refine wpAnyH_take (i := 8) (oi := _) (v := ?_) rfl (by kernel_rfl) (by kernel_rfl) (by kernel_rfl) (fun _ _ _ h => h) (Or.inl ⟨by rfl, ?_⟩) trivial ?_
              rotate_left
              · intro w hSw
                try dsimp only at hSw
                go_simp
                all_goals with_reducible rfl
              simp only [List.getElem_toArray, List.getElem_cons_succ, List.getElem_cons_zero, Act.put, List.setIfInBounds_toArray, List.set_cons_zero, List.set_cons_succ]
              refine wpAnyH_take (i := 9) (oi := _) (v := ?_) rfl (by kernel_rfl) (by kernel_rfl) (by kernel_rfl) (fun _ _ _ h => h) (Or.inl ⟨by rfl, ?_⟩) trivial ?_
              rotate_left
              · intro w hSw
                try dsimp only at hSw
                go_simp
                all_goals with_reducible rfl
              simp only [List.getElem_toArray, List.getElem_cons_succ, List.getElem_cons_zero, Act.put, List.setIfInBounds_toArray, List.set_cons_zero, List.set_cons_succ]
              refine wpAnyH_take (i := 10) (oi := _) (v := ?_) rfl (by kernel_rfl) (by kernel_rfl) (by kernel_rfl) (fun _ _ _ h => h) (Or.inl ⟨by rfl, ?_⟩) trivial ?_
              rotate_left
              · intro w hSw
                try dsimp only at hSw
                go_simp
                all_goals with_reducible rfl
              simp only [List.getElem_toArray, List.getElem_cons_succ, List.getElem_cons_zero, Act.put, List.setIfInBounds_toArray, List.set_cons_zero, List.set_cons_succ]
              refine wpAnyH_take (i := 11) (oi := _) (v := ?_) rfl (by kernel_rfl) (by kernel_rfl) (by kernel_rfl) (fun _ _ _ h => h) (Or.inl ⟨by rfl, ?_⟩) trivial ?_
              rotate_left
              · intro w hSw
                try dsimp only at hSw
                go_simp
                all_goals with_reducible rfl
              simp only [List.getElem_toArray, List.getElem_cons_succ, List.getElem_cons_zero, Act.put, List.setIfInBounds_toArray, List.set_cons_zero, List.set_cons_succ]
              refine wpAnyH_take (i := 12) (oi := _) (v := ?_) rfl (by kernel_rfl) (by kernel_rfl) (by kernel_rfl) (fun _ _ _ h => h) (Or.inl ⟨by rfl, ?_⟩) trivial ?_
              rotate_left
              · intro w hSw
                try dsimp only at hSw
                go_simp
                all_goals with_reducible rfl
              simp only [List.getElem_toArray, List.getElem_cons_succ, List.getElem_cons_zero, Act.put, List.setIfInBounds_toArray, List.set_cons_zero, List.set_cons_succ]
              refine wpAnyH_take (i := 13) (oi := _) (v := ?_) rfl (by kernel_rfl) (by kernel_rfl) (by kernel_rfl) (fun _ _ _ h => h) (Or.inl ⟨by rfl, ?_⟩) trivial ?_
              rotate_left
              · intro w hSw
                try dsimp only at hSw
                go_simp
                all_goals with_reducible rfl
              simp only [List.getElem_toArray, List.getElem_cons_succ, List.getElem_cons_zero, Act.put, List.setIfInBounds_toArray, List.set_cons_zero, List.set_cons_succ]
              refine wpAnyH_take (i := 14) (oi := _) (v := ?_) rfl (by kernel_rfl) (by kernel_rfl) (by kernel_rfl) (fun _ _ _ h => h) (Or.inl ⟨by rfl, ?_⟩) trivial ?_
              rotate_left
              · intro w hSw
                try dsimp only at hSw
                go_simp
                all_goals with_reducible rfl
              simp only [List.getElem_toArray, List.getElem_cons_succ, List.getElem_cons_zero, Act.put, List.setIfInBounds_toArray, List.set_cons_zero, List.set_cons_succ]
              refine wpAnyH_take (i := 15) (oi := _) (v := ?_) rfl (by kernel_rfl) (by kernel_rfl) (by kernel_rfl) (fun _ _ _ h => h) (Or.inl ⟨by rfl, ?_⟩) trivial ?_
              rotate_left
              · intro w hSw
                try dsimp only at hSw
                go_simp
                all_goals with_reducible rfl
              simp only [List.getElem_toArray, List.getElem_cons_succ, List.getElem_cons_zero, Act.put, List.setIfInBounds_toArray, List.set_cons_zero, List.set_cons_succ]
              refine wpAnyH_take (i := 16) (oi := _) (v := ?_) rfl (by kernel_rfl) (by kernel_rfl) (by kernel_rfl) (fun _ _ _ h => h) (Or.inl ⟨by rfl, ?_⟩) trivial ?_
              rotate_left
              · intro w hSw
                try dsimp only at hSw
                go_simp
                all_goals with_reducible rfl
              simp only [List.getElem_toArray, List.getElem_cons_succ, List.getElem_cons_zero, Act.put, List.setIfInBounds_toArray, List.set_cons_zero, List.set_cons_succ]
              refine wpAnyH_take (i := 17) (oi := _) (v := ?_) rfl (by kernel_rfl) (by kernel_rfl) (by kernel_rfl) (fun _ _ _ h => h) (Or.inl ⟨by rfl, ?_⟩) trivial ?_
              rotate_left
              · intro w hSw
                try dsimp only at hSw
                go_simp
                all_goals with_reducible rfl
              simp only [List.getElem_toArray, List.getElem_cons_succ, List.getElem_cons_zero, Act.put, List.setIfInBounds_toArray, List.set_cons_zero, List.set_cons_succ]
              refine wpAnyH_take (i := 18) (oi := _) (v := ?_) rfl (by kernel_rfl) (by kernel_rfl) (by kernel_rfl) (fun _ _ _ h => h) (Or.inl ⟨by rfl, ?_⟩) trivial ?_
              rotate_left
              · intro w hSw
                try dsimp only at hSw
                go_simp
                all_goals with_reducible rfl
              simp only [List.getElem_toArray, List.getElem_cons_succ, List.getElem_cons_zero, Act.put, List.setIfInBounds_toArray, List.set_cons_zero, List.set_cons_succ]
              refine wpAnyH_done (by kernel_rfl) ?_ _
              go_wp2_with fail
              go_roundw
              case rel => exact ⟨k + 1, _, rfl, by go_num, by omega, HSZ.out, HN.out, hB.drew⟩
              case measure => simp [intOf]; omega
            · have d5 : decide (wrap64 (s[k].toNat : Int) < 32) = false := by rw [hw, decide_eq_false_iff_not]; omega
              have d6 : decide (126 < wrap64 (s[k].toNat : Int)) = true := by rw [hw, decide_eq_true_eq]; omega
              have HW := Lib.hid hw
              clear hw hb256 hSo c32 hctl
              go_wp2_with fail
              clear d1 d2 d3 d4 d5
              rw [HW.out, HN0.out]
              clear HW
              have q1 := HQ1.out
              have q2 := HQ2.out
              refine wp_region_held_drew (S := fun _ : World => True) (by kernel_rfl) trivial (fun hHeld => ?_)
              refine wpAnyH_take (i := 0) (oi := _) (v := ?_) rfl (by kernel_rfl) (by kernel_rfl) (by kernel_rfl) (fun _ _ _ h => h) (Or.inl ⟨by rfl, ?_⟩) trivial ?_
              rotate_left
              · intro w hSw
                try dsimp only at hSw
                go_simp
                all_goals with_reducible rfl
              simp only [List.getElem_toArray, List.getElem_cons_succ, List.getElem_cons_zero, Act.put, List.setIfInBounds_toArray, List.set_cons_zero, List.set_cons_succ]
              refine wpAnyH_take (i := 1) (oi := _) (v := ?_) rfl (by kernel_rfl) (by kernel_rfl) (by kernel_rfl) (fun _ _ _ h => h) (Or.inl ⟨by rfl, ?_⟩) trivial ?_
              rotate_left
              · intro w hSw
                try dsimp only at hSw
                go_simp
                all_goals with_reducible rfl
              simp only [List.getElem_toArray, List.getElem_cons_succ, List.getElem_cons_zero, Act.put, List.setIfInBounds_toArray, List.set_cons_zero, List.set_cons_succ]
              refine wpAnyH_take (i := 2) (oi := _) (v := ?_) rfl (by kernel_rfl) (by kernel_rfl) (by kernel_rfl) (fun _ _ _ h => h) (Or.inl ⟨by rfl, ?_⟩) trivial ?_
              rotate_left
              · intro w hSw
                try dsimp only at hSw
                go_simp
                all_goals with_reducible rfl
              simp only [List.getElem_toArray, List.getElem_cons_succ, List.getElem_cons_zero, Act.put, List.setIfInBounds_toArray, List.set_cons_zero, List.set_cons_succ]
              refine wpAnyH_take (i := 3) (oi := _) (v := ?_) rfl (by kernel_rfl) (by kernel_rfl) (by kernel_rfl) (fun _ _ _ h => h) (Or.inl ⟨by rfl, ?_⟩) trivial ?_
              rotate_left
              · intro w hSw
                try dsimp only at hSw
                go_simp
                all_goals with_reducible rfl
              simp only [List.getElem_toArray, List.getElem_cons_succ, List.getElem_cons_zero, Act.put, List.setIfInBounds_toArray, List.set_cons_zero, List.set_cons_succ]
              refine wpAnyH_take (i := 4) (oi := _) (v := ?_) rfl (by kernel_rfl) (by kernel_rfl) (by kernel_rfl) (fun _ _ _ h => h) (Or.inl ⟨by rfl, ?_⟩) trivial ?_
              rotate_left
              · intro w hSw
                try dsimp only at hSw
                go_simp
                all_goals with_reducible rfl
              simp only [List.getElem_toArray, List.getElem_cons_succ, List.getElem_cons_zero, Act.put, List.setIfInBounds_toArray, List.set_cons_zero, List.set_cons_succ]
              refine wpAnyH_take (i := 5) (oi := _) (v := ?_) rfl (by kernel_rfl) (by kernel_rfl) (by kernel_rfl) (fun _ _ _ h => h) (Or.inl ⟨by rfl, ?_⟩) trivial ?_
              rotate_left
              · intro w hSw
                try dsimp only at hSw
                go_simp
                all_goals with_reducible rfl
              simp only [List.getElem_toArray, List.getElem_cons_succ, List.getElem_cons_zero, Act.put, List.setIfInBounds_toArray, List.set_cons_zero, List.set_cons_succ]
              refine wpAnyH_take (i := 6) (oi := _) (v := ?_) rfl (by kernel_rfl) (by kernel_rfl) (by kernel_rfl) (fun _ _ _ h => h) (Or.inl ⟨by rfl, ?_⟩) trivial ?_
              rotate_left
              · intro w hSw
                try dsimp only at hSw
                go_simp
                all_goals with_reducible rfl
              simp only [List.getElem_toArray, List.getElem_cons_succ, List.getElem_cons_zero, Act.put, List.setIfInBounds_toArray, List.set_cons_zero, List.set_cons_succ]
              refine wpAnyH_take (i := 7) (oi := _) (v := ?_) rfl (by kernel_rfl) (by kernel_rfl) (by kernel_rfl) (fun _ _ _ h => h) (Or.inl ⟨by rfl, ?_⟩) trivial ?_
              rotate_left
              · intro w hSw
                try dsimp only at hSw
                go_simp
                all_goals with_reducible rfl
              simp only [List.getElem_toArray, List.getElem_cons_succ, List.getElem_cons_zero, Act.put, List.setIfInBounds_toArray, List.set_cons_zero, List.set_cons_succ]
              refine wpAnyH_take (i := 8) (oi := _) (v := ?_) rfl (by kernel_rfl) (by kernel_rfl) (by kernel_rfl) (fun _ _ _ h => h) (Or.inl ⟨by rfl, ?_⟩) trivial ?_
              rotate_left
              · intro w hSw
                try dsimp only at hSw
                go_simp
                all_goals with_reducible rfl
              simp only [List.getElem_toArray, List.getElem_cons_succ, List.getElem_cons_zero, Act.put, List.setIfInBounds_toArray, List.set_cons_zero, List.set_cons_succ]
              refine wpAnyH_take (i := 9) (oi := _) (v := ?_) rfl (by kernel_rfl) (by kernel_rfl) (by kernel_rfl) (fun _ _ _ h => h) (Or.inl ⟨by rfl, ?_⟩) trivial ?_
              rotate_left
              · intro w hSw
                try dsimp only at hSw
                go_simp
                all_goals with_reducible rfl
              simp only [List.getElem_toArray, List.getElem_cons_succ, List.getElem_cons_zero, Act.put, List.setIfInBounds_toArray, List.set_cons_zero, List.set_cons_succ]
              refine wpAnyH_take (i := 10) (oi := _) (v := ?_) rfl (by kernel_rfl) (by kernel_rfl) (by kernel_rfl) (fun _ _ _ h => h) (Or.inl ⟨by rfl, ?_⟩) trivial ?_
              rotate_left
              · intro w hSw
                try dsimp only at hSw
                go_simp
                all_goals with_reducible rfl
              simp only [List.getElem_toArray, List.getElem_cons_succ, List.getElem_cons_zero, Act.put, List.setIfInBounds_toArray, List.set_cons_zero, List.set_cons_succ]
              refine wpAnyH_take (i := 11) (oi := _) (v := ?_) rfl (by kernel_rfl) (by kernel_rfl) (by kernel_rfl) (fun _ _ _ h => h) (Or.inl ⟨by rfl, ?_⟩) trivial ?_
              rotate_left
              · intro w hSw
                try dsimp only at hSw
                go_simp
                all_goals with_reducible rfl
              simp only [List.getElem_toArray, List.getElem_cons_succ, List.getElem_cons_zero, Act.put, List.setIfInBounds_toArray, List.set_cons_zero, List.set_cons_succ]
              refine wpAnyH_take (i := 12) (oi := _) (v := ?_) rfl (by kernel_rfl) (by kernel_rfl) (by kernel_rfl) (fun _ _ _ h => h) (Or.inl ⟨by rfl, ?_⟩) trivial ?_
              rotate_left
              · intro w hSw
                try dsimp only at hSw
                go_simp
                all_goals with_reducible rfl
              simp only [List.getElem_toArray, List.getElem_cons_succ, List.getElem_cons_zero, Act.put, List.setIfInBounds_toArray, List.set_cons_zero, List.set_cons_succ]
              refine wpAnyH_take (i := 13) (oi := _) (v := ?_) rfl (by kernel_rfl) (by kernel_rfl) (by kernel_rfl) (fun _ _ _ h => h) (Or.inl ⟨by rfl, ?_⟩) trivial ?_
              rotate_left
              · intro w hSw
                try dsimp only at hSw
                go_simp
                all_goals with_reducible rfl
              simp only [List.getElem_toArray, List.getElem_cons_succ, List.getElem_cons_zero, Act.put, List.setIfInBounds_toArray, List.set_cons_zero, List.set_cons_succ]
              refine wpAnyH_take (i := 14) (oi := _) (v := ?_) rfl (by kernel_rfl) (by kernel_rfl) (by kernel_rfl) (fun _ _ _ h => h) (Or.inl ⟨by rfl, ?_⟩) trivial ?_
              rotate_left
              · intro w hSw
                try dsimp only at hSw
                go_simp
                all_goals with_reducible rfl
              simp only [List.getElem_toArray, List.getElem_cons_succ, List.getElem_cons_zero, Act.put, List.setIfInBounds_toArray, List.set_cons_zero, List.set_cons_succ]
              refine wpAnyH_take (i := 15) (oi := _) (v := ?_) rfl (by kernel_rfl) (by kernel_rfl) (by kernel_rfl) (fun _ _ _ h => h) (Or.inl ⟨by rfl, ?_⟩) trivial ?_
              rotate_left
              · intro w hSw
                try dsimp only at hSw
                go_simp
                all_goals with_reducible rfl
              simp only [List.getElem_toArray, List.getElem_cons_succ, List.getElem_cons_zero, Act.put, List.setIfInBounds_toArray, List.set_cons_zero, List.set_cons_succ]
              refine wpAnyH_take (i := 16) (oi := _) (v := ?_) rfl (by kernel_rfl) (by kernel_rfl) (by kernel_rfl) (fun _ _ _ h => h) (Or.inl ⟨by rfl, ?_⟩) trivial ?_
              rotate_left
              · intro w hSw
                try dsimp only at hSw
                go_simp
                all_goals with_reducible rfl
              simp only [List.getElem_toArray, List.getElem_cons_succ, List.getElem_cons_zero, Act.put, List.setIfInBounds_toArray, List.set_cons_zero, List.set_cons_succ]
              refine wpAnyH_take (i := 17) (oi := _) (v := ?_) rfl (by kernel_rfl) (by kernel_rfl) (by kernel_rfl) (fun _ _ _ h => h) (Or.inl ⟨by rfl, ?_⟩) trivial ?_
              rotate_left
              · intro w hSw
                try dsimp only at hSw
                go_simp
                all_goals with_reducible rfl
              simp only [List.getElem_toArray, List.getElem_cons_succ, List.getElem_cons_zero, Act.put, List.setIfInBounds_toArray, List.set_cons_zero, List.set_cons_succ]
              refine wpAnyH_take (i := 18) (oi := _) (v := ?_) rfl (by kernel_rfl) (by kernel_rfl) (by kernel_rfl) (fun _ _ _ h => h) (Or.inl ⟨by rfl, ?_⟩) trivial ?_
              rotate_left
              · intro w hSw
                try dsimp only at hSw
                go_simp
                all_goals with_reducible rfl
              simp only [List.getElem_toArray, List.getElem_cons_succ, List.getElem_cons_zero, Act.put, List.setIfInBounds_toArray, List.set_cons_zero, List.set_cons_succ]
              refine wpAnyH_done (by kernel_rfl) ?_ _
              go_wp2_with fail
              go_roundw
              case rel => exact ⟨k + 1, _, rfl, by go_num, by omega, HSZ.out, HN.out, hB.drew⟩
              case measure => simp [intOf]; omega
          · have hq : qB s[k] = [s[k]] := by unfold qB; rw [if_neg h34, if_neg h10, if_neg hctl]
            have HN := Lib.hid (show S ++ bs [s[k]] = bs (soFar s (k + 1)) by rw [hnx _ hq, hSo.out]; exact bs_app (soFar s k) [s[k]])
            have HSZ := Lib.hid (show (S ++ bs [s[k]]).size ≤ 1 + 4 * (k + 1) by rw [HN.out, bs_size]; exact hlen)
            have d4 : decide (wrap64 (s[k].toNat : Int) < 32) = false := by rw [hw, decide_eq_false_iff_not]; omega
            have d5 : decide (126 < wrap64 (s[k].toNat : Int)) = false := by rw [hw, decide_eq_false_iff_not]; omega
            clear hq hb256 hw hnx hSo h34 h10 hctl
            go_wp2_with fail
            go_roundw
            case rel => exact ⟨k + 1, _, rfl, by go_num, by omega, HSZ.out, HN.out, hB⟩
            case measure => simp [intOf]; omega
    · have hge : s.size ≤ k := by omega
      have hke : k = s.size := by omega
      have HF := Lib.hid (show S ++ ⟨#[34]⟩ = bs (quoted s.data.toList) by
        rw [hSo.out, hke]
        refine (bs_app (soFar s s.size) [34]).trans ?_
        unfold soFar quoted
        rw [List.take_of_length_le (by rw [Array.length_toList]; exact Nat.le_refl _)]
        simp)
      have z1 : ¬ 9223372036854775807 < S.size + 1 := by omega
      clear hSo hke
      go_wp2_with fail
      go_ret
      exact ⟨by rw [← HF.out]; rfl, hB⟩
end Go.Proofs.YtledgnolmiecfaaGreatDoor
