/-
  The example that every statement of this layer asks.
-/
import Derived.Test.YtfoknllnknjccaaGreatOf5
namespace Go.Proofs.YtfoknllnknjccaaGreat
open Go.RowKit

theorem numV_of {n : Int} (h1 : -1000000000000000 ≤ n) (h2 : n ≤ 1000000000000000) : numV n = (1, n, ⟨#[]⟩) := by
  unfold numV
  rw [if_pos]
  unfold validV validP
  exact decide_eq_true (.inr (.inl ⟨rfl, by rw [Lib.toList_data]; rfl, h1, h2⟩))
abbrev e0 : ByteArray := ⟨#[]⟩
abbrev wGs : List Ag := [(1, 0), (2, 0), (7, 0), (3, 0), (6, 0)]
abbrev wBag : List It := [([(0, 0, e0)], 1), ([(1, 2, e0)], 1), ([(1, 5, e0)], 2)]
abbrev wOut : List Val := [(1, 4, e0), (1, 3, e0), (1, 2, e0), (1, 12, e0), (1, 4, e0)]
theorem w_valid0 : validRow [(0, 0, e0)] = true := by
  unfold validRow validVs validV validP
  simp [Lib.toList_data]
theorem w_valid1 (n : Int) (h1 : -1000000000000000 ≤ n) (h2 : n ≤ 1000000000000000) : validRow [(1, n, e0)] = true := by
  unfold validRow validVs validV validP
  simp [Lib.toList_data, h1, h2]
theorem w_bag : validBag wBag = true := validBag_iff.2 ⟨by simp, fun x hx => by
  simp only [List.mem_cons, List.not_mem_nil, or_false] at hx
  rcases hx with rfl | rfl | rfl
  · exact itOK_iff.2 ⟨w_valid0, by decide⟩
  · exact itOK_iff.2 ⟨w_valid1 2 (by decide) (by decide), by decide⟩
  · exact itOK_iff.2 ⟨w_valid1 5 (by decide) (by decide), by decide⟩, by decide⟩
theorem w_list : validL 1 wGs = true := by decide
theorem w_part : partOK 1 wBag = true := by unfold partOK; rw [w_bag]; decide
theorem w_whole : wholeB wBag = true := by unfold wholeB; rw [w_bag]; decide
theorem w_k1 : tellK 1 (took (1, 0) wBag) = numV 4 := by
  have h : (took (1, 0) wBag).foldl cntStep 0 = 4 := by kernel_rfl
  unfold tellK
  rw [if_neg (by decide), if_neg (by decide), if_neg (by decide), if_neg (by decide), if_neg (by decide), if_neg (by decide), h]
theorem w_k2 : tellK 2 (took (2, 0) wBag) = numV 3 := by
  have h : (took (2, 0) wBag).foldl valStep 0 = 3 := by kernel_rfl
  unfold tellK
  rw [if_pos rfl, h]
theorem w_k7 : tellK 7 (took (7, 0) wBag) = numV 2 := by
  have h : (((took (7, 0) wBag).foldl seenStep []).length : Int) = 2 := by kernel_rfl
  unfold tellK
  rw [if_neg (by decide), if_neg (by decide), if_neg (by decide), if_neg (by decide), if_neg (by decide), if_pos rfl, h]
theorem w_sm (c : Int) : (took (c, 0) wBag).foldl smStep (0, 0, 0) = (took (c, 0) wBag).foldl smStep (0, 0, 0) := rfl
theorem w_s3 : (took (3, 0) wBag).foldl smStep (0, 0, 0) = (0, 12, 3) := by kernel_rfl
theorem w_s6 : (took (6, 0) wBag).foldl smStep (0, 0, 0) = (0, 12, 3) := by kernel_rfl
theorem w_tell : smTell (0, 12, 3) = numV 12 := by
  unfold smTell
  dsimp only
  have h1 : wrap64 (0 + wrap64 ((12 : Int).tdiv 1000000000)) = 0 := by kernel_rfl
  have h2 : wrap64 (wrap64 (0 * 1000000000) + (12 : Int).tmod 1000000000) = 12 := by kernel_rfl
  have h3 : wrap64 (-0) = 0 := by kernel_rfl
  rw [h1, h2, h3, if_neg (by decide)]
theorem w_told : toldV wGs wBag = wOut := by
  have h : toldV wGs wBag = [tellK 1 (took (1, 0) wBag), tellK 2 (took (2, 0) wBag), tellK 7 (took (7, 0) wBag), tellK 3 (took (3, 0) wBag), tellK 6 (took (6, 0) wBag)] := rfl
  have h3 : tellK 3 (took (3, 0) wBag) = numV 12 := by
    unfold tellK
    rw [if_neg (by decide), if_pos rfl, w_s3, w_tell]
  have h6 : tellK 6 (took (6, 0) wBag) = numV 4 := by
    unfold tellK
    rw [if_neg (by decide), if_neg (by decide), if_neg (by decide), if_neg (by decide), if_pos rfl, w_s6]
    unfold mnTell
    rw [w_tell, numV_of (n := 12) (by decide) (by decide), if_neg (by decide)]
    have h2 : downI 12 3 = 4 := by kernel_rfl
    dsimp only
    rw [h2]
  rw [h, w_k1, w_k2, w_k7, h3, h6, numV_of (n := 4) (by decide) (by decide), numV_of (n := 3) (by decide) (by decide), numV_of (n := 2) (by decide) (by decide), numV_of (n := 12) (by decide) (by decide)]
theorem w_err : ofErr wGs 1 wBag = 0 := by
  unfold ofErr resErr
  rw [if_pos ⟨w_list, w_part⟩, if_neg (by decide), if_pos w_whole]
theorem w_val : ofVal wGs 1 wBag = wOut := by
  unfold ofVal
  rw [w_err, if_pos rfl, w_told]

abbrev wA : Obj := .cells #[.int .i64 1, .int .i64 0, .int .i64 2, .int .i64 0, .int .i64 7, .int .i64 0, .int .i64 3, .int .i64 0, .int .i64 6, .int .i64 0] 59
abbrev wR (k n : Int) : Obj := .cells #[.int .i64 k, .int .i64 n, .string e0] 55
abbrev wI (g : Nat) : Obj := .cells #[.slice (some ⟨g + 1, 0, none⟩) 1 1, .int .i64 1, .slice (some ⟨g + 1 + 1, 0, none⟩) 1 1, .int .i64 1, .slice (some ⟨g + 1 + 1 + 1, 0, none⟩) 1 1, .int .i64 2] 53
abbrev w4W (w : World) : World := (((w.alloc wA).alloc (wR 0 0)).alloc (wR 1 2)).alloc (wR 1 5)
abbrev w5W (w : World) : World := (w4W w).alloc (wI w.heap.size)
theorem w5_below (w : World) : Below w.heap.size w (w5W w) := ((((below_new w _).alloc (by simp) _).alloc (by simp; omega) _).alloc (by simp; omega) _).alloc (by simp; omega) _
theorem w5_aggs (w : World) : AggsIn (w5W w) (some ⟨w.heap.size, 0, none⟩) wGs := fun _ => ⟨w.heap.size, 0, rfl, by simp; omega, fun i hi => by
  have hk := ((((Blk.new w 59 #[.int .i64 1, .int .i64 0, .int .i64 2, .int .i64 0, .int .i64 7, .int .i64 0, .int .i64 3, .int .i64 0, .int .i64 6, .int .i64 0]).allocG (wR 0 0)).allocG (wR 1 2)).allocG (wR 1 5)).allocG (wI w.heap.size)
  have hi5 : i = 0 ∨ i = 1 ∨ i = 2 ∨ i = 3 ∨ i = 4 := by simp at hi; omega
  rcases hi5 with rfl | rfl | rfl | rfl | rfl
  · exact ⟨hk.cell 0, hk.cell 1⟩
  · exact ⟨hk.cell 2, hk.cell 3⟩
  · exact ⟨hk.cell 4, hk.cell 5⟩
  · exact ⟨hk.cell 6, hk.cell 7⟩
  · exact ⟨hk.cell 8, hk.cell 9⟩⟩
theorem w_row {W : World} {B : Nat} {k n : Int} (h : Blk W B 55 #[.int .i64 k, .int .i64 n, .string e0]) : RowOK W ((some ⟨B, 0, none⟩, [(k, n, e0)], 1) : RowV) :=
  ⟨by simp, fun _ => ⟨B, 0, rfl, h.lt, fun i hi => by
    have hi0 : i = 0 := by simp at hi; omega
    subst hi0
    exact ⟨h.cell 0, h.cell 1, h.cell 2⟩⟩⟩
abbrev wRs (g : Nat) : List ItR := [((some ⟨g + 1, 0, none⟩, [(0, 0, e0)], 1), 1), ((some ⟨g + 1 + 1, 0, none⟩, [(1, 2, e0)], 1), 1), ((some ⟨g + 1 + 1 + 1, 0, none⟩, [(1, 5, e0)], 1), 2)]
theorem w5_items (w : World) : ItemsIn (w5W w) (some ⟨w.heap.size + 1 + 1 + 1 + 1, 0, none⟩) (wRs w.heap.size) := fun _ => ⟨w.heap.size + 1 + 1 + 1 + 1, 0, rfl, by simp, fun i hi => by
  have k0 := (((Blk.newAt (w.alloc wA) 55 #[.int .i64 0, .int .i64 0, .string e0] (g := w.heap.size + 1) (by simp)).allocG (wR 1 2)).allocG (wR 1 5)).allocG (wI w.heap.size)
  have k1 := ((Blk.newAt ((w.alloc wA).alloc (wR 0 0)) 55 #[.int .i64 1, .int .i64 2, .string e0] (g := w.heap.size + 1 + 1) (by simp)).allocG (wR 1 5)).allocG (wI w.heap.size)
  have k2 := (Blk.newAt (((w.alloc wA).alloc (wR 0 0)).alloc (wR 1 2)) 55 #[.int .i64 1, .int .i64 5, .string e0] (g := w.heap.size + 1 + 1 + 1) (by simp)).allocG (wI w.heap.size)
  have kI := Blk.newAt (w4W w) 53 #[.slice (some ⟨w.heap.size + 1, 0, none⟩) 1 1, .int .i64 1, .slice (some ⟨w.heap.size + 1 + 1, 0, none⟩) 1 1, .int .i64 1, .slice (some ⟨w.heap.size + 1 + 1 + 1, 0, none⟩) 1 1, .int .i64 2] (g := w.heap.size + 1 + 1 + 1 + 1) (by simp)
  have hi3 : i = 0 ∨ i = 1 ∨ i = 2 := by simp at hi; omega
  rcases hi3 with rfl | rfl | rfl
  · exact ⟨kI.cell 0, kI.cell 1, w_row k0, fun e => by cases e⟩
  · exact ⟨kI.cell 2, kI.cell 3, w_row k1, fun e => by cases e⟩
  · exact ⟨kI.cell 4, kI.cell 5, w_row k2, fun e => by cases e⟩⟩
def wWant : List Int := [4, 3, 2, 12, 4]
theorem want_at {i : Nat} (h : i < 5) : (wOut[i]?.getD v0).2.1 = wWant[i]?.getD 0 := by
  have hi5 : i = 0 ∨ i = 1 ∨ i = 2 ∨ i = 3 ∨ i = 4 := by omega
  rcases hi5 with rfl | rfl | rfl | rfl | rfl <;> rfl

set_option maxRecDepth 100000 in
set_option maxHeartbeats 2000000 in
theorem awake5_any (w : World) : Calls Tryz.prog 6 #[] w (AgPost w true) := by
  have hOf := of_any (some ⟨w.heap.size, 0, none⟩) (some ⟨w.heap.size + 1 + 1 + 1 + 1, 0, none⟩) wGs 5 1 (wRs w.heap.size) 3 (by simp) (by simp) (by simp) (w5W w) (w5_aggs w) (w5_items w)
  have e : vals (wRs w.heap.size) = wBag := rfl
  rw [e, w_err, w_val] at hOf
  have HO := Lib.hid hOf
  have HB5 := Lib.hid (w5_below w)
  clear hOf e
  go_enter Tryz.func6, Tryz.ntmps6
  go_wp2_with fail
  refine HO.out.mono ?_
  rintro e w6 ⟨v6, rfl, ho6, hb6⟩
  obtain ⟨p6, c6, rfl⟩ := slice_of_owns ho6
  have HB6 := Lib.hid (HB5.out.trans (hb6.mono HB5.out.size))
  have HV6 := Lib.hid (valsIn_of_owns ho6)
  clear ho6 hb6
  have k7 := Blk.new w6 3 #[.int .i64 4, .int .i64 3, .int .i64 2, .int .i64 12, .int .i64 4]
  have b7 := below_new w6 (.cells #[.int .i64 4, .int .i64 3, .int .i64 2, .int .i64 12, .int .i64 4] 3)
  have HK7 := Lib.hid (And.intro k7 b7)
  clear k7 b7
  go_wp2_with fail
  generalize w6.alloc (.cells #[.int .i64 4, .int .i64 3, .int .i64 2, .int .i64 12, .int .i64 4] 3) = w7 at HK7 ⊢
  go_loopw [5] (fun s wr => ∃ i : Nat, i ≤ 5 ∧ s = .int .i64 i ∧ Below w7.heap.size w7 wr) (fun s _ => 5 - (intOf s).toNat)
  case atStart => exact ⟨0, by omega, rfl, Below.refl _ _⟩
  case round =>
    obtain ⟨i, hi, rfl, hB⟩ := hrel
    by_cases hlt : i < 5
    · have hVI := (HV6.out.belowV HK7.out.2).belowV hB
      obtain ⟨b, off, rfl, hbl, hra⟩ := hVI (by simp)
      obtain ⟨_, c1, _⟩ := hra i hlt
      rw [want_at hlt] at c1
      have d1 : wr.cell? ⟨w6.heap.size, i, none⟩ = some (.int .i64 (wWant[i]?.getD 0)) := by
        have := (HK7.out.1.belowV hB HK7.out.1.lt).cell i
        rw [this]
        have hi5 : i = 0 ∨ i = 1 ∨ i = 2 ∨ i = 3 ∨ i = 4 := by omega
        rcases hi5 with rfl | rfl | rfl | rfl | rfl <;> rfl
      have hi0 : (0 : Int) ≤ (i : Int) := by omega
      have hi1 : (i : Int) < (5 : Int) := by omega
      generalize wWant[i]?.getD 0 = x at c1 d1
      have hd : (x != x) = false := by simp
      clear hra hVI
      go_wp2_with fail
      go_quiet (fail)
      go_wp2_with fail
      go_roundw
      case rel => exact ⟨i + 1, by omega, by go_num, ⟨hB.os, hB.tape, hB.output, hB.size, hB.block⟩⟩
      case measure => simp [intOf]; omega
    · have hge : 5 ≤ i := by omega
      have HF := Lib.hid (HB6.out.trans ((HK7.out.2.trans (hB.mono HK7.out.2.size)).mono HB6.out.size))
      go_wp2_with fail
      go_ret
      exact ⟨rfl, HF.out⟩
end Go.Proofs.YtfoknllnknjccaaGreat
