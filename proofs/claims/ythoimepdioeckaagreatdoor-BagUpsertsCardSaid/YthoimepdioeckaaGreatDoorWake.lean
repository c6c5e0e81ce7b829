/-
  The example that every statement of this layer asks.
-/
import Derived.Test.YthoimepdioeckaaGreatDoorChg
namespace Go.Proofs.YthoimepdioeckaaGreatDoor
open Go.RowKit

abbrev one : List Val := [(1, 1, ⟨#[]⟩)]
theorem one_valid : validRow one = true := by
  unfold validRow validVs validV validP
  simp [Lib.toList_data]
theorem bag1_valid {n : Int} (h : inN n) : validBag [(one, n)] = true := validBag_iff.2 ⟨by simp, fun x hx => by
  rw [List.mem_singleton] at hx
  subst hx
  exact itOK_iff.2 ⟨one_valid, h⟩, List.pairwise_singleton _ _⟩
theorem comb_one : comb (fun x y => x - y) [(one, 1)] [(one, 2)] = [(one, -1)] := by
  unfold comb mapped
  rw [pairsL, if_neg (by rw [cmpRow_ok.refl]; decide), if_neg (by rw [cmpRow_ok.refl]; decide), pairsL]
  simp [nz, become]
theorem wake_err : chgErr [(one, 2)] [(one, 1)] 0 = 0 := by
  have h1 : validBag [(one, 2)] = true := bag1_valid ⟨by decide, by decide, by decide⟩
  have h2 : validBag [(one, 1)] = true := bag1_valid ⟨by decide, by decide, by decide⟩
  have h3 : validBag [(one, -1)] = true := bag1_valid ⟨by decide, by decide, by decide⟩
  unfold chgErr combErr toldErr
  rw [if_pos ⟨h1, h2⟩, if_pos ⟨by decide, by decide⟩, if_pos ⟨h2, h1⟩, comb_one, if_pos h3]
theorem wake_val : chgVal [(one, 2)] [(one, 1)] 0 = [(0, one, -1)] := by
  have h1 : validBag [(one, 2)] = true := bag1_valid ⟨by decide, by decide, by decide⟩
  have h2 : validBag [(one, 1)] = true := bag1_valid ⟨by decide, by decide, by decide⟩
  have h3 : validBag [(one, -1)] = true := bag1_valid ⟨by decide, by decide, by decide⟩
  unfold chgVal
  rw [wake_err, if_pos rfl]
  unfold combVal toldVal
  rw [if_pos ⟨h2, h1⟩, comb_one, if_pos h3]
  rfl

theorem ok_one {W : World} {B : Nat} (h : Blk W B 62 #[.int .i64 1, .int .i64 1, .string ⟨#[]⟩]) : RowOK W ((some ⟨B, 0, none⟩, one, 1) : RowV) :=
  ⟨by simp, fun _ => ⟨B, 0, rfl, h.lt, fun i hi => by
    have hi0 : i = 0 := by simp at hi; omega
    subst hi0
    exact ⟨h.cell 0, h.cell 1, h.cell 2⟩⟩⟩
theorem items_one {W : World} {A B : Nat} {n : Int} (ha : Blk W A 62 #[.int .i64 1, .int .i64 1, .string ⟨#[]⟩]) (hb : Blk W B 60 #[.slice (some ⟨A, 0, none⟩) 1 1, .int .i64 n]) :
    ItemsIn W (some ⟨B, 0, none⟩) [((some ⟨A, 0, none⟩, one, 1), n)] := fun _ => ⟨B, 0, rfl, hb.lt, fun i hi => by
    have hi0 : i = 0 := by simp at hi; omega
    subst hi0
    exact ⟨hb.cell 0, hb.cell 1, ok_one ha, fun e => by cases e⟩⟩

set_option maxRecDepth 100000 in
set_option maxHeartbeats 1000000 in
theorem awake_any (w : World) : Calls Tryz.prog 10 #[] w fun e w' => e = .returned (.bool true) ∧ Below w.heap.size w w' := by
  obtain ⟨b3, k1, k2, k3, ks⟩ := three_new w #[.int .i64 1, .int .i64 1, .string ⟨#[]⟩] #[.slice (some ⟨w.heap.size, 0, none⟩) 1 1, .int .i64 2] #[.slice (some ⟨w.heap.size, 0, none⟩) 1 1, .int .i64 1] 62 60 60
  have hc := Changes_any (some ⟨w.heap.size + 1, 0, none⟩) (some ⟨w.heap.size + 1 + 1, 0, none⟩) [((some ⟨w.heap.size, 0, none⟩, one, 1), 2)] [((some ⟨w.heap.size, 0, none⟩, one, 1), 1)] 1 1 0 (by simp) (by simp) (by simp) (by simp) _ (items_one k1 k2) (items_one k1 k3)
  have e1 : vals [((some ⟨w.heap.size, 0, none⟩, one, 1), (2 : Int))] = [(one, 2)] := rfl
  have e2 : vals [((some ⟨w.heap.size, 0, none⟩, one, 1), (1 : Int))] = [(one, 1)] := rfl
  rw [e1, e2, wake_err, wake_val] at hc
  have HC := Lib.hid hc
  have HK := Lib.hid k1
  clear hc e1 e2 k1 k2 k3
  go_enter Tryz.func10, Tryz.ntmps10
  go_wp2_with fail
  refine HC.out.mono ?_
  rintro e w4 ⟨p4, c4, cap4, rfl, hv4, _, hl4, hi4, hb4⟩
  have hB4 : Below w.heap.size w w4 := b3.trans (hb4.mono (by omega))
  have hk4 := HK.out.belowV hb4 (by omega)
  have hbA : Below w4.heap.size w4 (w4.alloc (.cells #[.int .i64 0, .slice (some ⟨w.heap.size, 0, none⟩) 1 1, .int .i64 (-1)] 40)) := (Below.refl _ _).alloc (Nat.le_refl _) _
  have hs := SameC_any p4 (some ⟨w4.heap.size, 0, none⟩) c4 [(0, (some ⟨w.heap.size, 0, none⟩, one, 1), -1)] cap4 1 hv4 (by omega) _ (hi4.belowV hbA) (fun _ => ⟨w4.heap.size, 0, rfl, by simp, fun i hi => by
    have hi0 : i = 0 := by simp at hi; omega
    subst hi0
    have hkk := Blk.new w4 40 #[.int .i64 0, .slice (some ⟨w.heap.size, 0, none⟩) 1 1, .int .i64 (-1)]
    exact ⟨hkk.cell 0, hkk.cell 1, hkk.cell 2, ok_one (hk4.belowV hbA hk4.lt), fun e => by cases e⟩⟩)
  have HS := Lib.hid hs
  have HBA := Lib.hid (hB4.trans (hbA.mono hB4.size))
  have HZ := HBA.out.size
  clear hs hbA hb4 hB4 hk4 hv4 hi4 hl4
  go_wp2_with fail
  refine HS.out.mono ?_
  rintro e w5 ⟨rfl, hb5⟩
  go_wp2_with fail
  go_ret
  exact ⟨rfl, HBA.out.trans (hb5.mono HZ)⟩
#print axioms awake_any
end Go.Proofs.YthoimepdioeckaaGreatDoor
