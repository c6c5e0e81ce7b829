/-
  Several texts in one.
-/
import Derived.Test.YtfoknllnknjccaaGreatTelA
/-!
  What the document tells of one row.
-/
namespace Go.Proofs.YtfoknllnknjccaaGreat
open Go.RowKit
set_option linter.unusedSimpArgs false
set_option linter.unusedVariables false

set_option maxRecDepth 100000 in
set_option maxHeartbeats 2000000 in
theorem tellO_2_int (m b off b2 off2 len qc d : Nat) (x1 : Int) (x2 : ByteArray) (hm : m < len) (w : World) (hb : b < w.heap.size) (hb2 : b2 < w.heap.size) (h0 : w.cell? ⟨b, off, none⟩ = some (.slice (some ⟨b2, off2, none⟩) len qc)) (h1 : w.cell? ⟨b, off + 1, none⟩ = some (.int .i64 1))
    (y0 : w.cell? ⟨b2, off2 + m * 3, none⟩ = some (.int .i64 1)) (y1 : w.cell? ⟨b2, off2 + m * 3 + 1, none⟩ = some (.int .i64 x1)) (y2 : w.cell? ⟨b2, off2 + m * 3 + 2, none⟩ = some (.string ⟨#[]⟩)) :
    Calls Tryz.prog 76 #[.agg #[.int .i64 2, .int .i64 (m : Int)], .slice (some ⟨b, off, none⟩) 1 d] w (ValPost w (tellK 2 [((1, x1, ⟨#[]⟩), 1)])) := by
  have HRES : Hid (tellK 2 [((1, x1, ⟨#[]⟩), 1)] = (1, 1, ⟨#[]⟩)) := Lib.hid (by
    simp [tellK, valStep, nul, w_1, numV_1])
  generalize tellK 2 [((1, x1, ⟨#[]⟩), 1)] = res at HRES ⊢
  have b1 : Below w.heap.size w (w.alloc (.cells #[.int .i64 2, .int .i64 (m : Int)] 59)) := below_new _ _
  have b2' : Below w.heap.size w ((w.alloc (.cells #[.int .i64 2, .int .i64 (m : Int)] 59)).alloc (.cells #[.int .i64 0, .int .i64 0, .string ⟨#[]⟩] 55)) := b1.alloc b1.size _
  have b3 : Below w.heap.size w (((w.alloc (.cells #[.int .i64 2, .int .i64 (m : Int)] 59)).alloc (.cells #[.int .i64 0, .int .i64 0, .string ⟨#[]⟩] 55)).alloc (.cells #[.int .i64 0, .int .i64 0, .int .i64 0] 141)) := b2'.alloc b2'.size _
  have k3 := ((Blk.new w 59 #[.int .i64 2, .int .i64 (m : Int)]).allocG (.cells #[.int .i64 0, .int .i64 0, .string ⟨#[]⟩] 55)).allocG (.cells #[.int .i64 0, .int .i64 0, .int .i64 0] 141)
  have g3 := (Blk.newAt (w.alloc (.cells #[.int .i64 2, .int .i64 (m : Int)] 59)) 55 #[.int .i64 0, .int .i64 0, .string ⟨#[]⟩] (g := w.heap.size + 1) (by simp)).allocG (.cells #[.int .i64 0, .int .i64 0, .int .i64 0] 141)
  have l3 := Blk.newAt ((w.alloc (.cells #[.int .i64 2, .int .i64 (m : Int)] 59)).alloc (.cells #[.int .i64 0, .int .i64 0, .string ⟨#[]⟩] 55)) 141 #[.int .i64 0, .int .i64 0, .int .i64 0] (g := w.heap.size + 2) (by simp)
  have K3 := Lib.hid k3
  have G3 := Lib.hid g3
  have L3 := Lib.hid l3
  have HB := Lib.hid b3
  have hbb := hb
  have hsz : (((w.alloc (.cells #[.int .i64 2, .int .i64 (m : Int)] 59)).alloc (.cells #[.int .i64 0, .int .i64 0, .string ⟨#[]⟩] 55)).alloc (.cells #[.int .i64 0, .int .i64 0, .int .i64 0] 141)).heap.size = w.heap.size + 3 := by simp
  clear b1 b2' b3 k3 g3 l3
  go_enter Tryz.func76, Tryz.ntmps76
  generalize hW : ((w.alloc (.cells #[.int .i64 2, .int .i64 (m : Int)] 59)).alloc (.cells #[.int .i64 0, .int .i64 0, .string ⟨#[]⟩] 55)).alloc (.cells #[.int .i64 0, .int .i64 0, .int .i64 0] 141) = W3 at *
  have HOLD := Lib.hid (show ∀ W, Below w.heap.size w W → W.cell? ⟨b, off, none⟩ = some (.slice (some ⟨b2, off2, none⟩) len qc) ∧ W.cell? ⟨b, off + 1, none⟩ = some (.int .i64 1) ∧ W.cell? ⟨b2, off2 + m * 3, none⟩ = some (.int .i64 1) ∧ W.cell? ⟨b2, off2 + m * 3 + 1, none⟩ = some (.int .i64 x1) ∧ W.cell? ⟨b2, off2 + m * 3 + 2, none⟩ = some (.string ⟨#[]⟩) from fun W h =>
    ⟨(h.cell (p := ⟨b, off, none⟩) hb).trans h0, (h.cell (p := ⟨b, off + 1, none⟩) hb).trans h1, (h.cell (p := ⟨b2, off2 + m * 3, none⟩) hb2).trans y0, (h.cell (p := ⟨b2, off2 + m * 3 + 1, none⟩) hb2).trans y1, (h.cell (p := ⟨b2, off2 + m * 3 + 2, none⟩) hb2).trans y2⟩)
  clear h0 h1 y0 y1 y2 hbb
  go_wp2_with fail
  go_loopw [5, 6, 7, 9, 10, 11, 12, 13] (fun a b c d e _ _ _ wr => (a = .int .i64 0 ∧ b = .int .i64 0 ∧ c = .int .i64 0 ∧ d = .slice none 0 0 ∧ e = .int .i64 0 ∧ wr = W3) ∨ (a = .int .i64 1 ∧ b = .int .i64 1 ∧ c = .int .i64 1 ∧ (∃ g cap, d = .slice (some ⟨g, 0, none⟩) 1 cap ∧ Hid (OwnsV wr W3.heap.size d [(1, x1, ⟨#[]⟩)])) ∧ e = .int .i64 1 ∧ Blk wr w.heap.size 59 #[.int .i64 2, .int .i64 (m : Int)] ∧ Blk wr (w.heap.size + 1) 55 #[.int .i64 0, .int .i64 0, .string ⟨#[]⟩] ∧ Blk wr (w.heap.size + 2) 141 #[.int .i64 (addS (0, 0, 0) x1 1).1, .int .i64 (addS (0, 0, 0) x1 1).2.1, .int .i64 (addS (0, 0, 0) x1 1).2.2] ∧ Below w.heap.size w wr)) (fun _ _ _ _ e _ _ _ _ => 1 - (RowKit.intOf e).toNat)
  case atStart => exact .inl ⟨rfl, rfl, rfl, rfl, rfl, rfl⟩
  case round =>
    rcases hrel with ⟨rfl, rfl, rfl, rfl, rfl, rfl⟩ | ⟨rfl, rfl, rfl, ⟨g, cap, rfl, hO⟩, rfl, hK, hG, hL, hBB⟩
    · obtain ⟨i0, hi, hz0, hz1, hz2⟩ := info_parts infoV
      obtain ⟨o0, o1, o2, o3, o4⟩ := HOLD.out wr HB.out
      have k0 := K3.out.cell 0
      have k1 := K3.out.cell 1
      simp only [List.getElem?_toArray, List.getElem?_cons_zero, List.getElem?_cons_succ] at k0 k1
      have hm0 : (0 : Int) ≤ (m : Int) := by omega
      have hm1 : (m : Int) < (len : Int) := by omega
      go_wp2_with fail
      go_quiet (fail)
      go_wp2_with fail
      have HB4 : Hid (Below wr.heap.size wr (wr.drewN nq)) := Lib.hid ⟨rfl, rfl, rfl, Nat.le_refl _, fun _ _ => rfl⟩
      have HZ4 : Hid ((wr.drewN nq).heap.size = wr.heap.size) := Lib.hid rfl
      generalize wr.drewN nq = W4 at *
      have HI := Lib.hid (show ∀ W, Below wr.heap.size wr W → Below wr.heap.size wr W ∧ (W.cell? ⟨b, off, none⟩ = some (.slice (some ⟨b2, off2, none⟩) len qc) ∧ W.cell? ⟨b2, off2 + m * 3, none⟩ = some (.int .i64 1) ∧ W.cell? ⟨b2, off2 + m * 3 + 1, none⟩ = some (.int .i64 x1) ∧ W.cell? ⟨b2, off2 + m * 3 + 2, none⟩ = some (.string ⟨#[]⟩) ∧ W.cell? ⟨w.heap.size, 1, none⟩ = some (.int .i64 (m : Int))) from fun W h => by
        obtain ⟨p0, _, p2, p3, p4⟩ := HOLD.out W (HB.out.trans (h.mono HB.out.size))
        have z1 := (K3.out.belowV h K3.out.lt).cell 1
        simp only [List.getElem?_toArray, List.getElem?_cons_zero, List.getElem?_cons_succ] at z1
        exact ⟨h, p0, p2, p3, p4, z1⟩)
      clear o0 o1 o2 o3 o4 k0 k1
      refine wp_region_held_drew (S := fun W : World => Below wr.heap.size wr W ∧ (W.cell? ⟨b, off, none⟩ = some (.slice (some ⟨b2, off2, none⟩) len qc) ∧ W.cell? ⟨b2, off2 + m * 3, none⟩ = some (.int .i64 1) ∧ W.cell? ⟨b2, off2 + m * 3 + 1, none⟩ = some (.int .i64 x1) ∧ W.cell? ⟨b2, off2 + m * 3 + 2, none⟩ = some (.string ⟨#[]⟩) ∧ W.cell? ⟨w.heap.size, 1, none⟩ = some (.int .i64 (m : Int)))) (by kernel_rfl) (HI.out _ (HB4.out.trans ((Below.refl _ _).drew.mono HB4.out.size))) (fun hHeld => ?_)
      refine wpAnyH_take (i := 0) (oi := _) (v := ?_) rfl (by kernel_rfl) (by kernel_rfl) (by kernel_rfl) (fun _ _ _ h => h) (Or.inl ⟨by rfl, ?_⟩) (by assumption) ?_
      rotate_left
      · intro w hSw
        try dsimp only at hSw
        go_simp
        all_goals with_reducible rfl
      simp only [List.getElem_toArray, List.getElem_cons_succ, List.getElem_cons_zero, Act.put, List.setIfInBounds_toArray, List.set_cons_zero, List.set_cons_succ]
      refine wpAnyH_take (i := 1) (oi := _) (v := ?_) rfl (by kernel_rfl) (by kernel_rfl) (by kernel_rfl) (fun _ _ _ h => h) (Or.inl ⟨by rfl, ?_⟩) (by assumption) ?_
      rotate_left
      · intro w hSw
        try dsimp only at hSw
        go_simp
        all_goals with_reducible rfl
      simp only [List.getElem_toArray, List.getElem_cons_succ, List.getElem_cons_zero, Act.put, List.setIfInBounds_toArray, List.set_cons_zero, List.set_cons_succ]
      refine wpAnyH_take (i := 2) (oi := _) (v := ?_) rfl (by kernel_rfl) (by kernel_rfl) (by kernel_rfl) (fun _ _ _ h => h) (Or.inl ⟨by rfl, ?_⟩) (by assumption) ?_
      rotate_left
      · intro w hSw
        try dsimp only at hSw
        go_simp
        all_goals with_reducible rfl
      simp only [List.getElem_toArray, List.getElem_cons_succ, List.getElem_cons_zero, Act.put, List.setIfInBounds_toArray, List.set_cons_zero, List.set_cons_succ]
      refine wpAnyH_take (i := 3) (oi := _) (v := ?_) rfl (by kernel_rfl) (by kernel_rfl) (by kernel_rfl) (fun _ _ _ h => h) (Or.inl ⟨by rfl, ?_⟩) (by assumption) ?_
      rotate_left
      · intro w hSw
        try dsimp only at hSw
        go_simp
        all_goals with_reducible rfl
      simp only [List.getElem_toArray, List.getElem_cons_succ, List.getElem_cons_zero, Act.put, List.setIfInBounds_toArray, List.set_cons_zero, List.set_cons_succ]
      refine wpAnyH_take (i := 4) (oi := _) (v := ?_) rfl (by kernel_rfl) (by kernel_rfl) (by kernel_rfl) (fun _ _ _ h => h) (Or.inl ⟨by rfl, ?_⟩) (by assumption) ?_
      rotate_left
      · intro w hSw
        try dsimp only at hSw
        go_simp
        all_goals with_reducible rfl
      simp only [List.getElem_toArray, List.getElem_cons_succ, List.getElem_cons_zero, Act.put, List.setIfInBounds_toArray, List.set_cons_zero, List.set_cons_succ]
      refine wpAnyH_take (i := 5) (oi := _) (v := ?_) rfl (by kernel_rfl) (by kernel_rfl) (by kernel_rfl) (fun _ _ _ h => h) (Or.inl ⟨by rfl, ?_⟩) (by assumption) ?_
      rotate_left
      · intro w hSw
        try dsimp only at hSw
        go_simp
        all_goals with_reducible rfl
      simp only [List.getElem_toArray, List.getElem_cons_succ, List.getElem_cons_zero, Act.put, List.setIfInBounds_toArray, List.set_cons_zero, List.set_cons_succ]
      refine wpAnyH_take (i := 6) (oi := _) (v := ?_) rfl (by kernel_rfl) (by kernel_rfl) (by kernel_rfl) (fun _ _ _ h => h) (Or.inl ⟨by rfl, ?_⟩) (by assumption) ?_
      rotate_left
      · intro w hSw
        try dsimp only at hSw
        go_simp
        all_goals with_reducible rfl
      simp only [List.getElem_toArray, List.getElem_cons_succ, List.getElem_cons_zero, Act.put, List.setIfInBounds_toArray, List.set_cons_zero, List.set_cons_succ]
      refine wpAnyH_take (i := 7) (oi := _) (v := ?_) rfl (by kernel_rfl) (by kernel_rfl) (by kernel_rfl) (fun _ _ _ h => h) (Or.inl ⟨by rfl, ?_⟩) (by assumption) ?_
      rotate_left
      · intro w hSw
        try dsimp only at hSw
        go_simp
        all_goals with_reducible rfl
      simp only [List.getElem_toArray, List.getElem_cons_succ, List.getElem_cons_zero, Act.put, List.setIfInBounds_toArray, List.set_cons_zero, List.set_cons_succ]
      refine wpAnyH_take (i := 8) (oi := _) (v := ?_) rfl (by kernel_rfl) (by kernel_rfl) (by kernel_rfl) (fun _ _ _ h => h) (Or.inl ⟨by rfl, ?_⟩) (by assumption) ?_
      rotate_left
      · intro w hSw
        try dsimp only at hSw
        go_simp
        all_goals with_reducible rfl
      simp only [List.getElem_toArray, List.getElem_cons_succ, List.getElem_cons_zero, Act.put, List.setIfInBounds_toArray, List.set_cons_zero, List.set_cons_succ]
      refine wpAnyH_ready (rs := [9]) (by kernel_rfl) (by simp) ?_
      refine AllReadyH.cons (o := _) rfl (fun K hK => ?_) AllReadyH.nil
      go_simp
      refine hK.out _ _ (HI.out _ (hHeld.1.alloc hHeld.1.size _)) (fun hHeld1 => ?_)
      clear hHeld
      clear hK K
      try simp only [List.getElem_toArray, List.getElem_cons_succ, List.getElem_cons_zero, Act.put, List.setIfInBounds_toArray, List.set_cons_zero, List.set_cons_succ]
      have hN5 := Blk.newAt W4.drew 55 #[.int .i64 0, .int .i64 0, .string ⟨#[]⟩] (g := W4.heap.size) rfl
      have f0 := hN5.froz 0
      have f1 := hN5.froz 1
      have f2 := hN5.froz 2
      have d0 := hN5.cell 0
      have d1 := hN5.cell 1
      have d2 := hN5.cell 2
      simp only [List.getElem?_toArray, List.getElem?_cons_zero, List.getElem?_cons_succ] at d0 d1 d2
      have HN5 := Lib.hid hN5
      clear hN5
      refine wpAnyH_ready (rs := [10]) (by kernel_rfl) (by simp) ?_
      refine AllReadyH.cons (o := _) rfl (fun K hK => ?_) AllReadyH.nil
      go_simp
      have HW5 := Lib.hid (show Below wr.heap.size wr (W4.alloc (.cells #[.int .i64 1, .int .i64 x1, .string ⟨#[]⟩] 55)).drew from (HB4.out.alloc HB4.out.size _).trans ((Below.refl _ _).drew.mono (by have := HB4.out.size; simp; omega)))
      have HN6 := Lib.hid ((Blk.newAt W4 55 #[.int .i64 1, .int .i64 x1, .string ⟨#[]⟩] (g := W4.heap.size) rfl).drewG)
      refine hK.out _ _ (HI.out _ HW5.out) (fun hHeld2 => ?_)
      clear hHeld1 f0 f1 f2 d0 d1 d2 HN5
      clear hK K
      try simp only [List.getElem_toArray, List.getElem_cons_succ, List.getElem_cons_zero, Act.put, List.setIfInBounds_toArray, List.set_cons_zero, List.set_cons_succ]
      refine wpAnyH_done (by kernel_rfl) ?_ _
      clear hHeld2
      generalize (W4.alloc (.cells #[.int .i64 1, .int .i64 x1, .string ⟨#[]⟩] 55)).drew = W5 at *
      have HZ5 := Lib.hid (show wr.heap.size ≤ W4.heap.size from HB4.out.size)
      have n0 := HN6.out.cell 0
      have n1 := HN6.out.cell 1
      have n2 := HN6.out.cell 2
      simp only [List.getElem?_toArray, List.getElem?_cons_zero, List.getElem?_cons_succ] at n0 n1 n2
      obtain ⟨o0, o1, o2, o3, o4⟩ := HOLD.out W5 (HB.out.trans (HW5.out.mono HB.out.size))
      clear HB4 HZ4
      generalize W4.heap.size = n4 at *
      go_wp2_with fail
      have l5 := L3.out.belowV HW5.out L3.out.lt
      have HK5 := Lib.hid (K3.out.belowV HW5.out K3.out.lt)
      have HG5 := Lib.hid (G3.out.belowV HW5.out G3.out.lt)
      have HL5 := Lib.hid l5
      have HBW := Lib.hid (HB.out.trans (HW5.out.mono HB.out.size))
      have HSW := Lib.hid HW5.out.size
      have hHs := HW5.out.size
      have HAD := Lib.hid fun W => (show Calls Tryz.prog 95 #[.agg #[.int .i64 0, .int .i64 0, .int .i64 0], .int .i64 x1, .int .i64 1] W (SumPost W (addS (0, 0, 0) x1 1)) from added_any (0, 0, 0) x1 1 W)
      obtain ⟨sm, hsm⟩ : ∃ sm, sm = addS (0, 0, 0) x1 1 := ⟨_, rfl⟩
      rw [← hsm] at HAD
      have HSM := Lib.hid hsm
      clear hsm
      obtain ⟨s0, s1, s2⟩ := sm
      have l0 := l5.cell 0
      have l1 := l5.cell 1
      have l2 := l5.cell 2
      simp only [List.getElem?_toArray, List.getElem?_cons_zero, List.getElem?_cons_succ] at l0 l1 l2
      clear l5
      refine wp_region_held_drew (S := fun W : World => W.cell? ⟨n4, 1, none⟩ = some (.int .i64 x1) ∧ W.cell? ⟨b, off + 1, none⟩ = some (.int .i64 1)) (by kernel_rfl) ⟨n1, o1⟩ (fun hHeld => ?_)
      refine wpAnyH_take (i := 1) (oi := _) (v := ?_) rfl (by kernel_rfl) (by kernel_rfl) (by kernel_rfl) (fun _ _ _ h => h) (Or.inl ⟨by rfl, ?_⟩) (by assumption) ?_
      rotate_left
      · intro w hSw
        try dsimp only at hSw
        go_simp
        all_goals with_reducible rfl
      simp only [List.getElem_toArray, List.getElem_cons_succ, List.getElem_cons_zero, Act.put, List.setIfInBounds_toArray, List.set_cons_zero, List.set_cons_succ]
      refine wpAnyH_take (i := 2) (oi := _) (v := ?_) rfl (by kernel_rfl) (by kernel_rfl) (by kernel_rfl) (fun _ _ _ h => h) (Or.inl ⟨by rfl, ?_⟩) (by assumption) ?_
      rotate_left
      · intro w hSw
        try dsimp only at hSw
        go_simp
        all_goals with_reducible rfl
      simp only [List.getElem_toArray, List.getElem_cons_succ, List.getElem_cons_zero, Act.put, List.setIfInBounds_toArray, List.set_cons_zero, List.set_cons_succ]
      refine wpAnyH_take (i := 3) (oi := _) (v := ?_) rfl (by kernel_rfl) (by kernel_rfl) (by kernel_rfl) (fun _ _ _ h => h) (Or.inl ⟨by rfl, ?_⟩) (by assumption) ?_
      rotate_left
      · intro w hSw
        try dsimp only at hSw
        go_simp
        all_goals with_reducible rfl
      simp only [List.getElem_toArray, List.getElem_cons_succ, List.getElem_cons_zero, Act.put, List.setIfInBounds_toArray, List.set_cons_zero, List.set_cons_succ]
      refine wpAnyH_take (i := 4) (oi := _) (v := ?_) rfl (by kernel_rfl) (by kernel_rfl) (by kernel_rfl) (fun _ _ _ h => h) (Or.inl ⟨by rfl, ?_⟩) (by assumption) ?_
      rotate_left
      · intro w hSw
        try dsimp only at hSw
        go_simp
        all_goals with_reducible rfl
      simp only [List.getElem_toArray, List.getElem_cons_succ, List.getElem_cons_zero, Act.put, List.setIfInBounds_toArray, List.set_cons_zero, List.set_cons_succ]
      refine wpAnyH_take (i := 5) (oi := _) (v := ?_) rfl (by kernel_rfl) (by kernel_rfl) (by kernel_rfl) (fun _ _ _ h => h) (Or.inl ⟨by rfl, ?_⟩) (by assumption) ?_
      rotate_left
      · intro w hSw
        try dsimp only at hSw
        go_simp
        all_goals with_reducible rfl
      simp only [List.getElem_toArray, List.getElem_cons_succ, List.getElem_cons_zero, Act.put, List.setIfInBounds_toArray, List.set_cons_zero, List.set_cons_succ]
      refine wpAnyH_take (i := 6) (oi := _) (v := ?_) rfl (by kernel_rfl) (by kernel_rfl) (by kernel_rfl) (fun _ _ _ h => h) (Or.inl ⟨by rfl, ?_⟩) (by assumption) ?_
      rotate_left
      · intro w hSw
        try dsimp only at hSw
        go_simp
        all_goals with_reducible rfl
      simp only [List.getElem_toArray, List.getElem_cons_succ, List.getElem_cons_zero, Act.put, List.setIfInBounds_toArray, List.set_cons_zero, List.set_cons_succ]
      refine wpAnyH_take (i := 7) (oi := _) (v := ?_) rfl (by kernel_rfl) (by kernel_rfl) (by kernel_rfl) (fun _ _ _ h => h) (Or.inl ⟨by rfl, ?_⟩) (by assumption) ?_
      rotate_left
      · intro w hSw
        try dsimp only at hSw
        go_simp
        all_goals with_reducible rfl
      simp only [List.getElem_toArray, List.getElem_cons_succ, List.getElem_cons_zero, Act.put, List.setIfInBounds_toArray, List.set_cons_zero, List.set_cons_succ]
      refine wpAnyH_ready (rs := [0]) (by kernel_rfl) (by simp) ?_
      refine AllReadyH.cons (o := _) rfl (fun K hK => ?_) AllReadyH.nil
      go_simp
      refine hK.out _ _ hHeld (fun hHeld1 => ?_)
      clear hHeld
      clear hK K
      try simp only [List.getElem_toArray, List.getElem_cons_succ, List.getElem_cons_zero, Act.put, List.setIfInBounds_toArray, List.set_cons_zero, List.set_cons_succ]
      refine wpAnyH_ready (rs := [8]) (by kernel_rfl) (by simp) ?_
      refine AllReadyH.cons (o := _) rfl (fun K hK => ?_) AllReadyH.nil
      go_simp
      refine (HAD.out _).mono ?_
      rintro e w8 ⟨rfl, hb8⟩
      have hbw : Below W5.heap.size W5 w8 := (Below.refl _ _).drew.trans hb8
      have HL8 := Lib.hid (HL5.out.belowV hbw HL5.out.lt)
      have HK8 := Lib.hid (HK5.out.belowV hbw HK5.out.lt)
      have HG8 := Lib.hid (HG5.out.belowV hbw HG5.out.lt)
      have HN8 := Lib.hid (HN6.out.belowV hbw HN6.out.lt)
      have HBW8 := Lib.hid (HBW.out.trans (hbw.mono HBW.out.size))
      have HSW8 := Lib.hid (Nat.le_trans HSW.out hbw.size)
      have hS8 : w8.cell? ⟨n4, 1, none⟩ = some (.int .i64 x1) ∧ w8.cell? ⟨b, off + 1, none⟩ = some (.int .i64 1) := ⟨(hbw.cell (p := ⟨n4, 1, none⟩) HN6.out.lt).trans n1, (HOLD.out w8 HBW8.out).2.1⟩
      dsimp only [sumV]
      refine hK.out _ _ hS8 (fun hHeld2 => ?_)
      clear hHeld1 hb8 hbw hS8 l0 l1 l2 n0 n1 n2 o0 o1 o2 o3 o4
      clear hK K
      try simp only [List.getElem_toArray, List.getElem_cons_succ, List.getElem_cons_zero, Act.put, List.setIfInBounds_toArray, List.set_cons_zero, List.set_cons_succ]
      have f0 := HL8.out.froz 0
      have f1 := HL8.out.froz 1
      have f2 := HL8.out.froz 2
      have d0 := HL8.out.cell 0
      have d1 := HL8.out.cell 1
      have d2 := HL8.out.cell 2
      simp only [List.getElem?_toArray, List.getElem?_cons_zero, List.getElem?_cons_succ] at d0 d1 d2
      refine wpAnyH_ready (rs := [9]) (by kernel_rfl) (by simp) ?_
      refine AllReadyH.cons (o := _) rfl (fun K hK => ?_) AllReadyH.nil
      go_simp
      have hL9 : Blk (((w8.setCell ⟨w.heap.size + 1 + 1, 0, none⟩ (.int .i64 s0)).setCell ⟨w.heap.size + 1 + 1, 1, none⟩ (.int .i64 s1)).setCell ⟨w.heap.size + 1 + 1, 2, none⟩ (.int .i64 s2)) (w.heap.size + 1 + 1) 141 #[.int .i64 s0, .int .i64 s1, .int .i64 s2] := by
        simpa using ((HL8.out.setG 0 (.int .i64 s0)).setG 1 (.int .i64 s1)).setG 2 (.int .i64 s2)
      have hne9 : n4 ≠ w.heap.size + 1 + 1 := by have := L3.out.lt; have := HZ5.out; omega
      have hN9 := Lib.hid (((HN8.out.setOther (j := 0) hne9 (.int .i64 s0)).setOther (j := 1) hne9 (.int .i64 s1)).setOther (j := 2) hne9 (.int .i64 s2))
      have hK9 := Lib.hid (((HK8.out.setOther (C := w.heap.size + 1 + 1) (j := 0) (by omega) (.int .i64 s0)).setOther (C := w.heap.size + 1 + 1) (j := 1) (by omega) (.int .i64 s1)).setOther (C := w.heap.size + 1 + 1) (j := 2) (by omega) (.int .i64 s2))
      have hG9 := Lib.hid (((HG8.out.setOther (C := w.heap.size + 1 + 1) (j := 0) (by omega) (.int .i64 s0)).setOther (C := w.heap.size + 1 + 1) (j := 1) (by omega) (.int .i64 s1)).setOther (C := w.heap.size + 1 + 1) (j := 2) (by omega) (.int .i64 s2))
      have HBW9 := Lib.hid (((HBW8.out.setCell (p := ⟨w.heap.size + 1 + 1, 0, none⟩) (by simp; omega) (.int .i64 s0)).setCell (p := ⟨w.heap.size + 1 + 1, 1, none⟩) (by simp; omega) (.int .i64 s1)).setCell (p := ⟨w.heap.size + 1 + 1, 2, none⟩) (by simp; omega) (.int .i64 s2))
      have HSW9 : Hid (wr.heap.size ≤ (((w8.setCell ⟨w.heap.size + 1 + 1, 0, none⟩ (.int .i64 s0)).setCell ⟨w.heap.size + 1 + 1, 1, none⟩ (.int .i64 s1)).setCell ⟨w.heap.size + 1 + 1, 2, none⟩ (.int .i64 s2)).heap.size) := Lib.hid (by have := HSW8.out; simp [World.setCell]; omega)
      have hL9 := Lib.hid hL9
      have z1 := hN9.out.cell 1
      simp only [List.getElem?_toArray, List.getElem?_cons_zero, List.getElem?_cons_succ] at z1
      refine hK.out _ _ ⟨z1, (HOLD.out _ HBW9.out).2.1⟩ (fun hHeld3 => ?_)
      clear hHeld2 f0 f1 f2 d0 d1 d2 z1
      clear hK K
      try simp only [List.getElem_toArray, List.getElem_cons_succ, List.getElem_cons_zero, Act.put, List.setIfInBounds_toArray, List.set_cons_zero, List.set_cons_succ]
      refine wpAnyH_done (by kernel_rfl) ?_ _
      clear hHeld3
      clear HW5 HN6 HK5 HG5 HL5 HBW HSW hHs HL8 HK8 HG8 HN8 HBW8 HSW8
      generalize ((w8.setCell ⟨w.heap.size + 1 + 1, 0, none⟩ (.int .i64 s0)).setCell ⟨w.heap.size + 1 + 1, 1, none⟩ (.int .i64 s1)).setCell ⟨w.heap.size + 1 + 1, 2, none⟩ (.int .i64 s2) = W5 at *
      have HN6 := hN9
      have hW55 := HSW9.out
      go_wp2_with fail
      go_wp2_with fail
      go_loopw [12] (fun s wr6 => s = .int .i64 0 ∧ W5 = wr6) (fun _ _ => 0)
      case atStart => exact ⟨rfl, rfl⟩
      case round =>
        obtain ⟨rfl, rfl⟩ := hrel
        go_wp2_with fail
        go_quiet (fail)
        go_wp2_with fail
        go_quiet (fail)
        have hn4 := HN6.out.lt
        have hne4 : n4 ≠ W5.heap.size := by omega
        have hsz4 := HZ5.out
        have hw6 : W5.heap.size ≠ n4 := by omega
        have hN8 : ∀ q : Nat, Blk ((W5.drewN q).alloc (.cells #[] 55)) n4 55 #[.int .i64 1, .int .i64 x1, .string ⟨#[]⟩] := fun q => (show Blk (W5.drewN q) n4 55 #[.int .i64 1, .int .i64 x1, .string ⟨#[]⟩] from HN6.out).allocG _
        have a0 := fun q => (hN8 q).cell 0
        have a1 := fun q => (hN8 q).cell 1
        have a2 := fun q => (hN8 q).cell 2
        simp only [List.getElem?_toArray, List.getElem?_cons_zero, List.getElem?_cons_succ] at a0 a1 a2
        clear hN8
        have HOW := Lib.hid (fun (W6 : World) => (show ((W6.alloc (.cells #[] 55)).alloc (.cells #[.int .i64 1, .int .i64 x1, .string ⟨#[]⟩] 55)).ownsRow W6.heap.size 55 3 (.slice (some ⟨W6.heap.size, 0, none⟩) 0 0) 0 [] from (World.ownsRow_made W6 #[] 0 (Nat.le_refl _) (Nat.zero_le _) rfl).alloc _))
        have HB6 := Lib.hid (fun (q : Nat) => (show Below W5.heap.size W5 (W5.drewN q) from ⟨rfl, rfl, rfl, Nat.le_refl _, fun _ _ => rfl⟩))
        go_wp2_with (at_builtin; refine wpList_append_own _ rfl _ _ 33 rfl W5.heap.size 55 i0 (.agg #[.int .i64 0, .int .i64 0, .string ⟨#[]⟩]) 3 32 Tryz.underlying33 hi hz0 hz1 hz2 rfl (by decide) _ 0 [] rfl (HOW.out _) ⟨W5.heap.size + 1, 0, none⟩ 1 1 (cellsV (1, x1, ⟨#[]⟩)) rfl rfl (cells_at _ _ _ (by simp)) (by simp [cellsV, Value.oneCell']) (by unfold maxLen; omega) (by omega) (by simp <;> omega) ?_; intro v' w7 hown' hgrow _; have HB7 := Lib.hid (show Below W5.heap.size W5 w7 from (((HB6.out _).alloc (HB6.out _).size (.cells #[] 55)).alloc (by simp <;> omega) (.cells #[.int .i64 1, .int .i64 x1, .string ⟨#[]⟩] 55)).grown hgrow (by simp <;> omega) (fun k e => ((HOW.out _).lt k e).1)); have HN7 := Lib.hid hown'; obtain ⟨g7, c7, rfl, hc7, hc7m⟩ := own_one hown'; clear hown' hgrow)
        go_roundw
        case rel => exact .inr ⟨rfl, rfl, rfl, ⟨g7, c7, rfl, by
          have h := ownsRow_base HN7.out HSW9.out
          have e : flatV [((1, x1, ⟨#[]⟩) : Val)] = [] ++ cellsV (1, x1, ⟨#[]⟩) := by simp [flatV]
          show w7.ownsRow wr.heap.size 55 3 _ (0 + 1) (flatV [((1, x1, ⟨#[]⟩) : Val)])
          rw [e]
          exact h⟩, rfl, hK9.out.belowV HB7.out hK9.out.lt, hG9.out.belowV HB7.out hG9.out.lt, by rw [← HSM.out]; exact hL9.out.belowV HB7.out hL9.out.lt, HBW9.out.trans (HB7.out.mono HBW9.out.size)⟩
        case measure => simp [RowKit.intOf]
    · have hvi := valsIn_of_owns hO.out
      obtain ⟨g', o', he, hgl, hva⟩ := hvi (by simp)
      simp only [Option.some.injEq, Addr.mk.injEq, and_true] at he
      obtain ⟨rfl, rfl⟩ := he
      obtain ⟨v0, v1, v2⟩ := hva 0 (by simp)
      simp only [List.getElem?_cons_zero, Option.getD_some, Nat.zero_mul, Nat.add_zero, Nat.zero_add] at v0 v1 v2
      have l0 := hL.cell 0
      have l1 := hL.cell 1
      have l2 := hL.cell 2
      simp only [List.getElem?_toArray, List.getElem?_cons_zero, List.getElem?_cons_succ] at l0 l1 l2
      clear hO hL hva
      have k0 := hK.cell 0
      have f0 := hG.froz 0
      have f1 := hG.froz 1
      have f2 := hG.froz 2
      have d0 := hG.cell 0
      have d1 := hG.cell 1
      have d2 := hG.cell 2
      simp only [List.getElem?_toArray, List.getElem?_cons_zero, List.getElem?_cons_succ] at k0 d0 d1 d2
      have hset : Blk (((wr.setCell ⟨w.heap.size + 1, 0, none⟩ (.int .i64 1)).setCell ⟨w.heap.size + 1, 1, none⟩ (.int .i64 1)).setCell ⟨w.heap.size + 1, 2, none⟩ (.string ⟨#[]⟩)) (w.heap.size + 1) 55 #[.int .i64 1, .int .i64 1, .string ⟨#[]⟩] := by
        simpa using ((hG.setG 0 (.int .i64 1)).setG 1 (.int .i64 1)).setG 2 (.string ⟨#[]⟩)
      have HSET := Lib.hid hset
      have HBB := Lib.hid hBB
      clear hset hBB hK hG
      go_wp2_with fail
      have r0 := HSET.out.cell 0
      have r1 := HSET.out.cell 1
      have r2 := HSET.out.cell 2
      simp only [List.getElem?_toArray, List.getElem?_cons_zero, List.getElem?_cons_succ] at r0 r1 r2
      rw [HRES.out]
      refine bodyPost_ret (v := valA (1, 1, ⟨#[]⟩)) (by simp [results, Tryz.results76, go_sem, r0, r1, r2, valA]) rfl ⟨rfl, ?_⟩
      exact ((HBB.out.setCell (p := ⟨w.heap.size + 1, 0, none⟩) (by simp) _).setCell (p := ⟨w.heap.size + 1, 1, none⟩) (by simp) _).setCell (p := ⟨w.heap.size + 1, 2, none⟩) (by simp) _

set_option maxRecDepth 100000 in
set_option maxHeartbeats 2000000 in
theorem tellO_7_int (m b off b2 off2 len qc d : Nat) (x1 : Int) (x2 : ByteArray) (hm : m < len) (w : World) (hb : b < w.heap.size) (hb2 : b2 < w.heap.size) (h0 : w.cell? ⟨b, off, none⟩ = some (.slice (some ⟨b2, off2, none⟩) len qc)) (h1 : w.cell? ⟨b, off + 1, none⟩ = some (.int .i64 1))
    (y0 : w.cell? ⟨b2, off2 + m * 3, none⟩ = some (.int .i64 1)) (y1 : w.cell? ⟨b2, off2 + m * 3 + 1, none⟩ = some (.int .i64 x1)) (y2 : w.cell? ⟨b2, off2 + m * 3 + 2, none⟩ = some (.string ⟨#[]⟩)) :
    Calls Tryz.prog 76 #[.agg #[.int .i64 7, .int .i64 (m : Int)], .slice (some ⟨b, off, none⟩) 1 d] w (ValPost w (tellK 7 [((1, x1, ⟨#[]⟩), 1)])) := by
  have HRES : Hid (tellK 7 [((1, x1, ⟨#[]⟩), 1)] = (1, 1, ⟨#[]⟩)) := Lib.hid (by
    simp [tellK, seenStep, nul, numV_1])
  generalize tellK 7 [((1, x1, ⟨#[]⟩), 1)] = res at HRES ⊢
  have b1 : Below w.heap.size w (w.alloc (.cells #[.int .i64 7, .int .i64 (m : Int)] 59)) := below_new _ _
  have b2' : Below w.heap.size w ((w.alloc (.cells #[.int .i64 7, .int .i64 (m : Int)] 59)).alloc (.cells #[.int .i64 0, .int .i64 0, .string ⟨#[]⟩] 55)) := b1.alloc b1.size _
  have b3 : Below w.heap.size w (((w.alloc (.cells #[.int .i64 7, .int .i64 (m : Int)] 59)).alloc (.cells #[.int .i64 0, .int .i64 0, .string ⟨#[]⟩] 55)).alloc (.cells #[.int .i64 0, .int .i64 0, .int .i64 0] 141)) := b2'.alloc b2'.size _
  have k3 := ((Blk.new w 59 #[.int .i64 7, .int .i64 (m : Int)]).allocG (.cells #[.int .i64 0, .int .i64 0, .string ⟨#[]⟩] 55)).allocG (.cells #[.int .i64 0, .int .i64 0, .int .i64 0] 141)
  have g3 := (Blk.newAt (w.alloc (.cells #[.int .i64 7, .int .i64 (m : Int)] 59)) 55 #[.int .i64 0, .int .i64 0, .string ⟨#[]⟩] (g := w.heap.size + 1) (by simp)).allocG (.cells #[.int .i64 0, .int .i64 0, .int .i64 0] 141)
  have l3 := Blk.newAt ((w.alloc (.cells #[.int .i64 7, .int .i64 (m : Int)] 59)).alloc (.cells #[.int .i64 0, .int .i64 0, .string ⟨#[]⟩] 55)) 141 #[.int .i64 0, .int .i64 0, .int .i64 0] (g := w.heap.size + 2) (by simp)
  have K3 := Lib.hid k3
  have G3 := Lib.hid g3
  have L3 := Lib.hid l3
  have HB := Lib.hid b3
  have hbb := hb
  have hsz : (((w.alloc (.cells #[.int .i64 7, .int .i64 (m : Int)] 59)).alloc (.cells #[.int .i64 0, .int .i64 0, .string ⟨#[]⟩] 55)).alloc (.cells #[.int .i64 0, .int .i64 0, .int .i64 0] 141)).heap.size = w.heap.size + 3 := by simp
  clear b1 b2' b3 k3 g3 l3
  go_enter Tryz.func76, Tryz.ntmps76
  generalize hW : ((w.alloc (.cells #[.int .i64 7, .int .i64 (m : Int)] 59)).alloc (.cells #[.int .i64 0, .int .i64 0, .string ⟨#[]⟩] 55)).alloc (.cells #[.int .i64 0, .int .i64 0, .int .i64 0] 141) = W3 at *
  have HOLD := Lib.hid (show ∀ W, Below w.heap.size w W → W.cell? ⟨b, off, none⟩ = some (.slice (some ⟨b2, off2, none⟩) len qc) ∧ W.cell? ⟨b, off + 1, none⟩ = some (.int .i64 1) ∧ W.cell? ⟨b2, off2 + m * 3, none⟩ = some (.int .i64 1) ∧ W.cell? ⟨b2, off2 + m * 3 + 1, none⟩ = some (.int .i64 x1) ∧ W.cell? ⟨b2, off2 + m * 3 + 2, none⟩ = some (.string ⟨#[]⟩) from fun W h =>
    ⟨(h.cell (p := ⟨b, off, none⟩) hb).trans h0, (h.cell (p := ⟨b, off + 1, none⟩) hb).trans h1, (h.cell (p := ⟨b2, off2 + m * 3, none⟩) hb2).trans y0, (h.cell (p := ⟨b2, off2 + m * 3 + 1, none⟩) hb2).trans y1, (h.cell (p := ⟨b2, off2 + m * 3 + 2, none⟩) hb2).trans y2⟩)
  clear h0 h1 y0 y1 y2 hbb
  go_wp2_with fail
  go_loopw [5, 6, 7, 9, 10, 11, 12, 13] (fun a b c d e _ _ _ wr => (a = .int .i64 0 ∧ b = .int .i64 0 ∧ c = .int .i64 0 ∧ d = .slice none 0 0 ∧ e = .int .i64 0 ∧ wr = W3) ∨ (a = .int .i64 1 ∧ b = .int .i64 1 ∧ c = .int .i64 1 ∧ (∃ g cap, d = .slice (some ⟨g, 0, none⟩) 1 cap ∧ Hid (OwnsV wr W3.heap.size d [(1, x1, ⟨#[]⟩)])) ∧ e = .int .i64 1 ∧ Blk wr w.heap.size 59 #[.int .i64 7, .int .i64 (m : Int)] ∧ Blk wr (w.heap.size + 1) 55 #[.int .i64 0, .int .i64 0, .string ⟨#[]⟩] ∧ Blk wr (w.heap.size + 2) 141 #[.int .i64 (addS (0, 0, 0) x1 1).1, .int .i64 (addS (0, 0, 0) x1 1).2.1, .int .i64 (addS (0, 0, 0) x1 1).2.2] ∧ Below w.heap.size w wr)) (fun _ _ _ _ e _ _ _ _ => 1 - (RowKit.intOf e).toNat)
  case atStart => exact .inl ⟨rfl, rfl, rfl, rfl, rfl, rfl⟩
  case round =>
    rcases hrel with ⟨rfl, rfl, rfl, rfl, rfl, rfl⟩ | ⟨rfl, rfl, rfl, ⟨g, cap, rfl, hO⟩, rfl, hK, hG, hL, hBB⟩
    · obtain ⟨i0, hi, hz0, hz1, hz2⟩ := info_parts infoV
      obtain ⟨o0, o1, o2, o3, o4⟩ := HOLD.out wr HB.out
      have k0 := K3.out.cell 0
      have k1 := K3.out.cell 1
      simp only [List.getElem?_toArray, List.getElem?_cons_zero, List.getElem?_cons_succ] at k0 k1
      have hm0 : (0 : Int) ≤ (m : Int) := by omega
      have hm1 : (m : Int) < (len : Int) := by omega
      go_wp2_with fail
      go_quiet (fail)
      go_wp2_with fail
      have HB4 : Hid (Below wr.heap.size wr (wr.drewN nq)) := Lib.hid ⟨rfl, rfl, rfl, Nat.le_refl _, fun _ _ => rfl⟩
      have HZ4 : Hid ((wr.drewN nq).heap.size = wr.heap.size) := Lib.hid rfl
      generalize wr.drewN nq = W4 at *
      have HI := Lib.hid (show ∀ W, Below wr.heap.size wr W → Below wr.heap.size wr W ∧ (W.cell? ⟨b, off, none⟩ = some (.slice (some ⟨b2, off2, none⟩) len qc) ∧ W.cell? ⟨b2, off2 + m * 3, none⟩ = some (.int .i64 1) ∧ W.cell? ⟨b2, off2 + m * 3 + 1, none⟩ = some (.int .i64 x1) ∧ W.cell? ⟨b2, off2 + m * 3 + 2, none⟩ = some (.string ⟨#[]⟩) ∧ W.cell? ⟨w.heap.size, 1, none⟩ = some (.int .i64 (m : Int))) from fun W h => by
        obtain ⟨p0, _, p2, p3, p4⟩ := HOLD.out W (HB.out.trans (h.mono HB.out.size))
        have z1 := (K3.out.belowV h K3.out.lt).cell 1
        simp only [List.getElem?_toArray, List.getElem?_cons_zero, List.getElem?_cons_succ] at z1
        exact ⟨h, p0, p2, p3, p4, z1⟩)
      clear o0 o1 o2 o3 o4 k0 k1
      refine wp_region_held_drew (S := fun W : World => Below wr.heap.size wr W ∧ (W.cell? ⟨b, off, none⟩ = some (.slice (some ⟨b2, off2, none⟩) len qc) ∧ W.cell? ⟨b2, off2 + m * 3, none⟩ = some (.int .i64 1) ∧ W.cell? ⟨b2, off2 + m * 3 + 1, none⟩ = some (.int .i64 x1) ∧ W.cell? ⟨b2, off2 + m * 3 + 2, none⟩ = some (.string ⟨#[]⟩) ∧ W.cell? ⟨w.heap.size, 1, none⟩ = some (.int .i64 (m : Int)))) (by kernel_rfl) (HI.out _ (HB4.out.trans ((Below.refl _ _).drew.mono HB4.out.size))) (fun hHeld => ?_)
      refine wpAnyH_take (i := 0) (oi := _) (v := ?_) rfl (by kernel_rfl) (by kernel_rfl) (by kernel_rfl) (fun _ _ _ h => h) (Or.inl ⟨by rfl, ?_⟩) (by assumption) ?_
      rotate_left
      · intro w hSw
        try dsimp only at hSw
        go_simp
        all_goals with_reducible rfl
      simp only [List.getElem_toArray, List.getElem_cons_succ, List.getElem_cons_zero, Act.put, List.setIfInBounds_toArray, List.set_cons_zero, List.set_cons_succ]
      refine wpAnyH_take (i := 1) (oi := _) (v := ?_) rfl (by kernel_rfl) (by kernel_rfl) (by kernel_rfl) (fun _ _ _ h => h) (Or.inl ⟨by rfl, ?_⟩) (by assumption) ?_
      rotate_left
      · intro w hSw
        try dsimp only at hSw
        go_simp
        all_goals with_reducible rfl
      simp only [List.getElem_toArray, List.getElem_cons_succ, List.getElem_cons_zero, Act.put, List.setIfInBounds_toArray, List.set_cons_zero, List.set_cons_succ]
      refine wpAnyH_take (i := 2) (oi := _) (v := ?_) rfl (by kernel_rfl) (by kernel_rfl) (by kernel_rfl) (fun _ _ _ h => h) (Or.inl ⟨by rfl, ?_⟩) (by assumption) ?_
      rotate_left
      · intro w hSw
        try dsimp only at hSw
        go_simp
        all_goals with_reducible rfl
      simp only [List.getElem_toArray, List.getElem_cons_succ, List.getElem_cons_zero, Act.put, List.setIfInBounds_toArray, List.set_cons_zero, List.set_cons_succ]
      refine wpAnyH_take (i := 3) (oi := _) (v := ?_) rfl (by kernel_rfl) (by kernel_rfl) (by kernel_rfl) (fun _ _ _ h => h) (Or.inl ⟨by rfl, ?_⟩) (by assumption) ?_
      rotate_left
      · intro w hSw
        try dsimp only at hSw
        go_simp
        all_goals with_reducible rfl
      simp only [List.getElem_toArray, List.getElem_cons_succ, List.getElem_cons_zero, Act.put, List.setIfInBounds_toArray, List.set_cons_zero, List.set_cons_succ]
      refine wpAnyH_take (i := 4) (oi := _) (v := ?_) rfl (by kernel_rfl) (by kernel_rfl) (by kernel_rfl) (fun _ _ _ h => h) (Or.inl ⟨by rfl, ?_⟩) (by assumption) ?_
      rotate_left
      · intro w hSw
        try dsimp only at hSw
        go_simp
        all_goals with_reducible rfl
      simp only [List.getElem_toArray, List.getElem_cons_succ, List.getElem_cons_zero, Act.put, List.setIfInBounds_toArray, List.set_cons_zero, List.set_cons_succ]
      refine wpAnyH_take (i := 5) (oi := _) (v := ?_) rfl (by kernel_rfl) (by kernel_rfl) (by kernel_rfl) (fun _ _ _ h => h) (Or.inl ⟨by rfl, ?_⟩) (by assumption) ?_
      rotate_left
      · intro w hSw
        try dsimp only at hSw
        go_simp
        all_goals with_reducible rfl
      simp only [List.getElem_toArray, List.getElem_cons_succ, List.getElem_cons_zero, Act.put, List.setIfInBounds_toArray, List.set_cons_zero, List.set_cons_succ]
      refine wpAnyH_take (i := 6) (oi := _) (v := ?_) rfl (by kernel_rfl) (by kernel_rfl) (by kernel_rfl) (fun _ _ _ h => h) (Or.inl ⟨by rfl, ?_⟩) (by assumption) ?_
      rotate_left
      · intro w hSw
        try dsimp only at hSw
        go_simp
        all_goals with_reducible rfl
      simp only [List.getElem_toArray, List.getElem_cons_succ, List.getElem_cons_zero, Act.put, List.setIfInBounds_toArray, List.set_cons_zero, List.set_cons_succ]
      refine wpAnyH_take (i := 7) (oi := _) (v := ?_) rfl (by kernel_rfl) (by kernel_rfl) (by kernel_rfl) (fun _ _ _ h => h) (Or.inl ⟨by rfl, ?_⟩) (by assumption) ?_
      rotate_left
      · intro w hSw
        try dsimp only at hSw
        go_simp
        all_goals with_reducible rfl
      simp only [List.getElem_toArray, List.getElem_cons_succ, List.getElem_cons_zero, Act.put, List.setIfInBounds_toArray, List.set_cons_zero, List.set_cons_succ]
      refine wpAnyH_take (i := 8) (oi := _) (v := ?_) rfl (by kernel_rfl) (by kernel_rfl) (by kernel_rfl) (fun _ _ _ h => h) (Or.inl ⟨by rfl, ?_⟩) (by assumption) ?_
      rotate_left
      · intro w hSw
        try dsimp only at hSw
        go_simp
        all_goals with_reducible rfl
      simp only [List.getElem_toArray, List.getElem_cons_succ, List.getElem_cons_zero, Act.put, List.setIfInBounds_toArray, List.set_cons_zero, List.set_cons_succ]
      refine wpAnyH_ready (rs := [9]) (by kernel_rfl) (by simp) ?_
      refine AllReadyH.cons (o := _) rfl (fun K hK => ?_) AllReadyH.nil
      go_simp
      refine hK.out _ _ (HI.out _ (hHeld.1.alloc hHeld.1.size _)) (fun hHeld1 => ?_)
      clear hHeld
      clear hK K
      try simp only [List.getElem_toArray, List.getElem_cons_succ, List.getElem_cons_zero, Act.put, List.setIfInBounds_toArray, List.set_cons_zero, List.set_cons_succ]
      have hN5 := Blk.newAt W4.drew 55 #[.int .i64 0, .int .i64 0, .string ⟨#[]⟩] (g := W4.heap.size) rfl
      have f0 := hN5.froz 0
      have f1 := hN5.froz 1
      have f2 := hN5.froz 2
      have d0 := hN5.cell 0
      have d1 := hN5.cell 1
      have d2 := hN5.cell 2
      simp only [List.getElem?_toArray, List.getElem?_cons_zero, List.getElem?_cons_succ] at d0 d1 d2
      have HN5 := Lib.hid hN5
      clear hN5
      refine wpAnyH_ready (rs := [10]) (by kernel_rfl) (by simp) ?_
      refine AllReadyH.cons (o := _) rfl (fun K hK => ?_) AllReadyH.nil
      go_simp
      have HW5 := Lib.hid (show Below wr.heap.size wr (W4.alloc (.cells #[.int .i64 1, .int .i64 x1, .string ⟨#[]⟩] 55)).drew from (HB4.out.alloc HB4.out.size _).trans ((Below.refl _ _).drew.mono (by have := HB4.out.size; simp; omega)))
      have HN6 := Lib.hid ((Blk.newAt W4 55 #[.int .i64 1, .int .i64 x1, .string ⟨#[]⟩] (g := W4.heap.size) rfl).drewG)
      refine hK.out _ _ (HI.out _ HW5.out) (fun hHeld2 => ?_)
      clear hHeld1 f0 f1 f2 d0 d1 d2 HN5
      clear hK K
      try simp only [List.getElem_toArray, List.getElem_cons_succ, List.getElem_cons_zero, Act.put, List.setIfInBounds_toArray, List.set_cons_zero, List.set_cons_succ]
      refine wpAnyH_done (by kernel_rfl) ?_ _
      clear hHeld2
      generalize (W4.alloc (.cells #[.int .i64 1, .int .i64 x1, .string ⟨#[]⟩] 55)).drew = W5 at *
      have HZ5 := Lib.hid (show wr.heap.size ≤ W4.heap.size from HB4.out.size)
      have n0 := HN6.out.cell 0
      have n1 := HN6.out.cell 1
      have n2 := HN6.out.cell 2
      simp only [List.getElem?_toArray, List.getElem?_cons_zero, List.getElem?_cons_succ] at n0 n1 n2
      obtain ⟨o0, o1, o2, o3, o4⟩ := HOLD.out W5 (HB.out.trans (HW5.out.mono HB.out.size))
      clear HB4 HZ4
      generalize W4.heap.size = n4 at *
      go_wp2_with fail
      have l5 := L3.out.belowV HW5.out L3.out.lt
      have HK5 := Lib.hid (K3.out.belowV HW5.out K3.out.lt)
      have HG5 := Lib.hid (G3.out.belowV HW5.out G3.out.lt)
      have HL5 := Lib.hid l5
      have HBW := Lib.hid (HB.out.trans (HW5.out.mono HB.out.size))
      have HSW := Lib.hid HW5.out.size
      have hHs := HW5.out.size
      have HAD := Lib.hid fun W => (show Calls Tryz.prog 95 #[.agg #[.int .i64 0, .int .i64 0, .int .i64 0], .int .i64 x1, .int .i64 1] W (SumPost W (addS (0, 0, 0) x1 1)) from added_any (0, 0, 0) x1 1 W)
      obtain ⟨sm, hsm⟩ : ∃ sm, sm = addS (0, 0, 0) x1 1 := ⟨_, rfl⟩
      rw [← hsm] at HAD
      have HSM := Lib.hid hsm
      clear hsm
      obtain ⟨s0, s1, s2⟩ := sm
      have l0 := l5.cell 0
      have l1 := l5.cell 1
      have l2 := l5.cell 2
      simp only [List.getElem?_toArray, List.getElem?_cons_zero, List.getElem?_cons_succ] at l0 l1 l2
      clear l5
      refine wp_region_held_drew (S := fun W : World => W.cell? ⟨n4, 1, none⟩ = some (.int .i64 x1) ∧ W.cell? ⟨b, off + 1, none⟩ = some (.int .i64 1)) (by kernel_rfl) ⟨n1, o1⟩ (fun hHeld => ?_)
      refine wpAnyH_take (i := 1) (oi := _) (v := ?_) rfl (by kernel_rfl) (by kernel_rfl) (by kernel_rfl) (fun _ _ _ h => h) (Or.inl ⟨by rfl, ?_⟩) (by assumption) ?_
      rotate_left
      · intro w hSw
        try dsimp only at hSw
        go_simp
        all_goals with_reducible rfl
      simp only [List.getElem_toArray, List.getElem_cons_succ, List.getElem_cons_zero, Act.put, List.setIfInBounds_toArray, List.set_cons_zero, List.set_cons_succ]
      refine wpAnyH_take (i := 2) (oi := _) (v := ?_) rfl (by kernel_rfl) (by kernel_rfl) (by kernel_rfl) (fun _ _ _ h => h) (Or.inl ⟨by rfl, ?_⟩) (by assumption) ?_
      rotate_left
      · intro w hSw
        try dsimp only at hSw
        go_simp
        all_goals with_reducible rfl
      simp only [List.getElem_toArray, List.getElem_cons_succ, List.getElem_cons_zero, Act.put, List.setIfInBounds_toArray, List.set_cons_zero, List.set_cons_succ]
      refine wpAnyH_take (i := 3) (oi := _) (v := ?_) rfl (by kernel_rfl) (by kernel_rfl) (by kernel_rfl) (fun _ _ _ h => h) (Or.inl ⟨by rfl, ?_⟩) (by assumption) ?_
      rotate_left
      · intro w hSw
        try dsimp only at hSw
        go_simp
        all_goals with_reducible rfl
      simp only [List.getElem_toArray, List.getElem_cons_succ, List.getElem_cons_zero, Act.put, List.setIfInBounds_toArray, List.set_cons_zero, List.set_cons_succ]
      refine wpAnyH_take (i := 4) (oi := _) (v := ?_) rfl (by kernel_rfl) (by kernel_rfl) (by kernel_rfl) (fun _ _ _ h => h) (Or.inl ⟨by rfl, ?_⟩) (by assumption) ?_
      rotate_left
      · intro w hSw
        try dsimp only at hSw
        go_simp
        all_goals with_reducible rfl
      simp only [List.getElem_toArray, List.getElem_cons_succ, List.getElem_cons_zero, Act.put, List.setIfInBounds_toArray, List.set_cons_zero, List.set_cons_succ]
      refine wpAnyH_take (i := 5) (oi := _) (v := ?_) rfl (by kernel_rfl) (by kernel_rfl) (by kernel_rfl) (fun _ _ _ h => h) (Or.inl ⟨by rfl, ?_⟩) (by assumption) ?_
      rotate_left
      · intro w hSw
        try dsimp only at hSw
        go_simp
        all_goals with_reducible rfl
      simp only [List.getElem_toArray, List.getElem_cons_succ, List.getElem_cons_zero, Act.put, List.setIfInBounds_toArray, List.set_cons_zero, List.set_cons_succ]
      refine wpAnyH_take (i := 6) (oi := _) (v := ?_) rfl (by kernel_rfl) (by kernel_rfl) (by kernel_rfl) (fun _ _ _ h => h) (Or.inl ⟨by rfl, ?_⟩) (by assumption) ?_
      rotate_left
      · intro w hSw
        try dsimp only at hSw
        go_simp
        all_goals with_reducible rfl
      simp only [List.getElem_toArray, List.getElem_cons_succ, List.getElem_cons_zero, Act.put, List.setIfInBounds_toArray, List.set_cons_zero, List.set_cons_succ]
      refine wpAnyH_take (i := 7) (oi := _) (v := ?_) rfl (by kernel_rfl) (by kernel_rfl) (by kernel_rfl) (fun _ _ _ h => h) (Or.inl ⟨by rfl, ?_⟩) (by assumption) ?_
      rotate_left
      · intro w hSw
        try dsimp only at hSw
        go_simp
        all_goals with_reducible rfl
      simp only [List.getElem_toArray, List.getElem_cons_succ, List.getElem_cons_zero, Act.put, List.setIfInBounds_toArray, List.set_cons_zero, List.set_cons_succ]
      refine wpAnyH_ready (rs := [0]) (by kernel_rfl) (by simp) ?_
      refine AllReadyH.cons (o := _) rfl (fun K hK => ?_) AllReadyH.nil
      go_simp
      refine hK.out _ _ hHeld (fun hHeld1 => ?_)
      clear hHeld
      clear hK K
      try simp only [List.getElem_toArray, List.getElem_cons_succ, List.getElem_cons_zero, Act.put, List.setIfInBounds_toArray, List.set_cons_zero, List.set_cons_succ]
      refine wpAnyH_ready (rs := [8]) (by kernel_rfl) (by simp) ?_
      refine AllReadyH.cons (o := _) rfl (fun K hK => ?_) AllReadyH.nil
      go_simp
      refine (HAD.out _).mono ?_
      rintro e w8 ⟨rfl, hb8⟩
      have hbw : Below W5.heap.size W5 w8 := (Below.refl _ _).drew.trans hb8
      have HL8 := Lib.hid (HL5.out.belowV hbw HL5.out.lt)
      have HK8 := Lib.hid (HK5.out.belowV hbw HK5.out.lt)
      have HG8 := Lib.hid (HG5.out.belowV hbw HG5.out.lt)
      have HN8 := Lib.hid (HN6.out.belowV hbw HN6.out.lt)
      have HBW8 := Lib.hid (HBW.out.trans (hbw.mono HBW.out.size))
      have HSW8 := Lib.hid (Nat.le_trans HSW.out hbw.size)
      have hS8 : w8.cell? ⟨n4, 1, none⟩ = some (.int .i64 x1) ∧ w8.cell? ⟨b, off + 1, none⟩ = some (.int .i64 1) := ⟨(hbw.cell (p := ⟨n4, 1, none⟩) HN6.out.lt).trans n1, (HOLD.out w8 HBW8.out).2.1⟩
      dsimp only [sumV]
      refine hK.out _ _ hS8 (fun hHeld2 => ?_)
      clear hHeld1 hb8 hbw hS8 l0 l1 l2 n0 n1 n2 o0 o1 o2 o3 o4
      clear hK K
      try simp only [List.getElem_toArray, List.getElem_cons_succ, List.getElem_cons_zero, Act.put, List.setIfInBounds_toArray, List.set_cons_zero, List.set_cons_succ]
      have f0 := HL8.out.froz 0
      have f1 := HL8.out.froz 1
      have f2 := HL8.out.froz 2
      have d0 := HL8.out.cell 0
      have d1 := HL8.out.cell 1
      have d2 := HL8.out.cell 2
      simp only [List.getElem?_toArray, List.getElem?_cons_zero, List.getElem?_cons_succ] at d0 d1 d2
      refine wpAnyH_ready (rs := [9]) (by kernel_rfl) (by simp) ?_
      refine AllReadyH.cons (o := _) rfl (fun K hK => ?_) AllReadyH.nil
      go_simp
      have hL9 : Blk (((w8.setCell ⟨w.heap.size + 1 + 1, 0, none⟩ (.int .i64 s0)).setCell ⟨w.heap.size + 1 + 1, 1, none⟩ (.int .i64 s1)).setCell ⟨w.heap.size + 1 + 1, 2, none⟩ (.int .i64 s2)) (w.heap.size + 1 + 1) 141 #[.int .i64 s0, .int .i64 s1, .int .i64 s2] := by
        simpa using ((HL8.out.setG 0 (.int .i64 s0)).setG 1 (.int .i64 s1)).setG 2 (.int .i64 s2)
      have hne9 : n4 ≠ w.heap.size + 1 + 1 := by have := L3.out.lt; have := HZ5.out; omega
      have hN9 := Lib.hid (((HN8.out.setOther (j := 0) hne9 (.int .i64 s0)).setOther (j := 1) hne9 (.int .i64 s1)).setOther (j := 2) hne9 (.int .i64 s2))
      have hK9 := Lib.hid (((HK8.out.setOther (C := w.heap.size + 1 + 1) (j := 0) (by omega) (.int .i64 s0)).setOther (C := w.heap.size + 1 + 1) (j := 1) (by omega) (.int .i64 s1)).setOther (C := w.heap.size + 1 + 1) (j := 2) (by omega) (.int .i64 s2))
      have hG9 := Lib.hid (((HG8.out.setOther (C := w.heap.size + 1 + 1) (j := 0) (by omega) (.int .i64 s0)).setOther (C := w.heap.size + 1 + 1) (j := 1) (by omega) (.int .i64 s1)).setOther (C := w.heap.size + 1 + 1) (j := 2) (by omega) (.int .i64 s2))
      have HBW9 := Lib.hid (((HBW8.out.setCell (p := ⟨w.heap.size + 1 + 1, 0, none⟩) (by simp; omega) (.int .i64 s0)).setCell (p := ⟨w.heap.size + 1 + 1, 1, none⟩) (by simp; omega) (.int .i64 s1)).setCell (p := ⟨w.heap.size + 1 + 1, 2, none⟩) (by simp; omega) (.int .i64 s2))
      have HSW9 : Hid (wr.heap.size ≤ (((w8.setCell ⟨w.heap.size + 1 + 1, 0, none⟩ (.int .i64 s0)).setCell ⟨w.heap.size + 1 + 1, 1, none⟩ (.int .i64 s1)).setCell ⟨w.heap.size + 1 + 1, 2, none⟩ (.int .i64 s2)).heap.size) := Lib.hid (by have := HSW8.out; simp [World.setCell]; omega)
      have hL9 := Lib.hid hL9
      have z1 := hN9.out.cell 1
      simp only [List.getElem?_toArray, List.getElem?_cons_zero, List.getElem?_cons_succ] at z1
      refine hK.out _ _ ⟨z1, (HOLD.out _ HBW9.out).2.1⟩ (fun hHeld3 => ?_)
      clear hHeld2 f0 f1 f2 d0 d1 d2 z1
      clear hK K
      try simp only [List.getElem_toArray, List.getElem_cons_succ, List.getElem_cons_zero, Act.put, List.setIfInBounds_toArray, List.set_cons_zero, List.set_cons_succ]
      refine wpAnyH_done (by kernel_rfl) ?_ _
      clear hHeld3
      clear HW5 HN6 HK5 HG5 HL5 HBW HSW hHs HL8 HK8 HG8 HN8 HBW8 HSW8
      generalize ((w8.setCell ⟨w.heap.size + 1 + 1, 0, none⟩ (.int .i64 s0)).setCell ⟨w.heap.size + 1 + 1, 1, none⟩ (.int .i64 s1)).setCell ⟨w.heap.size + 1 + 1, 2, none⟩ (.int .i64 s2) = W5 at *
      have HN6 := hN9
      have hW55 := HSW9.out
      go_wp2_with fail
      go_wp2_with fail
      go_loopw [12] (fun s wr6 => s = .int .i64 0 ∧ W5 = wr6) (fun _ _ => 0)
      case atStart => exact ⟨rfl, rfl⟩
      case round =>
        obtain ⟨rfl, rfl⟩ := hrel
        go_wp2_with fail
        go_quiet (fail)
        go_wp2_with fail
        go_quiet (fail)
        have hn4 := HN6.out.lt
        have hne4 : n4 ≠ W5.heap.size := by omega
        have hsz4 := HZ5.out
        have hw6 : W5.heap.size ≠ n4 := by omega
        have hN8 : ∀ q : Nat, Blk ((W5.drewN q).alloc (.cells #[] 55)) n4 55 #[.int .i64 1, .int .i64 x1, .string ⟨#[]⟩] := fun q => (show Blk (W5.drewN q) n4 55 #[.int .i64 1, .int .i64 x1, .string ⟨#[]⟩] from HN6.out).allocG _
        have a0 := fun q => (hN8 q).cell 0
        have a1 := fun q => (hN8 q).cell 1
        have a2 := fun q => (hN8 q).cell 2
        simp only [List.getElem?_toArray, List.getElem?_cons_zero, List.getElem?_cons_succ] at a0 a1 a2
        clear hN8
        have HOW := Lib.hid (fun (W6 : World) => (show ((W6.alloc (.cells #[] 55)).alloc (.cells #[.int .i64 1, .int .i64 x1, .string ⟨#[]⟩] 55)).ownsRow W6.heap.size 55 3 (.slice (some ⟨W6.heap.size, 0, none⟩) 0 0) 0 [] from (World.ownsRow_made W6 #[] 0 (Nat.le_refl _) (Nat.zero_le _) rfl).alloc _))
        have HB6 := Lib.hid (fun (q : Nat) => (show Below W5.heap.size W5 (W5.drewN q) from ⟨rfl, rfl, rfl, Nat.le_refl _, fun _ _ => rfl⟩))
        go_wp2_with (at_builtin; refine wpList_append_own _ rfl _ _ 33 rfl W5.heap.size 55 i0 (.agg #[.int .i64 0, .int .i64 0, .string ⟨#[]⟩]) 3 32 Tryz.underlying33 hi hz0 hz1 hz2 rfl (by decide) _ 0 [] rfl (HOW.out _) ⟨W5.heap.size + 1, 0, none⟩ 1 1 (cellsV (1, x1, ⟨#[]⟩)) rfl rfl (cells_at _ _ _ (by simp)) (by simp [cellsV, Value.oneCell']) (by unfold maxLen; omega) (by omega) (by simp <;> omega) ?_; intro v' w7 hown' hgrow _; have HB7 := Lib.hid (show Below W5.heap.size W5 w7 from (((HB6.out _).alloc (HB6.out _).size (.cells #[] 55)).alloc (by simp <;> omega) (.cells #[.int .i64 1, .int .i64 x1, .string ⟨#[]⟩] 55)).grown hgrow (by simp <;> omega) (fun k e => ((HOW.out _).lt k e).1)); have HN7 := Lib.hid hown'; obtain ⟨g7, c7, rfl, hc7, hc7m⟩ := own_one hown'; clear hown' hgrow)
        go_roundw
        case rel => exact .inr ⟨rfl, rfl, rfl, ⟨g7, c7, rfl, by
          have h := ownsRow_base HN7.out HSW9.out
          have e : flatV [((1, x1, ⟨#[]⟩) : Val)] = [] ++ cellsV (1, x1, ⟨#[]⟩) := by simp [flatV]
          show w7.ownsRow wr.heap.size 55 3 _ (0 + 1) (flatV [((1, x1, ⟨#[]⟩) : Val)])
          rw [e]
          exact h⟩, rfl, hK9.out.belowV HB7.out hK9.out.lt, hG9.out.belowV HB7.out hG9.out.lt, by rw [← HSM.out]; exact hL9.out.belowV HB7.out hL9.out.lt, HBW9.out.trans (HB7.out.mono HBW9.out.size)⟩
        case measure => simp [RowKit.intOf]
    · have hvi := valsIn_of_owns hO.out
      obtain ⟨g', o', he, hgl, hva⟩ := hvi (by simp)
      simp only [Option.some.injEq, Addr.mk.injEq, and_true] at he
      obtain ⟨rfl, rfl⟩ := he
      obtain ⟨v0, v1, v2⟩ := hva 0 (by simp)
      simp only [List.getElem?_cons_zero, Option.getD_some, Nat.zero_mul, Nat.add_zero, Nat.zero_add] at v0 v1 v2
      have l0 := hL.cell 0
      have l1 := hL.cell 1
      have l2 := hL.cell 2
      simp only [List.getElem?_toArray, List.getElem?_cons_zero, List.getElem?_cons_succ] at l0 l1 l2
      clear hO hL hva
      have k0 := hK.cell 0
      have f0 := hG.froz 0
      have f1 := hG.froz 1
      have f2 := hG.froz 2
      have d0 := hG.cell 0
      have d1 := hG.cell 1
      have d2 := hG.cell 2
      simp only [List.getElem?_toArray, List.getElem?_cons_zero, List.getElem?_cons_succ] at k0 d0 d1 d2
      have hset : Blk (((wr.setCell ⟨w.heap.size + 1, 0, none⟩ (.int .i64 1)).setCell ⟨w.heap.size + 1, 1, none⟩ (.int .i64 1)).setCell ⟨w.heap.size + 1, 2, none⟩ (.string ⟨#[]⟩)) (w.heap.size + 1) 55 #[.int .i64 1, .int .i64 1, .string ⟨#[]⟩] := by
        simpa using ((hG.setG 0 (.int .i64 1)).setG 1 (.int .i64 1)).setG 2 (.string ⟨#[]⟩)
      have HSET := Lib.hid hset
      have HBB := Lib.hid hBB
      clear hset hBB hK hG
      go_wp2_with fail
      have r0 := HSET.out.cell 0
      have r1 := HSET.out.cell 1
      have r2 := HSET.out.cell 2
      simp only [List.getElem?_toArray, List.getElem?_cons_zero, List.getElem?_cons_succ] at r0 r1 r2
      rw [HRES.out]
      refine bodyPost_ret (v := valA (1, 1, ⟨#[]⟩)) (by simp [results, Tryz.results76, go_sem, r0, r1, r2, valA]) rfl ⟨rfl, ?_⟩
      exact ((HBB.out.setCell (p := ⟨w.heap.size + 1, 0, none⟩) (by simp) _).setCell (p := ⟨w.heap.size + 1, 1, none⟩) (by simp) _).setCell (p := ⟨w.heap.size + 1, 2, none⟩) (by simp) _

end Go.Proofs.YtfoknllnknjccaaGreat

/-!
  One number cut and put together again.
-/
namespace Go.Proofs.YtfoknllnknjccaaGreat
open Go.RowKit

theorem tdivP (x : Int) : x.tdiv 1000000000 = if 0 ≤ x then x / 1000000000 else -((-x) / 1000000000) := by
  by_cases h : 0 ≤ x
  · rw [if_pos h, Int.tdiv_eq_ediv_of_nonneg h]
  · rw [if_neg h]
    have e : x = -(-x) := by omega
    conv => lhs; rw [e]
    rw [Int.neg_tdiv, Int.tdiv_eq_ediv_of_nonneg (by omega)]
theorem tdiv_small {r : Int} (h : -1000000000 < r ∧ r < 1000000000) : r.tdiv 1000000000 = 0 := by
  rw [tdivP]; split <;> omega
theorem whole_one {x : Int} (h : -1000000000000000 ≤ x ∧ x ≤ 1000000000000000) : wholeS (addS (0, 0, 0) x 1) = (1, x, ⟨#[]⟩) ∧ (addS (0, 0, 0) x 1).2.2 = 1 := by
  obtain ⟨q, hq⟩ : ∃ q, q = x.tdiv 1000000000 := ⟨_, rfl⟩
  have hb : (-1000000 ≤ q ∧ q ≤ 1000000) ∧ (-1000000000 < x - q * 1000000000 ∧ x - q * 1000000000 < 1000000000) := by
    rw [tdivP] at hq
    split at hq <;> omega
  obtain ⟨r, hr⟩ : ∃ r, r = x - q * 1000000000 := ⟨_, rfl⟩
  rw [← hr] at hb
  have e1 : addS (0, 0, 0) x 1 = (q, r, 1) := by
    unfold addS
    rw [← hq]
    dsimp only
    rw [IntWalk.wrap64_in q (by omega), IntWalk.wrap64_in (q * 1) (by omega), IntWalk.wrap64_in (0 + q * 1) (by omega), IntWalk.wrap64_in (q * 1000000000) (by omega), ← hr, IntWalk.wrap64_in r (by omega), IntWalk.wrap64_in (r * 1) (by omega), IntWalk.wrap64_in (0 + r * 1) (by omega), IntWalk.wrap64_in (0 + 1) (by omega)]
    simp
  rw [e1]
  refine ⟨?_, rfl⟩
  have ec : carC r = if r < 0 then -1 else 0 := by
    unfold carC
    rw [tdiv_small hb.2, IntWalk.wrap64_in 0 (by omega), IntWalk.wrap64_in (0 * 1000000000) (by omega), IntWalk.wrap64_in (r - 0 * 1000000000) (by omega), IntWalk.wrap64_in (0 - 1) (by omega)]
    simp
  by_cases h0 : r < 0
  · rw [if_pos h0] at ec
    have es : carS (q, r, 1) = (q - 1, r + 1000000000, 1) := by
      unfold carS
      dsimp only
      rw [ec, IntWalk.wrap64_in (q + -1) (by omega), IntWalk.wrap64_in (-1 * 1000000000) (by omega), IntWalk.wrap64_in (r - -1 * 1000000000) (by omega)]
      refine Prod.ext (by show q + -1 = q - 1; omega) (Prod.ext (by show r - -1 * 1000000000 = r + 1000000000; omega) rfl)
    unfold wholeS wholeN
    rw [es]
    dsimp only
    rw [IntWalk.wrap64_in ((q - 1) * 1000000000) (by omega), IntWalk.wrap64_in ((q - 1) * 1000000000 + (r + 1000000000)) (by omega), show (q - 1) * 1000000000 + (r + 1000000000) = x by omega, if_pos ⟨⟨by omega, by omega⟩, h⟩]
  · rw [if_neg h0] at ec
    have es : carS (q, r, 1) = (q, r, 1) := by
      unfold carS
      dsimp only
      rw [ec, IntWalk.wrap64_in (q + 0) (by omega), IntWalk.wrap64_in (0 * 1000000000) (by omega), IntWalk.wrap64_in (r - 0 * 1000000000) (by omega)]
      refine Prod.ext (by show q + 0 = q; omega) (Prod.ext (by show r - 0 * 1000000000 = r; omega) rfl)
    unfold wholeS wholeN
    rw [es]
    dsimp only
    rw [IntWalk.wrap64_in (q * 1000000000) (by omega), IntWalk.wrap64_in (q * 1000000000 + r) (by omega), show q * 1000000000 + r = x by omega, if_pos ⟨⟨by omega, by omega⟩, h⟩]
theorem sm_one {x : Int} (h : -1000000000000000 ≤ x ∧ x ≤ 1000000000000000) : smTell (smStep (0, 0, 0) ((1, x, ⟨#[]⟩), 1)) = (1, x, ⟨#[]⟩) ∧ (smStep (0, 0, 0) ((1, x, ⟨#[]⟩), 1)).2.2 = 1 := by
  obtain ⟨q, hq⟩ : ∃ q, q = x.tdiv 1000000000 := ⟨_, rfl⟩
  have hb : (-1000000 ≤ q ∧ q ≤ 1000000) ∧ (-1000000000 < x - 1000000000 * q ∧ x - 1000000000 * q < 1000000000) := by
    rw [tdivP] at hq
    split at hq <;> omega
  obtain ⟨r, hr⟩ : ∃ r, r = x - 1000000000 * q := ⟨_, rfl⟩
  have hm : x.tmod 1000000000 = r := by rw [Int.tmod_def, ← hq, hr]
  rw [← hr] at hb
  have hm2 : r.tmod 1000000000 = r := by rw [Int.tmod_def, tdiv_small hb.2]; omega
  have e1 : smStep (0, 0, 0) ((1, x, ⟨#[]⟩), 1) = (q, r, 1) := by
    unfold smStep
    rw [if_pos rfl]
    dsimp only
    rw [← hq, hm, IntWalk.wrap64_in q (by omega), IntWalk.wrap64_in (q * 1) (by omega), IntWalk.wrap64_in (0 + q * 1) (by omega), IntWalk.wrap64_in (r * 1) (by omega), IntWalk.wrap64_in (0 + r * 1) (by omega), IntWalk.wrap64_in (0 + 1) (by omega)]
    simp
  rw [e1]
  refine ⟨?_, rfl⟩
  unfold smTell
  dsimp only
  rw [tdiv_small hb.2, hm2, IntWalk.wrap64_in 0 (by omega), IntWalk.wrap64_in (q + 0) (by omega), IntWalk.wrap64_in (-(q + 0)) (by omega), IntWalk.wrap64_in ((q + 0) * 1000000000) (by omega), IntWalk.wrap64_in ((q + 0) * 1000000000 + r) (by omega), if_neg (by omega), show (q + 0) * 1000000000 + r = x by omega]
  unfold numV
  rw [if_pos (by unfold validV validP; exact decide_eq_true (.inr (.inl ⟨rfl, by rw [Lib.toList_data]; rfl, h.1, h.2⟩)))]
theorem mn_one {x : Int} (h : -1000000000000000 ≤ x ∧ x ≤ 1000000000000000) : mnTell (smStep (0, 0, 0) ((1, x, ⟨#[]⟩), 1)) = (1, x, ⟨#[]⟩) := by
  obtain ⟨h1, h2⟩ := sm_one h
  unfold mnTell
  rw [h1, h2, if_neg (by simp [nul])]
  dsimp only
  have ht : x.tdiv 1 = x := Int.tdiv_one x
  have hm : x.tmod 1 = 0 := Int.tmod_one x
  have hd : downI x 1 = x := by
    unfold downI
    rw [hm, ht, if_neg (by omega), IntWalk.wrap64_in x (by omega)]
  rw [hd]
  unfold numV
  rw [if_pos (by unfold validV validP; exact decide_eq_true (.inr (.inl ⟨rfl, by rw [Lib.toList_data]; rfl, h.1, h.2⟩)))]
end Go.Proofs.YtfoknllnknjccaaGreat

/-!
  What the document tells of one row.
-/
namespace Go.Proofs.YtfoknllnknjccaaGreat
open Go.RowKit
set_option linter.unusedSimpArgs false
set_option linter.unusedVariables false

set_option maxRecDepth 100000 in
set_option maxHeartbeats 2000000 in
theorem tellO_3_int (m b off b2 off2 len qc d : Nat) (x1 : Int) (x2 : ByteArray) (hm : m < len) (hx1 : -1000000000000000 ≤ x1 ∧ x1 ≤ 1000000000000000) (w : World) (hb : b < w.heap.size) (hb2 : b2 < w.heap.size) (h0 : w.cell? ⟨b, off, none⟩ = some (.slice (some ⟨b2, off2, none⟩) len qc)) (h1 : w.cell? ⟨b, off + 1, none⟩ = some (.int .i64 1))
    (y0 : w.cell? ⟨b2, off2 + m * 3, none⟩ = some (.int .i64 1)) (y1 : w.cell? ⟨b2, off2 + m * 3 + 1, none⟩ = some (.int .i64 x1)) (y2 : w.cell? ⟨b2, off2 + m * 3 + 2, none⟩ = some (.string ⟨#[]⟩)) :
    Calls Tryz.prog 76 #[.agg #[.int .i64 3, .int .i64 (m : Int)], .slice (some ⟨b, off, none⟩) 1 d] w (ValPost w (tellK 3 [((1, x1, ⟨#[]⟩), 1)])) := by
  have HONE := Lib.hid (whole_one hx1).1
  have HMANY := Lib.hid (whole_one hx1).2
  have HRES : Hid (tellK 3 [((1, x1, ⟨#[]⟩), 1)] = (1, x1, ⟨#[]⟩)) := Lib.hid (by
    show smTell (smStep (0, 0, 0) ((1, x1, ⟨#[]⟩), 1)) = _; exact (sm_one hx1).1)
  generalize tellK 3 [((1, x1, ⟨#[]⟩), 1)] = res at HRES ⊢
  have b1 : Below w.heap.size w (w.alloc (.cells #[.int .i64 3, .int .i64 (m : Int)] 59)) := below_new _ _
  have b2' : Below w.heap.size w ((w.alloc (.cells #[.int .i64 3, .int .i64 (m : Int)] 59)).alloc (.cells #[.int .i64 0, .int .i64 0, .string ⟨#[]⟩] 55)) := b1.alloc b1.size _
  have b3 : Below w.heap.size w (((w.alloc (.cells #[.int .i64 3, .int .i64 (m : Int)] 59)).alloc (.cells #[.int .i64 0, .int .i64 0, .string ⟨#[]⟩] 55)).alloc (.cells #[.int .i64 0, .int .i64 0, .int .i64 0] 141)) := b2'.alloc b2'.size _
  have k3 := ((Blk.new w 59 #[.int .i64 3, .int .i64 (m : Int)]).allocG (.cells #[.int .i64 0, .int .i64 0, .string ⟨#[]⟩] 55)).allocG (.cells #[.int .i64 0, .int .i64 0, .int .i64 0] 141)
  have g3 := (Blk.newAt (w.alloc (.cells #[.int .i64 3, .int .i64 (m : Int)] 59)) 55 #[.int .i64 0, .int .i64 0, .string ⟨#[]⟩] (g := w.heap.size + 1) (by simp)).allocG (.cells #[.int .i64 0, .int .i64 0, .int .i64 0] 141)
  have l3 := Blk.newAt ((w.alloc (.cells #[.int .i64 3, .int .i64 (m : Int)] 59)).alloc (.cells #[.int .i64 0, .int .i64 0, .string ⟨#[]⟩] 55)) 141 #[.int .i64 0, .int .i64 0, .int .i64 0] (g := w.heap.size + 2) (by simp)
  have K3 := Lib.hid k3
  have G3 := Lib.hid g3
  have L3 := Lib.hid l3
  have HB := Lib.hid b3
  have hbb := hb
  have hsz : (((w.alloc (.cells #[.int .i64 3, .int .i64 (m : Int)] 59)).alloc (.cells #[.int .i64 0, .int .i64 0, .string ⟨#[]⟩] 55)).alloc (.cells #[.int .i64 0, .int .i64 0, .int .i64 0] 141)).heap.size = w.heap.size + 3 := by simp
  clear b1 b2' b3 k3 g3 l3
  go_enter Tryz.func76, Tryz.ntmps76
  generalize hW : ((w.alloc (.cells #[.int .i64 3, .int .i64 (m : Int)] 59)).alloc (.cells #[.int .i64 0, .int .i64 0, .string ⟨#[]⟩] 55)).alloc (.cells #[.int .i64 0, .int .i64 0, .int .i64 0] 141) = W3 at *
  have HOLD := Lib.hid (show ∀ W, Below w.heap.size w W → W.cell? ⟨b, off, none⟩ = some (.slice (some ⟨b2, off2, none⟩) len qc) ∧ W.cell? ⟨b, off + 1, none⟩ = some (.int .i64 1) ∧ W.cell? ⟨b2, off2 + m * 3, none⟩ = some (.int .i64 1) ∧ W.cell? ⟨b2, off2 + m * 3 + 1, none⟩ = some (.int .i64 x1) ∧ W.cell? ⟨b2, off2 + m * 3 + 2, none⟩ = some (.string ⟨#[]⟩) from fun W h =>
    ⟨(h.cell (p := ⟨b, off, none⟩) hb).trans h0, (h.cell (p := ⟨b, off + 1, none⟩) hb).trans h1, (h.cell (p := ⟨b2, off2 + m * 3, none⟩) hb2).trans y0, (h.cell (p := ⟨b2, off2 + m * 3 + 1, none⟩) hb2).trans y1, (h.cell (p := ⟨b2, off2 + m * 3 + 2, none⟩) hb2).trans y2⟩)
  clear h0 h1 y0 y1 y2 hbb
  go_wp2_with fail
  go_loopw [5, 6, 7, 9, 10, 11, 12, 13] (fun a b c d e _ _ _ wr => (a = .int .i64 0 ∧ b = .int .i64 0 ∧ c = .int .i64 0 ∧ d = .slice none 0 0 ∧ e = .int .i64 0 ∧ wr = W3) ∨ (a = .int .i64 1 ∧ b = .int .i64 1 ∧ c = .int .i64 1 ∧ (∃ g cap, d = .slice (some ⟨g, 0, none⟩) 1 cap ∧ Hid (OwnsV wr W3.heap.size d [(1, x1, ⟨#[]⟩)])) ∧ e = .int .i64 1 ∧ Blk wr w.heap.size 59 #[.int .i64 3, .int .i64 (m : Int)] ∧ Blk wr (w.heap.size + 1) 55 #[.int .i64 0, .int .i64 0, .string ⟨#[]⟩] ∧ Blk wr (w.heap.size + 2) 141 #[.int .i64 (addS (0, 0, 0) x1 1).1, .int .i64 (addS (0, 0, 0) x1 1).2.1, .int .i64 (addS (0, 0, 0) x1 1).2.2] ∧ Below w.heap.size w wr)) (fun _ _ _ _ e _ _ _ _ => 1 - (RowKit.intOf e).toNat)
  case atStart => exact .inl ⟨rfl, rfl, rfl, rfl, rfl, rfl⟩
  case round =>
    rcases hrel with ⟨rfl, rfl, rfl, rfl, rfl, rfl⟩ | ⟨rfl, rfl, rfl, ⟨g, cap, rfl, hO⟩, rfl, hK, hG, hL, hBB⟩
    · obtain ⟨i0, hi, hz0, hz1, hz2⟩ := info_parts infoV
      obtain ⟨o0, o1, o2, o3, o4⟩ := HOLD.out wr HB.out
      have k0 := K3.out.cell 0
      have k1 := K3.out.cell 1
      simp only [List.getElem?_toArray, List.getElem?_cons_zero, List.getElem?_cons_succ] at k0 k1
      have hm0 : (0 : Int) ≤ (m : Int) := by omega
      have hm1 : (m : Int) < (len : Int) := by omega
      go_wp2_with fail
      go_quiet (fail)
      go_wp2_with fail
      have HB4 : Hid (Below wr.heap.size wr (wr.drewN nq)) := Lib.hid ⟨rfl, rfl, rfl, Nat.le_refl _, fun _ _ => rfl⟩
      have HZ4 : Hid ((wr.drewN nq).heap.size = wr.heap.size) := Lib.hid rfl
      generalize wr.drewN nq = W4 at *
      have HI := Lib.hid (show ∀ W, Below wr.heap.size wr W → Below wr.heap.size wr W ∧ (W.cell? ⟨b, off, none⟩ = some (.slice (some ⟨b2, off2, none⟩) len qc) ∧ W.cell? ⟨b2, off2 + m * 3, none⟩ = some (.int .i64 1) ∧ W.cell? ⟨b2, off2 + m * 3 + 1, none⟩ = some (.int .i64 x1) ∧ W.cell? ⟨b2, off2 + m * 3 + 2, none⟩ = some (.string ⟨#[]⟩) ∧ W.cell? ⟨w.heap.size, 1, none⟩ = some (.int .i64 (m : Int))) from fun W h => by
        obtain ⟨p0, _, p2, p3, p4⟩ := HOLD.out W (HB.out.trans (h.mono HB.out.size))
        have z1 := (K3.out.belowV h K3.out.lt).cell 1
        simp only [List.getElem?_toArray, List.getElem?_cons_zero, List.getElem?_cons_succ] at z1
        exact ⟨h, p0, p2, p3, p4, z1⟩)
      clear o0 o1 o2 o3 o4 k0 k1
      refine wp_region_held_drew (S := fun W : World => Below wr.heap.size wr W ∧ (W.cell? ⟨b, off, none⟩ = some (.slice (some ⟨b2, off2, none⟩) len qc) ∧ W.cell? ⟨b2, off2 + m * 3, none⟩ = some (.int .i64 1) ∧ W.cell? ⟨b2, off2 + m * 3 + 1, none⟩ = some (.int .i64 x1) ∧ W.cell? ⟨b2, off2 + m * 3 + 2, none⟩ = some (.string ⟨#[]⟩) ∧ W.cell? ⟨w.heap.size, 1, none⟩ = some (.int .i64 (m : Int)))) (by kernel_rfl) (HI.out _ (HB4.out.trans ((Below.refl _ _).drew.mono HB4.out.size))) (fun hHeld => ?_)
      refine wpAnyH_take (i := 0) (oi := _) (v := ?_) rfl (by kernel_rfl) (by kernel_rfl) (by kernel_rfl) (fun _ _ _ h => h) (Or.inl ⟨by rfl, ?_⟩) (by assumption) ?_
      rotate_left
      · intro w hSw
        try dsimp only at hSw
        go_simp
        all_goals with_reducible rfl
      simp only [List.getElem_toArray, List.getElem_cons_succ, List.getElem_cons_zero, Act.put, List.setIfInBounds_toArray, List.set_cons_zero, List.set_cons_succ]
      refine wpAnyH_take (i := 1) (oi := _) (v := ?_) rfl (by kernel_rfl) (by kernel_rfl) (by kernel_rfl) (fun _ _ _ h => h) (Or.inl ⟨by rfl, ?_⟩) (by assumption) ?_
      rotate_left
      · intro w hSw
        try dsimp only at hSw
        go_simp
        all_goals with_reducible rfl
      simp only [List.getElem_toArray, List.getElem_cons_succ, List.getElem_cons_zero, Act.put, List.setIfInBounds_toArray, List.set_cons_zero, List.set_cons_succ]
      refine wpAnyH_take (i := 2) (oi := _) (v := ?_) rfl (by kernel_rfl) (by kernel_rfl) (by kernel_rfl) (fun _ _ _ h => h) (Or.inl ⟨by rfl, ?_⟩) (by assumption) ?_
      rotate_left
      · intro w hSw
        try dsimp only at hSw
        go_simp
        all_goals with_reducible rfl
      simp only [List.getElem_toArray, List.getElem_cons_succ, List.getElem_cons_zero, Act.put, List.setIfInBounds_toArray, List.set_cons_zero, List.set_cons_succ]
      refine wpAnyH_take (i := 3) (oi := _) (v := ?_) rfl (by kernel_rfl) (by kernel_rfl) (by kernel_rfl) (fun _ _ _ h => h) (Or.inl ⟨by rfl, ?_⟩) (by assumption) ?_
      rotate_left
      · intro w hSw
        try dsimp only at hSw
        go_simp
        all_goals with_reducible rfl
      simp only [List.getElem_toArray, List.getElem_cons_succ, List.getElem_cons_zero, Act.put, List.setIfInBounds_toArray, List.set_cons_zero, List.set_cons_succ]
      refine wpAnyH_take (i := 4) (oi := _) (v := ?_) rfl (by kernel_rfl) (by kernel_rfl) (by kernel_rfl) (fun _ _ _ h => h) (Or.inl ⟨by rfl, ?_⟩) (by assumption) ?_
      rotate_left
      · intro w hSw
        try dsimp only at hSw
        go_simp
        all_goals with_reducible rfl
      simp only [List.getElem_toArray, List.getElem_cons_succ, List.getElem_cons_zero, Act.put, List.setIfInBounds_toArray, List.set_cons_zero, List.set_cons_succ]
      refine wpAnyH_take (i := 5) (oi := _) (v := ?_) rfl (by kernel_rfl) (by kernel_rfl) (by kernel_rfl) (fun _ _ _ h => h) (Or.inl ⟨by rfl, ?_⟩) (by assumption) ?_
      rotate_left
      · intro w hSw
        try dsimp only at hSw
        go_simp
        all_goals with_reducible rfl
      simp only [List.getElem_toArray, List.getElem_cons_succ, List.getElem_cons_zero, Act.put, List.setIfInBounds_toArray, List.set_cons_zero, List.set_cons_succ]
      refine wpAnyH_take (i := 6) (oi := _) (v := ?_) rfl (by kernel_rfl) (by kernel_rfl) (by kernel_rfl) (fun _ _ _ h => h) (Or.inl ⟨by rfl, ?_⟩) (by assumption) ?_
      rotate_left
      · intro w hSw
        try dsimp only at hSw
        go_simp
        all_goals with_reducible rfl
      simp only [List.getElem_toArray, List.getElem_cons_succ, List.getElem_cons_zero, Act.put, List.setIfInBounds_toArray, List.set_cons_zero, List.set_cons_succ]
      refine wpAnyH_take (i := 7) (oi := _) (v := ?_) rfl (by kernel_rfl) (by kernel_rfl) (by kernel_rfl) (fun _ _ _ h => h) (Or.inl ⟨by rfl, ?_⟩) (by assumption) ?_
      rotate_left
      · intro w hSw
        try dsimp only at hSw
        go_simp
        all_goals with_reducible rfl
      simp only [List.getElem_toArray, List.getElem_cons_succ, List.getElem_cons_zero, Act.put, List.setIfInBounds_toArray, List.set_cons_zero, List.set_cons_succ]
      refine wpAnyH_take (i := 8) (oi := _) (v := ?_) rfl (by kernel_rfl) (by kernel_rfl) (by kernel_rfl) (fun _ _ _ h => h) (Or.inl ⟨by rfl, ?_⟩) (by assumption) ?_
      rotate_left
      · intro w hSw
        try dsimp only at hSw
        go_simp
        all_goals with_reducible rfl
      simp only [List.getElem_toArray, List.getElem_cons_succ, List.getElem_cons_zero, Act.put, List.setIfInBounds_toArray, List.set_cons_zero, List.set_cons_succ]
      refine wpAnyH_ready (rs := [9]) (by kernel_rfl) (by simp) ?_
      refine AllReadyH.cons (o := _) rfl (fun K hK => ?_) AllReadyH.nil
      go_simp
      refine hK.out _ _ (HI.out _ (hHeld.1.alloc hHeld.1.size _)) (fun hHeld1 => ?_)
      clear hHeld
      clear hK K
      try simp only [List.getElem_toArray, List.getElem_cons_succ, List.getElem_cons_zero, Act.put, List.setIfInBounds_toArray, List.set_cons_zero, List.set_cons_succ]
      have hN5 := Blk.newAt W4.drew 55 #[.int .i64 0, .int .i64 0, .string ⟨#[]⟩] (g := W4.heap.size) rfl
      have f0 := hN5.froz 0
      have f1 := hN5.froz 1
      have f2 := hN5.froz 2
      have d0 := hN5.cell 0
      have d1 := hN5.cell 1
      have d2 := hN5.cell 2
      simp only [List.getElem?_toArray, List.getElem?_cons_zero, List.getElem?_cons_succ] at d0 d1 d2
      have HN5 := Lib.hid hN5
      clear hN5
      refine wpAnyH_ready (rs := [10]) (by kernel_rfl) (by simp) ?_
      refine AllReadyH.cons (o := _) rfl (fun K hK => ?_) AllReadyH.nil
      go_simp
      have HW5 := Lib.hid (show Below wr.heap.size wr (W4.alloc (.cells #[.int .i64 1, .int .i64 x1, .string ⟨#[]⟩] 55)).drew from (HB4.out.alloc HB4.out.size _).trans ((Below.refl _ _).drew.mono (by have := HB4.out.size; simp; omega)))
      have HN6 := Lib.hid ((Blk.newAt W4 55 #[.int .i64 1, .int .i64 x1, .string ⟨#[]⟩] (g := W4.heap.size) rfl).drewG)
      refine hK.out _ _ (HI.out _ HW5.out) (fun hHeld2 => ?_)
      clear hHeld1 f0 f1 f2 d0 d1 d2 HN5
      clear hK K
      try simp only [List.getElem_toArray, List.getElem_cons_succ, List.getElem_cons_zero, Act.put, List.setIfInBounds_toArray, List.set_cons_zero, List.set_cons_succ]
      refine wpAnyH_done (by kernel_rfl) ?_ _
      clear hHeld2
      generalize (W4.alloc (.cells #[.int .i64 1, .int .i64 x1, .string ⟨#[]⟩] 55)).drew = W5 at *
      have HZ5 := Lib.hid (show wr.heap.size ≤ W4.heap.size from HB4.out.size)
      have n0 := HN6.out.cell 0
      have n1 := HN6.out.cell 1
      have n2 := HN6.out.cell 2
      simp only [List.getElem?_toArray, List.getElem?_cons_zero, List.getElem?_cons_succ] at n0 n1 n2
      obtain ⟨o0, o1, o2, o3, o4⟩ := HOLD.out W5 (HB.out.trans (HW5.out.mono HB.out.size))
      clear HB4 HZ4
      generalize W4.heap.size = n4 at *
      go_wp2_with fail
      have l5 := L3.out.belowV HW5.out L3.out.lt
      have HK5 := Lib.hid (K3.out.belowV HW5.out K3.out.lt)
      have HG5 := Lib.hid (G3.out.belowV HW5.out G3.out.lt)
      have HL5 := Lib.hid l5
      have HBW := Lib.hid (HB.out.trans (HW5.out.mono HB.out.size))
      have HSW := Lib.hid HW5.out.size
      have hHs := HW5.out.size
      have HAD := Lib.hid fun W => (show Calls Tryz.prog 95 #[.agg #[.int .i64 0, .int .i64 0, .int .i64 0], .int .i64 x1, .int .i64 1] W (SumPost W (addS (0, 0, 0) x1 1)) from added_any (0, 0, 0) x1 1 W)
      obtain ⟨sm, hsm⟩ : ∃ sm, sm = addS (0, 0, 0) x1 1 := ⟨_, rfl⟩
      rw [← hsm] at HAD
      have HSM := Lib.hid hsm
      clear hsm
      obtain ⟨s0, s1, s2⟩ := sm
      have l0 := l5.cell 0
      have l1 := l5.cell 1
      have l2 := l5.cell 2
      simp only [List.getElem?_toArray, List.getElem?_cons_zero, List.getElem?_cons_succ] at l0 l1 l2
      clear l5
      refine wp_region_held_drew (S := fun W : World => W.cell? ⟨n4, 1, none⟩ = some (.int .i64 x1) ∧ W.cell? ⟨b, off + 1, none⟩ = some (.int .i64 1)) (by kernel_rfl) ⟨n1, o1⟩ (fun hHeld => ?_)
      refine wpAnyH_take (i := 1) (oi := _) (v := ?_) rfl (by kernel_rfl) (by kernel_rfl) (by kernel_rfl) (fun _ _ _ h => h) (Or.inl ⟨by rfl, ?_⟩) (by assumption) ?_
      rotate_left
      · intro w hSw
        try dsimp only at hSw
        go_simp
        all_goals with_reducible rfl
      simp only [List.getElem_toArray, List.getElem_cons_succ, List.getElem_cons_zero, Act.put, List.setIfInBounds_toArray, List.set_cons_zero, List.set_cons_succ]
      refine wpAnyH_take (i := 2) (oi := _) (v := ?_) rfl (by kernel_rfl) (by kernel_rfl) (by kernel_rfl) (fun _ _ _ h => h) (Or.inl ⟨by rfl, ?_⟩) (by assumption) ?_
      rotate_left
      · intro w hSw
        try dsimp only at hSw
        go_simp
        all_goals with_reducible rfl
      simp only [List.getElem_toArray, List.getElem_cons_succ, List.getElem_cons_zero, Act.put, List.setIfInBounds_toArray, List.set_cons_zero, List.set_cons_succ]
      refine wpAnyH_take (i := 3) (oi := _) (v := ?_) rfl (by kernel_rfl) (by kernel_rfl) (by kernel_rfl) (fun _ _ _ h => h) (Or.inl ⟨by rfl, ?_⟩) (by assumption) ?_
      rotate_left
      · intro w hSw
        try dsimp only at hSw
        go_simp
        all_goals with_reducible rfl
      simp only [List.getElem_toArray, List.getElem_cons_succ, List.getElem_cons_zero, Act.put, List.setIfInBounds_toArray, List.set_cons_zero, List.set_cons_succ]
      refine wpAnyH_take (i := 4) (oi := _) (v := ?_) rfl (by kernel_rfl) (by kernel_rfl) (by kernel_rfl) (fun _ _ _ h => h) (Or.inl ⟨by rfl, ?_⟩) (by assumption) ?_
      rotate_left
      · intro w hSw
        try dsimp only at hSw
        go_simp
        all_goals with_reducible rfl
      simp only [List.getElem_toArray, List.getElem_cons_succ, List.getElem_cons_zero, Act.put, List.setIfInBounds_toArray, List.set_cons_zero, List.set_cons_succ]
      refine wpAnyH_take (i := 5) (oi := _) (v := ?_) rfl (by kernel_rfl) (by kernel_rfl) (by kernel_rfl) (fun _ _ _ h => h) (Or.inl ⟨by rfl, ?_⟩) (by assumption) ?_
      rotate_left
      · intro w hSw
        try dsimp only at hSw
        go_simp
        all_goals with_reducible rfl
      simp only [List.getElem_toArray, List.getElem_cons_succ, List.getElem_cons_zero, Act.put, List.setIfInBounds_toArray, List.set_cons_zero, List.set_cons_succ]
      refine wpAnyH_take (i := 6) (oi := _) (v := ?_) rfl (by kernel_rfl) (by kernel_rfl) (by kernel_rfl) (fun _ _ _ h => h) (Or.inl ⟨by rfl, ?_⟩) (by assumption) ?_
      rotate_left
      · intro w hSw
        try dsimp only at hSw
        go_simp
        all_goals with_reducible rfl
      simp only [List.getElem_toArray, List.getElem_cons_succ, List.getElem_cons_zero, Act.put, List.setIfInBounds_toArray, List.set_cons_zero, List.set_cons_succ]
      refine wpAnyH_take (i := 7) (oi := _) (v := ?_) rfl (by kernel_rfl) (by kernel_rfl) (by kernel_rfl) (fun _ _ _ h => h) (Or.inl ⟨by rfl, ?_⟩) (by assumption) ?_
      rotate_left
      · intro w hSw
        try dsimp only at hSw
        go_simp
        all_goals with_reducible rfl
      simp only [List.getElem_toArray, List.getElem_cons_succ, List.getElem_cons_zero, Act.put, List.setIfInBounds_toArray, List.set_cons_zero, List.set_cons_succ]
      refine wpAnyH_ready (rs := [0]) (by kernel_rfl) (by simp) ?_
      refine AllReadyH.cons (o := _) rfl (fun K hK => ?_) AllReadyH.nil
      go_simp
      refine hK.out _ _ hHeld (fun hHeld1 => ?_)
      clear hHeld
      clear hK K
      try simp only [List.getElem_toArray, List.getElem_cons_succ, List.getElem_cons_zero, Act.put, List.setIfInBounds_toArray, List.set_cons_zero, List.set_cons_succ]
      refine wpAnyH_ready (rs := [8]) (by kernel_rfl) (by simp) ?_
      refine AllReadyH.cons (o := _) rfl (fun K hK => ?_) AllReadyH.nil
      go_simp
      refine (HAD.out _).mono ?_
      rintro e w8 ⟨rfl, hb8⟩
      have hbw : Below W5.heap.size W5 w8 := (Below.refl _ _).drew.trans hb8
      have HL8 := Lib.hid (HL5.out.belowV hbw HL5.out.lt)
      have HK8 := Lib.hid (HK5.out.belowV hbw HK5.out.lt)
      have HG8 := Lib.hid (HG5.out.belowV hbw HG5.out.lt)
      have HN8 := Lib.hid (HN6.out.belowV hbw HN6.out.lt)
      have HBW8 := Lib.hid (HBW.out.trans (hbw.mono HBW.out.size))
      have HSW8 := Lib.hid (Nat.le_trans HSW.out hbw.size)
      have hS8 : w8.cell? ⟨n4, 1, none⟩ = some (.int .i64 x1) ∧ w8.cell? ⟨b, off + 1, none⟩ = some (.int .i64 1) := ⟨(hbw.cell (p := ⟨n4, 1, none⟩) HN6.out.lt).trans n1, (HOLD.out w8 HBW8.out).2.1⟩
      dsimp only [sumV]
      refine hK.out _ _ hS8 (fun hHeld2 => ?_)
      clear hHeld1 hb8 hbw hS8 l0 l1 l2 n0 n1 n2 o0 o1 o2 o3 o4
      clear hK K
      try simp only [List.getElem_toArray, List.getElem_cons_succ, List.getElem_cons_zero, Act.put, List.setIfInBounds_toArray, List.set_cons_zero, List.set_cons_succ]
      have f0 := HL8.out.froz 0
      have f1 := HL8.out.froz 1
      have f2 := HL8.out.froz 2
      have d0 := HL8.out.cell 0
      have d1 := HL8.out.cell 1
      have d2 := HL8.out.cell 2
      simp only [List.getElem?_toArray, List.getElem?_cons_zero, List.getElem?_cons_succ] at d0 d1 d2
      refine wpAnyH_ready (rs := [9]) (by kernel_rfl) (by simp) ?_
      refine AllReadyH.cons (o := _) rfl (fun K hK => ?_) AllReadyH.nil
      go_simp
      have hL9 : Blk (((w8.setCell ⟨w.heap.size + 1 + 1, 0, none⟩ (.int .i64 s0)).setCell ⟨w.heap.size + 1 + 1, 1, none⟩ (.int .i64 s1)).setCell ⟨w.heap.size + 1 + 1, 2, none⟩ (.int .i64 s2)) (w.heap.size + 1 + 1) 141 #[.int .i64 s0, .int .i64 s1, .int .i64 s2] := by
        simpa using ((HL8.out.setG 0 (.int .i64 s0)).setG 1 (.int .i64 s1)).setG 2 (.int .i64 s2)
      have hne9 : n4 ≠ w.heap.size + 1 + 1 := by have := L3.out.lt; have := HZ5.out; omega
      have hN9 := Lib.hid (((HN8.out.setOther (j := 0) hne9 (.int .i64 s0)).setOther (j := 1) hne9 (.int .i64 s1)).setOther (j := 2) hne9 (.int .i64 s2))
      have hK9 := Lib.hid (((HK8.out.setOther (C := w.heap.size + 1 + 1) (j := 0) (by omega) (.int .i64 s0)).setOther (C := w.heap.size + 1 + 1) (j := 1) (by omega) (.int .i64 s1)).setOther (C := w.heap.size + 1 + 1) (j := 2) (by omega) (.int .i64 s2))
      have hG9 := Lib.hid (((HG8.out.setOther (C := w.heap.size + 1 + 1) (j := 0) (by omega) (.int .i64 s0)).setOther (C := w.heap.size + 1 + 1) (j := 1) (by omega) (.int .i64 s1)).setOther (C := w.heap.size + 1 + 1) (j := 2) (by omega) (.int .i64 s2))
      have HBW9 := Lib.hid (((HBW8.out.setCell (p := ⟨w.heap.size + 1 + 1, 0, none⟩) (by simp; omega) (.int .i64 s0)).setCell (p := ⟨w.heap.size + 1 + 1, 1, none⟩) (by simp; omega) (.int .i64 s1)).setCell (p := ⟨w.heap.size + 1 + 1, 2, none⟩) (by simp; omega) (.int .i64 s2))
      have HSW9 : Hid (wr.heap.size ≤ (((w8.setCell ⟨w.heap.size + 1 + 1, 0, none⟩ (.int .i64 s0)).setCell ⟨w.heap.size + 1 + 1, 1, none⟩ (.int .i64 s1)).setCell ⟨w.heap.size + 1 + 1, 2, none⟩ (.int .i64 s2)).heap.size) := Lib.hid (by have := HSW8.out; simp [World.setCell]; omega)
      have hL9 := Lib.hid hL9
      have z1 := hN9.out.cell 1
      simp only [List.getElem?_toArray, List.getElem?_cons_zero, List.getElem?_cons_succ] at z1
      refine hK.out _ _ ⟨z1, (HOLD.out _ HBW9.out).2.1⟩ (fun hHeld3 => ?_)
      clear hHeld2 f0 f1 f2 d0 d1 d2 z1
      clear hK K
      try simp only [List.getElem_toArray, List.getElem_cons_succ, List.getElem_cons_zero, Act.put, List.setIfInBounds_toArray, List.set_cons_zero, List.set_cons_succ]
      refine wpAnyH_done (by kernel_rfl) ?_ _
      clear hHeld3
      clear HW5 HN6 HK5 HG5 HL5 HBW HSW hHs HL8 HK8 HG8 HN8 HBW8 HSW8
      generalize ((w8.setCell ⟨w.heap.size + 1 + 1, 0, none⟩ (.int .i64 s0)).setCell ⟨w.heap.size + 1 + 1, 1, none⟩ (.int .i64 s1)).setCell ⟨w.heap.size + 1 + 1, 2, none⟩ (.int .i64 s2) = W5 at *
      have HN6 := hN9
      have hW55 := HSW9.out
      go_wp2_with fail
      go_wp2_with fail
      go_loopw [12] (fun s wr6 => s = .int .i64 0 ∧ W5 = wr6) (fun _ _ => 0)
      case atStart => exact ⟨rfl, rfl⟩
      case round =>
        obtain ⟨rfl, rfl⟩ := hrel
        go_wp2_with fail
        go_quiet (fail)
        go_wp2_with fail
        go_quiet (fail)
        have hn4 := HN6.out.lt
        have hne4 : n4 ≠ W5.heap.size := by omega
        have hsz4 := HZ5.out
        have hw6 : W5.heap.size ≠ n4 := by omega
        have hN8 : ∀ q : Nat, Blk ((W5.drewN q).alloc (.cells #[] 55)) n4 55 #[.int .i64 1, .int .i64 x1, .string ⟨#[]⟩] := fun q => (show Blk (W5.drewN q) n4 55 #[.int .i64 1, .int .i64 x1, .string ⟨#[]⟩] from HN6.out).allocG _
        have a0 := fun q => (hN8 q).cell 0
        have a1 := fun q => (hN8 q).cell 1
        have a2 := fun q => (hN8 q).cell 2
        simp only [List.getElem?_toArray, List.getElem?_cons_zero, List.getElem?_cons_succ] at a0 a1 a2
        clear hN8
        have HOW := Lib.hid (fun (W6 : World) => (show ((W6.alloc (.cells #[] 55)).alloc (.cells #[.int .i64 1, .int .i64 x1, .string ⟨#[]⟩] 55)).ownsRow W6.heap.size 55 3 (.slice (some ⟨W6.heap.size, 0, none⟩) 0 0) 0 [] from (World.ownsRow_made W6 #[] 0 (Nat.le_refl _) (Nat.zero_le _) rfl).alloc _))
        have HB6 := Lib.hid (fun (q : Nat) => (show Below W5.heap.size W5 (W5.drewN q) from ⟨rfl, rfl, rfl, Nat.le_refl _, fun _ _ => rfl⟩))
        go_wp2_with (at_builtin; refine wpList_append_own _ rfl _ _ 33 rfl W5.heap.size 55 i0 (.agg #[.int .i64 0, .int .i64 0, .string ⟨#[]⟩]) 3 32 Tryz.underlying33 hi hz0 hz1 hz2 rfl (by decide) _ 0 [] rfl (HOW.out _) ⟨W5.heap.size + 1, 0, none⟩ 1 1 (cellsV (1, x1, ⟨#[]⟩)) rfl rfl (cells_at _ _ _ (by simp)) (by simp [cellsV, Value.oneCell']) (by unfold maxLen; omega) (by omega) (by simp <;> omega) ?_; intro v' w7 hown' hgrow _; have HB7 := Lib.hid (show Below W5.heap.size W5 w7 from (((HB6.out _).alloc (HB6.out _).size (.cells #[] 55)).alloc (by simp <;> omega) (.cells #[.int .i64 1, .int .i64 x1, .string ⟨#[]⟩] 55)).grown hgrow (by simp <;> omega) (fun k e => ((HOW.out _).lt k e).1)); have HN7 := Lib.hid hown'; obtain ⟨g7, c7, rfl, hc7, hc7m⟩ := own_one hown'; clear hown' hgrow)
        go_roundw
        case rel => exact .inr ⟨rfl, rfl, rfl, ⟨g7, c7, rfl, by
          have h := ownsRow_base HN7.out HSW9.out
          have e : flatV [((1, x1, ⟨#[]⟩) : Val)] = [] ++ cellsV (1, x1, ⟨#[]⟩) := by simp [flatV]
          show w7.ownsRow wr.heap.size 55 3 _ (0 + 1) (flatV [((1, x1, ⟨#[]⟩) : Val)])
          rw [e]
          exact h⟩, rfl, hK9.out.belowV HB7.out hK9.out.lt, hG9.out.belowV HB7.out hG9.out.lt, by rw [← HSM.out]; exact hL9.out.belowV HB7.out hL9.out.lt, HBW9.out.trans (HB7.out.mono HBW9.out.size)⟩
        case measure => simp [RowKit.intOf]
    · have hvi := valsIn_of_owns hO.out
      obtain ⟨g', o', he, hgl, hva⟩ := hvi (by simp)
      simp only [Option.some.injEq, Addr.mk.injEq, and_true] at he
      obtain ⟨rfl, rfl⟩ := he
      obtain ⟨v0, v1, v2⟩ := hva 0 (by simp)
      simp only [List.getElem?_cons_zero, Option.getD_some, Nat.zero_mul, Nat.add_zero, Nat.zero_add] at v0 v1 v2
      have l0 := hL.cell 0
      have l1 := hL.cell 1
      have l2 := hL.cell 2
      simp only [List.getElem?_toArray, List.getElem?_cons_zero, List.getElem?_cons_succ] at l0 l1 l2
      clear hO hva
      have k0 := hK.cell 0
      simp only [List.getElem?_toArray, List.getElem?_cons_zero, List.getElem?_cons_succ] at k0
      have HWH := Lib.hid fun W => (show Calls Tryz.prog 96 #[.agg #[.int .i64 (addS (0, 0, 0) x1 1).1, .int .i64 (addS (0, 0, 0) x1 1).2.1, .int .i64 (addS (0, 0, 0) x1 1).2.2]] W (ValPost W (1, x1, ⟨#[]⟩)) from by
        have h := whole_any (addS (0, 0, 0) x1 1) W
        rw [HONE.out] at h
        exact h)
      have HKW := Lib.hid hK
      have HGW := Lib.hid hG
      have HLW := Lib.hid hL
      have HBW := Lib.hid hBB
      clear hK hG hL hBB
      go_wp2_with fail
      refine (HWH.out _).mono ?_
      rintro e w10 ⟨rfl, hb10⟩
      dsimp only [valA]
      have hK := HKW.out.belowV hb10 HKW.out.lt
      have hG := HGW.out.belowV hb10 HGW.out.lt
      have hBB : Below w.heap.size w w10 := HBW.out.trans (hb10.mono HBW.out.size)
      clear k0 l0 l1 l2 v0 v1 v2 hb10
      have k0 := hK.cell 0
      have f0 := hG.froz 0
      have f1 := hG.froz 1
      have f2 := hG.froz 2
      have d0 := hG.cell 0
      have d1 := hG.cell 1
      have d2 := hG.cell 2
      simp only [List.getElem?_toArray, List.getElem?_cons_zero, List.getElem?_cons_succ] at k0 d0 d1 d2
      have hset : Blk (((w10.setCell ⟨w.heap.size + 1, 0, none⟩ (.int .i64 1)).setCell ⟨w.heap.size + 1, 1, none⟩ (.int .i64 x1)).setCell ⟨w.heap.size + 1, 2, none⟩ (.string ⟨#[]⟩)) (w.heap.size + 1) 55 #[.int .i64 1, .int .i64 x1, .string ⟨#[]⟩] := by
        simpa using ((hG.setG 0 (.int .i64 1)).setG 1 (.int .i64 x1)).setG 2 (.string ⟨#[]⟩)
      have HSET := Lib.hid hset
      have HBB := Lib.hid hBB
      clear hset hBB hK hG
      go_wp2_with fail
      have r0 := HSET.out.cell 0
      have r1 := HSET.out.cell 1
      have r2 := HSET.out.cell 2
      simp only [List.getElem?_toArray, List.getElem?_cons_zero, List.getElem?_cons_succ] at r0 r1 r2
      rw [HRES.out]
      refine bodyPost_ret (v := valA (1, x1, ⟨#[]⟩)) (by simp [results, Tryz.results76, go_sem, r0, r1, r2, valA]) rfl ⟨rfl, ?_⟩
      exact ((HBB.out.setCell (p := ⟨w.heap.size + 1, 0, none⟩) (by simp) _).setCell (p := ⟨w.heap.size + 1, 1, none⟩) (by simp) _).setCell (p := ⟨w.heap.size + 1, 2, none⟩) (by simp) _

end Go.Proofs.YtfoknllnknjccaaGreat

/-!
  What the document tells of one row.
-/
namespace Go.Proofs.YtfoknllnknjccaaGreat
open Go.RowKit
set_option linter.unusedSimpArgs false
set_option linter.unusedVariables false

set_option maxRecDepth 100000 in
set_option maxHeartbeats 2000000 in
theorem tellO_4_int (m b off b2 off2 len qc d : Nat) (x1 : Int) (x2 : ByteArray) (hm : m < len) (w : World) (hb : b < w.heap.size) (hb2 : b2 < w.heap.size) (h0 : w.cell? ⟨b, off, none⟩ = some (.slice (some ⟨b2, off2, none⟩) len qc)) (h1 : w.cell? ⟨b, off + 1, none⟩ = some (.int .i64 1))
    (y0 : w.cell? ⟨b2, off2 + m * 3, none⟩ = some (.int .i64 1)) (y1 : w.cell? ⟨b2, off2 + m * 3 + 1, none⟩ = some (.int .i64 x1)) (y2 : w.cell? ⟨b2, off2 + m * 3 + 2, none⟩ = some (.string ⟨#[]⟩)) :
    Calls Tryz.prog 76 #[.agg #[.int .i64 4, .int .i64 (m : Int)], .slice (some ⟨b, off, none⟩) 1 d] w (ValPost w (tellK 4 [((1, x1, ⟨#[]⟩), 1)])) := by
  have HRES : Hid (tellK 4 [((1, x1, ⟨#[]⟩), 1)] = (1, x1, ⟨#[]⟩)) := Lib.hid (by
    simp [tellK, extStep, nul])
  generalize tellK 4 [((1, x1, ⟨#[]⟩), 1)] = res at HRES ⊢
  have b1 : Below w.heap.size w (w.alloc (.cells #[.int .i64 4, .int .i64 (m : Int)] 59)) := below_new _ _
  have b2' : Below w.heap.size w ((w.alloc (.cells #[.int .i64 4, .int .i64 (m : Int)] 59)).alloc (.cells #[.int .i64 0, .int .i64 0, .string ⟨#[]⟩] 55)) := b1.alloc b1.size _
  have b3 : Below w.heap.size w (((w.alloc (.cells #[.int .i64 4, .int .i64 (m : Int)] 59)).alloc (.cells #[.int .i64 0, .int .i64 0, .string ⟨#[]⟩] 55)).alloc (.cells #[.int .i64 0, .int .i64 0, .int .i64 0] 141)) := b2'.alloc b2'.size _
  have k3 := ((Blk.new w 59 #[.int .i64 4, .int .i64 (m : Int)]).allocG (.cells #[.int .i64 0, .int .i64 0, .string ⟨#[]⟩] 55)).allocG (.cells #[.int .i64 0, .int .i64 0, .int .i64 0] 141)
  have g3 := (Blk.newAt (w.alloc (.cells #[.int .i64 4, .int .i64 (m : Int)] 59)) 55 #[.int .i64 0, .int .i64 0, .string ⟨#[]⟩] (g := w.heap.size + 1) (by simp)).allocG (.cells #[.int .i64 0, .int .i64 0, .int .i64 0] 141)
  have l3 := Blk.newAt ((w.alloc (.cells #[.int .i64 4, .int .i64 (m : Int)] 59)).alloc (.cells #[.int .i64 0, .int .i64 0, .string ⟨#[]⟩] 55)) 141 #[.int .i64 0, .int .i64 0, .int .i64 0] (g := w.heap.size + 2) (by simp)
  have K3 := Lib.hid k3
  have G3 := Lib.hid g3
  have L3 := Lib.hid l3
  have HB := Lib.hid b3
  have hbb := hb
  have hsz : (((w.alloc (.cells #[.int .i64 4, .int .i64 (m : Int)] 59)).alloc (.cells #[.int .i64 0, .int .i64 0, .string ⟨#[]⟩] 55)).alloc (.cells #[.int .i64 0, .int .i64 0, .int .i64 0] 141)).heap.size = w.heap.size + 3 := by simp
  clear b1 b2' b3 k3 g3 l3
  go_enter Tryz.func76, Tryz.ntmps76
  generalize hW : ((w.alloc (.cells #[.int .i64 4, .int .i64 (m : Int)] 59)).alloc (.cells #[.int .i64 0, .int .i64 0, .string ⟨#[]⟩] 55)).alloc (.cells #[.int .i64 0, .int .i64 0, .int .i64 0] 141) = W3 at *
  have HOLD := Lib.hid (show ∀ W, Below w.heap.size w W → W.cell? ⟨b, off, none⟩ = some (.slice (some ⟨b2, off2, none⟩) len qc) ∧ W.cell? ⟨b, off + 1, none⟩ = some (.int .i64 1) ∧ W.cell? ⟨b2, off2 + m * 3, none⟩ = some (.int .i64 1) ∧ W.cell? ⟨b2, off2 + m * 3 + 1, none⟩ = some (.int .i64 x1) ∧ W.cell? ⟨b2, off2 + m * 3 + 2, none⟩ = some (.string ⟨#[]⟩) from fun W h =>
    ⟨(h.cell (p := ⟨b, off, none⟩) hb).trans h0, (h.cell (p := ⟨b, off + 1, none⟩) hb).trans h1, (h.cell (p := ⟨b2, off2 + m * 3, none⟩) hb2).trans y0, (h.cell (p := ⟨b2, off2 + m * 3 + 1, none⟩) hb2).trans y1, (h.cell (p := ⟨b2, off2 + m * 3 + 2, none⟩) hb2).trans y2⟩)
  clear h0 h1 y0 y1 y2 hbb
  go_wp2_with fail
  go_loopw [5, 6, 7, 9, 10, 11, 12, 13] (fun a b c d e _ _ _ wr => (a = .int .i64 0 ∧ b = .int .i64 0 ∧ c = .int .i64 0 ∧ d = .slice none 0 0 ∧ e = .int .i64 0 ∧ wr = W3) ∨ (a = .int .i64 1 ∧ b = .int .i64 1 ∧ c = .int .i64 1 ∧ (∃ g cap, d = .slice (some ⟨g, 0, none⟩) 1 cap ∧ Hid (OwnsV wr W3.heap.size d [(1, x1, ⟨#[]⟩)])) ∧ e = .int .i64 1 ∧ Blk wr w.heap.size 59 #[.int .i64 4, .int .i64 (m : Int)] ∧ Blk wr (w.heap.size + 1) 55 #[.int .i64 0, .int .i64 0, .string ⟨#[]⟩] ∧ Blk wr (w.heap.size + 2) 141 #[.int .i64 (addS (0, 0, 0) x1 1).1, .int .i64 (addS (0, 0, 0) x1 1).2.1, .int .i64 (addS (0, 0, 0) x1 1).2.2] ∧ Below w.heap.size w wr)) (fun _ _ _ _ e _ _ _ _ => 1 - (RowKit.intOf e).toNat)
  case atStart => exact .inl ⟨rfl, rfl, rfl, rfl, rfl, rfl⟩
  case round =>
    rcases hrel with ⟨rfl, rfl, rfl, rfl, rfl, rfl⟩ | ⟨rfl, rfl, rfl, ⟨g, cap, rfl, hO⟩, rfl, hK, hG, hL, hBB⟩
    · obtain ⟨i0, hi, hz0, hz1, hz2⟩ := info_parts infoV
      obtain ⟨o0, o1, o2, o3, o4⟩ := HOLD.out wr HB.out
      have k0 := K3.out.cell 0
      have k1 := K3.out.cell 1
      simp only [List.getElem?_toArray, List.getElem?_cons_zero, List.getElem?_cons_succ] at k0 k1
      have hm0 : (0 : Int) ≤ (m : Int) := by omega
      have hm1 : (m : Int) < (len : Int) := by omega
      go_wp2_with fail
      go_quiet (fail)
      go_wp2_with fail
      have HB4 : Hid (Below wr.heap.size wr (wr.drewN nq)) := Lib.hid ⟨rfl, rfl, rfl, Nat.le_refl _, fun _ _ => rfl⟩
      have HZ4 : Hid ((wr.drewN nq).heap.size = wr.heap.size) := Lib.hid rfl
      generalize wr.drewN nq = W4 at *
      have HI := Lib.hid (show ∀ W, Below wr.heap.size wr W → Below wr.heap.size wr W ∧ (W.cell? ⟨b, off, none⟩ = some (.slice (some ⟨b2, off2, none⟩) len qc) ∧ W.cell? ⟨b2, off2 + m * 3, none⟩ = some (.int .i64 1) ∧ W.cell? ⟨b2, off2 + m * 3 + 1, none⟩ = some (.int .i64 x1) ∧ W.cell? ⟨b2, off2 + m * 3 + 2, none⟩ = some (.string ⟨#[]⟩) ∧ W.cell? ⟨w.heap.size, 1, none⟩ = some (.int .i64 (m : Int))) from fun W h => by
        obtain ⟨p0, _, p2, p3, p4⟩ := HOLD.out W (HB.out.trans (h.mono HB.out.size))
        have z1 := (K3.out.belowV h K3.out.lt).cell 1
        simp only [List.getElem?_toArray, List.getElem?_cons_zero, List.getElem?_cons_succ] at z1
        exact ⟨h, p0, p2, p3, p4, z1⟩)
      clear o0 o1 o2 o3 o4 k0 k1
      refine wp_region_held_drew (S := fun W : World => Below wr.heap.size wr W ∧ (W.cell? ⟨b, off, none⟩ = some (.slice (some ⟨b2, off2, none⟩) len qc) ∧ W.cell? ⟨b2, off2 + m * 3, none⟩ = some (.int .i64 1) ∧ W.cell? ⟨b2, off2 + m * 3 + 1, none⟩ = some (.int .i64 x1) ∧ W.cell? ⟨b2, off2 + m * 3 + 2, none⟩ = some (.string ⟨#[]⟩) ∧ W.cell? ⟨w.heap.size, 1, none⟩ = some (.int .i64 (m : Int)))) (by kernel_rfl) (HI.out _ (HB4.out.trans ((Below.refl _ _).drew.mono HB4.out.size))) (fun hHeld => ?_)
      refine wpAnyH_take (i := 0) (oi := _) (v := ?_) rfl (by kernel_rfl) (by kernel_rfl) (by kernel_rfl) (fun _ _ _ h => h) (Or.inl ⟨by rfl, ?_⟩) (by assumption) ?_
      rotate_left
      · intro w hSw
        try dsimp only at hSw
        go_simp
        all_goals with_reducible rfl
      simp only [List.getElem_toArray, List.getElem_cons_succ, List.getElem_cons_zero, Act.put, List.setIfInBounds_toArray, List.set_cons_zero, List.set_cons_succ]
      refine wpAnyH_take (i := 1) (oi := _) (v := ?_) rfl (by kernel_rfl) (by kernel_rfl) (by kernel_rfl) (fun _ _ _ h => h) (Or.inl ⟨by rfl, ?_⟩) (by assumption) ?_
      rotate_left
      · intro w hSw
        try dsimp only at hSw
        go_simp
        all_goals with_reducible rfl
      simp only [List.getElem_toArray, List.getElem_cons_succ, List.getElem_cons_zero, Act.put, List.setIfInBounds_toArray, List.set_cons_zero, List.set_cons_succ]
      refine wpAnyH_take (i := 2) (oi := _) (v := ?_) rfl (by kernel_rfl) (by kernel_rfl) (by kernel_rfl) (fun _ _ _ h => h) (Or.inl ⟨by rfl, ?_⟩) (by assumption) ?_
      rotate_left
      · intro w hSw
        try dsimp only at hSw
        go_simp
        all_goals with_reducible rfl
      simp only [List.getElem_toArray, List.getElem_cons_succ, List.getElem_cons_zero, Act.put, List.setIfInBounds_toArray, List.set_cons_zero, List.set_cons_succ]
      refine wpAnyH_take (i := 3) (oi := _) (v := ?_) rfl (by kernel_rfl) (by kernel_rfl) (by kernel_rfl) (fun _ _ _ h => h) (Or.inl ⟨by rfl, ?_⟩) (by assumption) ?_
      rotate_left
      · intro w hSw
        try dsimp only at hSw
        go_simp
        all_goals with_reducible rfl
      simp only [List.getElem_toArray, List.getElem_cons_succ, List.getElem_cons_zero, Act.put, List.setIfInBounds_toArray, List.set_cons_zero, List.set_cons_succ]
      refine wpAnyH_take (i := 4) (oi := _) (v := ?_) rfl (by kernel_rfl) (by kernel_rfl) (by kernel_rfl) (fun _ _ _ h => h) (Or.inl ⟨by rfl, ?_⟩) (by assumption) ?_
      rotate_left
      · intro w hSw
        try dsimp only at hSw
        go_simp
        all_goals with_reducible rfl
      simp only [List.getElem_toArray, List.getElem_cons_succ, List.getElem_cons_zero, Act.put, List.setIfInBounds_toArray, List.set_cons_zero, List.set_cons_succ]
      refine wpAnyH_take (i := 5) (oi := _) (v := ?_) rfl (by kernel_rfl) (by kernel_rfl) (by kernel_rfl) (fun _ _ _ h => h) (Or.inl ⟨by rfl, ?_⟩) (by assumption) ?_
      rotate_left
      · intro w hSw
        try dsimp only at hSw
        go_simp
        all_goals with_reducible rfl
      simp only [List.getElem_toArray, List.getElem_cons_succ, List.getElem_cons_zero, Act.put, List.setIfInBounds_toArray, List.set_cons_zero, List.set_cons_succ]
      refine wpAnyH_take (i := 6) (oi := _) (v := ?_) rfl (by kernel_rfl) (by kernel_rfl) (by kernel_rfl) (fun _ _ _ h => h) (Or.inl ⟨by rfl, ?_⟩) (by assumption) ?_
      rotate_left
      · intro w hSw
        try dsimp only at hSw
        go_simp
        all_goals with_reducible rfl
      simp only [List.getElem_toArray, List.getElem_cons_succ, List.getElem_cons_zero, Act.put, List.setIfInBounds_toArray, List.set_cons_zero, List.set_cons_succ]
      refine wpAnyH_take (i := 7) (oi := _) (v := ?_) rfl (by kernel_rfl) (by kernel_rfl) (by kernel_rfl) (fun _ _ _ h => h) (Or.inl ⟨by rfl, ?_⟩) (by assumption) ?_
      rotate_left
      · intro w hSw
        try dsimp only at hSw
        go_simp
        all_goals with_reducible rfl
      simp only [List.getElem_toArray, List.getElem_cons_succ, List.getElem_cons_zero, Act.put, List.setIfInBounds_toArray, List.set_cons_zero, List.set_cons_succ]
      refine wpAnyH_take (i := 8) (oi := _) (v := ?_) rfl (by kernel_rfl) (by kernel_rfl) (by kernel_rfl) (fun _ _ _ h => h) (Or.inl ⟨by rfl, ?_⟩) (by assumption) ?_
      rotate_left
      · intro w hSw
        try dsimp only at hSw
        go_simp
        all_goals with_reducible rfl
      simp only [List.getElem_toArray, List.getElem_cons_succ, List.getElem_cons_zero, Act.put, List.setIfInBounds_toArray, List.set_cons_zero, List.set_cons_succ]
      refine wpAnyH_ready (rs := [9]) (by kernel_rfl) (by simp) ?_
      refine AllReadyH.cons (o := _) rfl (fun K hK => ?_) AllReadyH.nil
      go_simp
      refine hK.out _ _ (HI.out _ (hHeld.1.alloc hHeld.1.size _)) (fun hHeld1 => ?_)
      clear hHeld
      clear hK K
      try simp only [List.getElem_toArray, List.getElem_cons_succ, List.getElem_cons_zero, Act.put, List.setIfInBounds_toArray, List.set_cons_zero, List.set_cons_succ]
      have hN5 := Blk.newAt W4.drew 55 #[.int .i64 0, .int .i64 0, .string ⟨#[]⟩] (g := W4.heap.size) rfl
      have f0 := hN5.froz 0
      have f1 := hN5.froz 1
      have f2 := hN5.froz 2
      have d0 := hN5.cell 0
      have d1 := hN5.cell 1
      have d2 := hN5.cell 2
      simp only [List.getElem?_toArray, List.getElem?_cons_zero, List.getElem?_cons_succ] at d0 d1 d2
      have HN5 := Lib.hid hN5
      clear hN5
      refine wpAnyH_ready (rs := [10]) (by kernel_rfl) (by simp) ?_
      refine AllReadyH.cons (o := _) rfl (fun K hK => ?_) AllReadyH.nil
      go_simp
      have HW5 := Lib.hid (show Below wr.heap.size wr (W4.alloc (.cells #[.int .i64 1, .int .i64 x1, .string ⟨#[]⟩] 55)).drew from (HB4.out.alloc HB4.out.size _).trans ((Below.refl _ _).drew.mono (by have := HB4.out.size; simp; omega)))
      have HN6 := Lib.hid ((Blk.newAt W4 55 #[.int .i64 1, .int .i64 x1, .string ⟨#[]⟩] (g := W4.heap.size) rfl).drewG)
      refine hK.out _ _ (HI.out _ HW5.out) (fun hHeld2 => ?_)
      clear hHeld1 f0 f1 f2 d0 d1 d2 HN5
      clear hK K
      try simp only [List.getElem_toArray, List.getElem_cons_succ, List.getElem_cons_zero, Act.put, List.setIfInBounds_toArray, List.set_cons_zero, List.set_cons_succ]
      refine wpAnyH_done (by kernel_rfl) ?_ _
      clear hHeld2
      generalize (W4.alloc (.cells #[.int .i64 1, .int .i64 x1, .string ⟨#[]⟩] 55)).drew = W5 at *
      have HZ5 := Lib.hid (show wr.heap.size ≤ W4.heap.size from HB4.out.size)
      have n0 := HN6.out.cell 0
      have n1 := HN6.out.cell 1
      have n2 := HN6.out.cell 2
      simp only [List.getElem?_toArray, List.getElem?_cons_zero, List.getElem?_cons_succ] at n0 n1 n2
      obtain ⟨o0, o1, o2, o3, o4⟩ := HOLD.out W5 (HB.out.trans (HW5.out.mono HB.out.size))
      clear HB4 HZ4
      generalize W4.heap.size = n4 at *
      go_wp2_with fail
      have l5 := L3.out.belowV HW5.out L3.out.lt
      have HK5 := Lib.hid (K3.out.belowV HW5.out K3.out.lt)
      have HG5 := Lib.hid (G3.out.belowV HW5.out G3.out.lt)
      have HL5 := Lib.hid l5
      have HBW := Lib.hid (HB.out.trans (HW5.out.mono HB.out.size))
      have HSW := Lib.hid HW5.out.size
      have hHs := HW5.out.size
      have HAD := Lib.hid fun W => (show Calls Tryz.prog 95 #[.agg #[.int .i64 0, .int .i64 0, .int .i64 0], .int .i64 x1, .int .i64 1] W (SumPost W (addS (0, 0, 0) x1 1)) from added_any (0, 0, 0) x1 1 W)
      obtain ⟨sm, hsm⟩ : ∃ sm, sm = addS (0, 0, 0) x1 1 := ⟨_, rfl⟩
      rw [← hsm] at HAD
      have HSM := Lib.hid hsm
      clear hsm
      obtain ⟨s0, s1, s2⟩ := sm
      have l0 := l5.cell 0
      have l1 := l5.cell 1
      have l2 := l5.cell 2
      simp only [List.getElem?_toArray, List.getElem?_cons_zero, List.getElem?_cons_succ] at l0 l1 l2
      clear l5
      refine wp_region_held_drew (S := fun W : World => W.cell? ⟨n4, 1, none⟩ = some (.int .i64 x1) ∧ W.cell? ⟨b, off + 1, none⟩ = some (.int .i64 1)) (by kernel_rfl) ⟨n1, o1⟩ (fun hHeld => ?_)
      refine wpAnyH_take (i := 1) (oi := _) (v := ?_) rfl (by kernel_rfl) (by kernel_rfl) (by kernel_rfl) (fun _ _ _ h => h) (Or.inl ⟨by rfl, ?_⟩) (by assumption) ?_
      rotate_left
      · intro w hSw
        try dsimp only at hSw
        go_simp
        all_goals with_reducible rfl
      simp only [List.getElem_toArray, List.getElem_cons_succ, List.getElem_cons_zero, Act.put, List.setIfInBounds_toArray, List.set_cons_zero, List.set_cons_succ]
      refine wpAnyH_take (i := 2) (oi := _) (v := ?_) rfl (by kernel_rfl) (by kernel_rfl) (by kernel_rfl) (fun _ _ _ h => h) (Or.inl ⟨by rfl, ?_⟩) (by assumption) ?_
      rotate_left
      · intro w hSw
        try dsimp only at hSw
        go_simp
        all_goals with_reducible rfl
      simp only [List.getElem_toArray, List.getElem_cons_succ, List.getElem_cons_zero, Act.put, List.setIfInBounds_toArray, List.set_cons_zero, List.set_cons_succ]
      refine wpAnyH_take (i := 3) (oi := _) (v := ?_) rfl (by kernel_rfl) (by kernel_rfl) (by kernel_rfl) (fun _ _ _ h => h) (Or.inl ⟨by rfl, ?_⟩) (by assumption) ?_
      rotate_left
      · intro w hSw
        try dsimp only at hSw
        go_simp
        all_goals with_reducible rfl
      simp only [List.getElem_toArray, List.getElem_cons_succ, List.getElem_cons_zero, Act.put, List.setIfInBounds_toArray, List.set_cons_zero, List.set_cons_succ]
      refine wpAnyH_take (i := 4) (oi := _) (v := ?_) rfl (by kernel_rfl) (by kernel_rfl) (by kernel_rfl) (fun _ _ _ h => h) (Or.inl ⟨by rfl, ?_⟩) (by assumption) ?_
      rotate_left
      · intro w hSw
        try dsimp only at hSw
        go_simp
        all_goals with_reducible rfl
      simp only [List.getElem_toArray, List.getElem_cons_succ, List.getElem_cons_zero, Act.put, List.setIfInBounds_toArray, List.set_cons_zero, List.set_cons_succ]
      refine wpAnyH_take (i := 5) (oi := _) (v := ?_) rfl (by kernel_rfl) (by kernel_rfl) (by kernel_rfl) (fun _ _ _ h => h) (Or.inl ⟨by rfl, ?_⟩) (by assumption) ?_
      rotate_left
      · intro w hSw
        try dsimp only at hSw
        go_simp
        all_goals with_reducible rfl
      simp only [List.getElem_toArray, List.getElem_cons_succ, List.getElem_cons_zero, Act.put, List.setIfInBounds_toArray, List.set_cons_zero, List.set_cons_succ]
      refine wpAnyH_take (i := 6) (oi := _) (v := ?_) rfl (by kernel_rfl) (by kernel_rfl) (by kernel_rfl) (fun _ _ _ h => h) (Or.inl ⟨by rfl, ?_⟩) (by assumption) ?_
      rotate_left
      · intro w hSw
        try dsimp only at hSw
        go_simp
        all_goals with_reducible rfl
      simp only [List.getElem_toArray, List.getElem_cons_succ, List.getElem_cons_zero, Act.put, List.setIfInBounds_toArray, List.set_cons_zero, List.set_cons_succ]
      refine wpAnyH_take (i := 7) (oi := _) (v := ?_) rfl (by kernel_rfl) (by kernel_rfl) (by kernel_rfl) (fun _ _ _ h => h) (Or.inl ⟨by rfl, ?_⟩) (by assumption) ?_
      rotate_left
      · intro w hSw
        try dsimp only at hSw
        go_simp
        all_goals with_reducible rfl
      simp only [List.getElem_toArray, List.getElem_cons_succ, List.getElem_cons_zero, Act.put, List.setIfInBounds_toArray, List.set_cons_zero, List.set_cons_succ]
      refine wpAnyH_ready (rs := [0]) (by kernel_rfl) (by simp) ?_
      refine AllReadyH.cons (o := _) rfl (fun K hK => ?_) AllReadyH.nil
      go_simp
      refine hK.out _ _ hHeld (fun hHeld1 => ?_)
      clear hHeld
      clear hK K
      try simp only [List.getElem_toArray, List.getElem_cons_succ, List.getElem_cons_zero, Act.put, List.setIfInBounds_toArray, List.set_cons_zero, List.set_cons_succ]
      refine wpAnyH_ready (rs := [8]) (by kernel_rfl) (by simp) ?_
      refine AllReadyH.cons (o := _) rfl (fun K hK => ?_) AllReadyH.nil
      go_simp
      refine (HAD.out _).mono ?_
      rintro e w8 ⟨rfl, hb8⟩
      have hbw : Below W5.heap.size W5 w8 := (Below.refl _ _).drew.trans hb8
      have HL8 := Lib.hid (HL5.out.belowV hbw HL5.out.lt)
      have HK8 := Lib.hid (HK5.out.belowV hbw HK5.out.lt)
      have HG8 := Lib.hid (HG5.out.belowV hbw HG5.out.lt)
      have HN8 := Lib.hid (HN6.out.belowV hbw HN6.out.lt)
      have HBW8 := Lib.hid (HBW.out.trans (hbw.mono HBW.out.size))
      have HSW8 := Lib.hid (Nat.le_trans HSW.out hbw.size)
      have hS8 : w8.cell? ⟨n4, 1, none⟩ = some (.int .i64 x1) ∧ w8.cell? ⟨b, off + 1, none⟩ = some (.int .i64 1) := ⟨(hbw.cell (p := ⟨n4, 1, none⟩) HN6.out.lt).trans n1, (HOLD.out w8 HBW8.out).2.1⟩
      dsimp only [sumV]
      refine hK.out _ _ hS8 (fun hHeld2 => ?_)
      clear hHeld1 hb8 hbw hS8 l0 l1 l2 n0 n1 n2 o0 o1 o2 o3 o4
      clear hK K
      try simp only [List.getElem_toArray, List.getElem_cons_succ, List.getElem_cons_zero, Act.put, List.setIfInBounds_toArray, List.set_cons_zero, List.set_cons_succ]
      have f0 := HL8.out.froz 0
      have f1 := HL8.out.froz 1
      have f2 := HL8.out.froz 2
      have d0 := HL8.out.cell 0
      have d1 := HL8.out.cell 1
      have d2 := HL8.out.cell 2
      simp only [List.getElem?_toArray, List.getElem?_cons_zero, List.getElem?_cons_succ] at d0 d1 d2
      refine wpAnyH_ready (rs := [9]) (by kernel_rfl) (by simp) ?_
      refine AllReadyH.cons (o := _) rfl (fun K hK => ?_) AllReadyH.nil
      go_simp
      have hL9 : Blk (((w8.setCell ⟨w.heap.size + 1 + 1, 0, none⟩ (.int .i64 s0)).setCell ⟨w.heap.size + 1 + 1, 1, none⟩ (.int .i64 s1)).setCell ⟨w.heap.size + 1 + 1, 2, none⟩ (.int .i64 s2)) (w.heap.size + 1 + 1) 141 #[.int .i64 s0, .int .i64 s1, .int .i64 s2] := by
        simpa using ((HL8.out.setG 0 (.int .i64 s0)).setG 1 (.int .i64 s1)).setG 2 (.int .i64 s2)
      have hne9 : n4 ≠ w.heap.size + 1 + 1 := by have := L3.out.lt; have := HZ5.out; omega
      have hN9 := Lib.hid (((HN8.out.setOther (j := 0) hne9 (.int .i64 s0)).setOther (j := 1) hne9 (.int .i64 s1)).setOther (j := 2) hne9 (.int .i64 s2))
      have hK9 := Lib.hid (((HK8.out.setOther (C := w.heap.size + 1 + 1) (j := 0) (by omega) (.int .i64 s0)).setOther (C := w.heap.size + 1 + 1) (j := 1) (by omega) (.int .i64 s1)).setOther (C := w.heap.size + 1 + 1) (j := 2) (by omega) (.int .i64 s2))
      have hG9 := Lib.hid (((HG8.out.setOther (C := w.heap.size + 1 + 1) (j := 0) (by omega) (.int .i64 s0)).setOther (C := w.heap.size + 1 + 1) (j := 1) (by omega) (.int .i64 s1)).setOther (C := w.heap.size + 1 + 1) (j := 2) (by omega) (.int .i64 s2))
      have HBW9 := Lib.hid (((HBW8.out.setCell (p := ⟨w.heap.size + 1 + 1, 0, none⟩) (by simp; omega) (.int .i64 s0)).setCell (p := ⟨w.heap.size + 1 + 1, 1, none⟩) (by simp; omega) (.int .i64 s1)).setCell (p := ⟨w.heap.size + 1 + 1, 2, none⟩) (by simp; omega) (.int .i64 s2))
      have HSW9 : Hid (wr.heap.size ≤ (((w8.setCell ⟨w.heap.size + 1 + 1, 0, none⟩ (.int .i64 s0)).setCell ⟨w.heap.size + 1 + 1, 1, none⟩ (.int .i64 s1)).setCell ⟨w.heap.size + 1 + 1, 2, none⟩ (.int .i64 s2)).heap.size) := Lib.hid (by have := HSW8.out; simp [World.setCell]; omega)
      have hL9 := Lib.hid hL9
      have z1 := hN9.out.cell 1
      simp only [List.getElem?_toArray, List.getElem?_cons_zero, List.getElem?_cons_succ] at z1
      refine hK.out _ _ ⟨z1, (HOLD.out _ HBW9.out).2.1⟩ (fun hHeld3 => ?_)
      clear hHeld2 f0 f1 f2 d0 d1 d2 z1
      clear hK K
      try simp only [List.getElem_toArray, List.getElem_cons_succ, List.getElem_cons_zero, Act.put, List.setIfInBounds_toArray, List.set_cons_zero, List.set_cons_succ]
      refine wpAnyH_done (by kernel_rfl) ?_ _
      clear hHeld3
      clear HW5 HN6 HK5 HG5 HL5 HBW HSW hHs HL8 HK8 HG8 HN8 HBW8 HSW8
      generalize ((w8.setCell ⟨w.heap.size + 1 + 1, 0, none⟩ (.int .i64 s0)).setCell ⟨w.heap.size + 1 + 1, 1, none⟩ (.int .i64 s1)).setCell ⟨w.heap.size + 1 + 1, 2, none⟩ (.int .i64 s2) = W5 at *
      have HN6 := hN9
      have hW55 := HSW9.out
      go_wp2_with fail
      go_wp2_with fail
      go_loopw [12] (fun s wr6 => s = .int .i64 0 ∧ W5 = wr6) (fun _ _ => 0)
      case atStart => exact ⟨rfl, rfl⟩
      case round =>
        obtain ⟨rfl, rfl⟩ := hrel
        go_wp2_with fail
        go_quiet (fail)
        go_wp2_with fail
        go_quiet (fail)
        have hn4 := HN6.out.lt
        have hne4 : n4 ≠ W5.heap.size := by omega
        have hsz4 := HZ5.out
        have hw6 : W5.heap.size ≠ n4 := by omega
        have hN8 : ∀ q : Nat, Blk ((W5.drewN q).alloc (.cells #[] 55)) n4 55 #[.int .i64 1, .int .i64 x1, .string ⟨#[]⟩] := fun q => (show Blk (W5.drewN q) n4 55 #[.int .i64 1, .int .i64 x1, .string ⟨#[]⟩] from HN6.out).allocG _
        have a0 := fun q => (hN8 q).cell 0
        have a1 := fun q => (hN8 q).cell 1
        have a2 := fun q => (hN8 q).cell 2
        simp only [List.getElem?_toArray, List.getElem?_cons_zero, List.getElem?_cons_succ] at a0 a1 a2
        clear hN8
        have HOW := Lib.hid (fun (W6 : World) => (show ((W6.alloc (.cells #[] 55)).alloc (.cells #[.int .i64 1, .int .i64 x1, .string ⟨#[]⟩] 55)).ownsRow W6.heap.size 55 3 (.slice (some ⟨W6.heap.size, 0, none⟩) 0 0) 0 [] from (World.ownsRow_made W6 #[] 0 (Nat.le_refl _) (Nat.zero_le _) rfl).alloc _))
        have HB6 := Lib.hid (fun (q : Nat) => (show Below W5.heap.size W5 (W5.drewN q) from ⟨rfl, rfl, rfl, Nat.le_refl _, fun _ _ => rfl⟩))
        go_wp2_with (at_builtin; refine wpList_append_own _ rfl _ _ 33 rfl W5.heap.size 55 i0 (.agg #[.int .i64 0, .int .i64 0, .string ⟨#[]⟩]) 3 32 Tryz.underlying33 hi hz0 hz1 hz2 rfl (by decide) _ 0 [] rfl (HOW.out _) ⟨W5.heap.size + 1, 0, none⟩ 1 1 (cellsV (1, x1, ⟨#[]⟩)) rfl rfl (cells_at _ _ _ (by simp)) (by simp [cellsV, Value.oneCell']) (by unfold maxLen; omega) (by omega) (by simp <;> omega) ?_; intro v' w7 hown' hgrow _; have HB7 := Lib.hid (show Below W5.heap.size W5 w7 from (((HB6.out _).alloc (HB6.out _).size (.cells #[] 55)).alloc (by simp <;> omega) (.cells #[.int .i64 1, .int .i64 x1, .string ⟨#[]⟩] 55)).grown hgrow (by simp <;> omega) (fun k e => ((HOW.out _).lt k e).1)); have HN7 := Lib.hid hown'; obtain ⟨g7, c7, rfl, hc7, hc7m⟩ := own_one hown'; clear hown' hgrow)
        go_roundw
        case rel => exact .inr ⟨rfl, rfl, rfl, ⟨g7, c7, rfl, by
          have h := ownsRow_base HN7.out HSW9.out
          have e : flatV [((1, x1, ⟨#[]⟩) : Val)] = [] ++ cellsV (1, x1, ⟨#[]⟩) := by simp [flatV]
          show w7.ownsRow wr.heap.size 55 3 _ (0 + 1) (flatV [((1, x1, ⟨#[]⟩) : Val)])
          rw [e]
          exact h⟩, rfl, hK9.out.belowV HB7.out hK9.out.lt, hG9.out.belowV HB7.out hG9.out.lt, by rw [← HSM.out]; exact hL9.out.belowV HB7.out hL9.out.lt, HBW9.out.trans (HB7.out.mono HBW9.out.size)⟩
        case measure => simp [RowKit.intOf]
    · have hvi := valsIn_of_owns hO.out
      obtain ⟨g', o', he, hgl, hva⟩ := hvi (by simp)
      simp only [Option.some.injEq, Addr.mk.injEq, and_true] at he
      obtain ⟨rfl, rfl⟩ := he
      obtain ⟨v0, v1, v2⟩ := hva 0 (by simp)
      simp only [List.getElem?_cons_zero, Option.getD_some, Nat.zero_mul, Nat.add_zero, Nat.zero_add] at v0 v1 v2
      have l0 := hL.cell 0
      have l1 := hL.cell 1
      have l2 := hL.cell 2
      simp only [List.getElem?_toArray, List.getElem?_cons_zero, List.getElem?_cons_succ] at l0 l1 l2
      clear hO hL hva
      have k0 := hK.cell 0
      have f0 := hG.froz 0
      have f1 := hG.froz 1
      have f2 := hG.froz 2
      have d0 := hG.cell 0
      have d1 := hG.cell 1
      have d2 := hG.cell 2
      simp only [List.getElem?_toArray, List.getElem?_cons_zero, List.getElem?_cons_succ] at k0 d0 d1 d2
      have hset : Blk (((wr.setCell ⟨w.heap.size + 1, 0, none⟩ (.int .i64 1)).setCell ⟨w.heap.size + 1, 1, none⟩ (.int .i64 x1)).setCell ⟨w.heap.size + 1, 2, none⟩ (.string ⟨#[]⟩)) (w.heap.size + 1) 55 #[.int .i64 1, .int .i64 x1, .string ⟨#[]⟩] := by
        simpa using ((hG.setG 0 (.int .i64 1)).setG 1 (.int .i64 x1)).setG 2 (.string ⟨#[]⟩)
      have HSET := Lib.hid hset
      have HBB := Lib.hid hBB
      clear hset hBB hK hG
      go_wp2_with fail
      have r0 := HSET.out.cell 0
      have r1 := HSET.out.cell 1
      have r2 := HSET.out.cell 2
      simp only [List.getElem?_toArray, List.getElem?_cons_zero, List.getElem?_cons_succ] at r0 r1 r2
      rw [HRES.out]
      refine bodyPost_ret (v := valA (1, x1, ⟨#[]⟩)) (by simp [results, Tryz.results76, go_sem, r0, r1, r2, valA]) rfl ⟨rfl, ?_⟩
      exact ((HBB.out.setCell (p := ⟨w.heap.size + 1, 0, none⟩) (by simp) _).setCell (p := ⟨w.heap.size + 1, 1, none⟩) (by simp) _).setCell (p := ⟨w.heap.size + 1, 2, none⟩) (by simp) _

set_option maxRecDepth 100000 in
set_option maxHeartbeats 2000000 in
theorem tellO_5_int (m b off b2 off2 len qc d : Nat) (x1 : Int) (x2 : ByteArray) (hm : m < len) (w : World) (hb : b < w.heap.size) (hb2 : b2 < w.heap.size) (h0 : w.cell? ⟨b, off, none⟩ = some (.slice (some ⟨b2, off2, none⟩) len qc)) (h1 : w.cell? ⟨b, off + 1, none⟩ = some (.int .i64 1))
    (y0 : w.cell? ⟨b2, off2 + m * 3, none⟩ = some (.int .i64 1)) (y1 : w.cell? ⟨b2, off2 + m * 3 + 1, none⟩ = some (.int .i64 x1)) (y2 : w.cell? ⟨b2, off2 + m * 3 + 2, none⟩ = some (.string ⟨#[]⟩)) :
    Calls Tryz.prog 76 #[.agg #[.int .i64 5, .int .i64 (m : Int)], .slice (some ⟨b, off, none⟩) 1 d] w (ValPost w (tellK 5 [((1, x1, ⟨#[]⟩), 1)])) := by
  have HRES : Hid (tellK 5 [((1, x1, ⟨#[]⟩), 1)] = (1, x1, ⟨#[]⟩)) := Lib.hid (by
    simp [tellK, extStep, nul])
  generalize tellK 5 [((1, x1, ⟨#[]⟩), 1)] = res at HRES ⊢
  have b1 : Below w.heap.size w (w.alloc (.cells #[.int .i64 5, .int .i64 (m : Int)] 59)) := below_new _ _
  have b2' : Below w.heap.size w ((w.alloc (.cells #[.int .i64 5, .int .i64 (m : Int)] 59)).alloc (.cells #[.int .i64 0, .int .i64 0, .string ⟨#[]⟩] 55)) := b1.alloc b1.size _
  have b3 : Below w.heap.size w (((w.alloc (.cells #[.int .i64 5, .int .i64 (m : Int)] 59)).alloc (.cells #[.int .i64 0, .int .i64 0, .string ⟨#[]⟩] 55)).alloc (.cells #[.int .i64 0, .int .i64 0, .int .i64 0] 141)) := b2'.alloc b2'.size _
  have k3 := ((Blk.new w 59 #[.int .i64 5, .int .i64 (m : Int)]).allocG (.cells #[.int .i64 0, .int .i64 0, .string ⟨#[]⟩] 55)).allocG (.cells #[.int .i64 0, .int .i64 0, .int .i64 0] 141)
  have g3 := (Blk.newAt (w.alloc (.cells #[.int .i64 5, .int .i64 (m : Int)] 59)) 55 #[.int .i64 0, .int .i64 0, .string ⟨#[]⟩] (g := w.heap.size + 1) (by simp)).allocG (.cells #[.int .i64 0, .int .i64 0, .int .i64 0] 141)
  have l3 := Blk.newAt ((w.alloc (.cells #[.int .i64 5, .int .i64 (m : Int)] 59)).alloc (.cells #[.int .i64 0, .int .i64 0, .string ⟨#[]⟩] 55)) 141 #[.int .i64 0, .int .i64 0, .int .i64 0] (g := w.heap.size + 2) (by simp)
  have K3 := Lib.hid k3
  have G3 := Lib.hid g3
  have L3 := Lib.hid l3
  have HB := Lib.hid b3
  have hbb := hb
  have hsz : (((w.alloc (.cells #[.int .i64 5, .int .i64 (m : Int)] 59)).alloc (.cells #[.int .i64 0, .int .i64 0, .string ⟨#[]⟩] 55)).alloc (.cells #[.int .i64 0, .int .i64 0, .int .i64 0] 141)).heap.size = w.heap.size + 3 := by simp
  clear b1 b2' b3 k3 g3 l3
  go_enter Tryz.func76, Tryz.ntmps76
  generalize hW : ((w.alloc (.cells #[.int .i64 5, .int .i64 (m : Int)] 59)).alloc (.cells #[.int .i64 0, .int .i64 0, .string ⟨#[]⟩] 55)).alloc (.cells #[.int .i64 0, .int .i64 0, .int .i64 0] 141) = W3 at *
  have HOLD := Lib.hid (show ∀ W, Below w.heap.size w W → W.cell? ⟨b, off, none⟩ = some (.slice (some ⟨b2, off2, none⟩) len qc) ∧ W.cell? ⟨b, off + 1, none⟩ = some (.int .i64 1) ∧ W.cell? ⟨b2, off2 + m * 3, none⟩ = some (.int .i64 1) ∧ W.cell? ⟨b2, off2 + m * 3 + 1, none⟩ = some (.int .i64 x1) ∧ W.cell? ⟨b2, off2 + m * 3 + 2, none⟩ = some (.string ⟨#[]⟩) from fun W h =>
    ⟨(h.cell (p := ⟨b, off, none⟩) hb).trans h0, (h.cell (p := ⟨b, off + 1, none⟩) hb).trans h1, (h.cell (p := ⟨b2, off2 + m * 3, none⟩) hb2).trans y0, (h.cell (p := ⟨b2, off2 + m * 3 + 1, none⟩) hb2).trans y1, (h.cell (p := ⟨b2, off2 + m * 3 + 2, none⟩) hb2).trans y2⟩)
  clear h0 h1 y0 y1 y2 hbb
  go_wp2_with fail
  go_loopw [5, 6, 7, 9, 10, 11, 12, 13] (fun a b c d e _ _ _ wr => (a = .int .i64 0 ∧ b = .int .i64 0 ∧ c = .int .i64 0 ∧ d = .slice none 0 0 ∧ e = .int .i64 0 ∧ wr = W3) ∨ (a = .int .i64 1 ∧ b = .int .i64 1 ∧ c = .int .i64 1 ∧ (∃ g cap, d = .slice (some ⟨g, 0, none⟩) 1 cap ∧ Hid (OwnsV wr W3.heap.size d [(1, x1, ⟨#[]⟩)])) ∧ e = .int .i64 1 ∧ Blk wr w.heap.size 59 #[.int .i64 5, .int .i64 (m : Int)] ∧ Blk wr (w.heap.size + 1) 55 #[.int .i64 0, .int .i64 0, .string ⟨#[]⟩] ∧ Blk wr (w.heap.size + 2) 141 #[.int .i64 (addS (0, 0, 0) x1 1).1, .int .i64 (addS (0, 0, 0) x1 1).2.1, .int .i64 (addS (0, 0, 0) x1 1).2.2] ∧ Below w.heap.size w wr)) (fun _ _ _ _ e _ _ _ _ => 1 - (RowKit.intOf e).toNat)
  case atStart => exact .inl ⟨rfl, rfl, rfl, rfl, rfl, rfl⟩
  case round =>
    rcases hrel with ⟨rfl, rfl, rfl, rfl, rfl, rfl⟩ | ⟨rfl, rfl, rfl, ⟨g, cap, rfl, hO⟩, rfl, hK, hG, hL, hBB⟩
    · obtain ⟨i0, hi, hz0, hz1, hz2⟩ := info_parts infoV
      obtain ⟨o0, o1, o2, o3, o4⟩ := HOLD.out wr HB.out
      have k0 := K3.out.cell 0
      have k1 := K3.out.cell 1
      simp only [List.getElem?_toArray, List.getElem?_cons_zero, List.getElem?_cons_succ] at k0 k1
      have hm0 : (0 : Int) ≤ (m : Int) := by omega
      have hm1 : (m : Int) < (len : Int) := by omega
      go_wp2_with fail
      go_quiet (fail)
      go_wp2_with fail
      have HB4 : Hid (Below wr.heap.size wr (wr.drewN nq)) := Lib.hid ⟨rfl, rfl, rfl, Nat.le_refl _, fun _ _ => rfl⟩
      have HZ4 : Hid ((wr.drewN nq).heap.size = wr.heap.size) := Lib.hid rfl
      generalize wr.drewN nq = W4 at *
      have HI := Lib.hid (show ∀ W, Below wr.heap.size wr W → Below wr.heap.size wr W ∧ (W.cell? ⟨b, off, none⟩ = some (.slice (some ⟨b2, off2, none⟩) len qc) ∧ W.cell? ⟨b2, off2 + m * 3, none⟩ = some (.int .i64 1) ∧ W.cell? ⟨b2, off2 + m * 3 + 1, none⟩ = some (.int .i64 x1) ∧ W.cell? ⟨b2, off2 + m * 3 + 2, none⟩ = some (.string ⟨#[]⟩) ∧ W.cell? ⟨w.heap.size, 1, none⟩ = some (.int .i64 (m : Int))) from fun W h => by
        obtain ⟨p0, _, p2, p3, p4⟩ := HOLD.out W (HB.out.trans (h.mono HB.out.size))
        have z1 := (K3.out.belowV h K3.out.lt).cell 1
        simp only [List.getElem?_toArray, List.getElem?_cons_zero, List.getElem?_cons_succ] at z1
        exact ⟨h, p0, p2, p3, p4, z1⟩)
      clear o0 o1 o2 o3 o4 k0 k1
      refine wp_region_held_drew (S := fun W : World => Below wr.heap.size wr W ∧ (W.cell? ⟨b, off, none⟩ = some (.slice (some ⟨b2, off2, none⟩) len qc) ∧ W.cell? ⟨b2, off2 + m * 3, none⟩ = some (.int .i64 1) ∧ W.cell? ⟨b2, off2 + m * 3 + 1, none⟩ = some (.int .i64 x1) ∧ W.cell? ⟨b2, off2 + m * 3 + 2, none⟩ = some (.string ⟨#[]⟩) ∧ W.cell? ⟨w.heap.size, 1, none⟩ = some (.int .i64 (m : Int)))) (by kernel_rfl) (HI.out _ (HB4.out.trans ((Below.refl _ _).drew.mono HB4.out.size))) (fun hHeld => ?_)
      refine wpAnyH_take (i := 0) (oi := _) (v := ?_) rfl (by kernel_rfl) (by kernel_rfl) (by kernel_rfl) (fun _ _ _ h => h) (Or.inl ⟨by rfl, ?_⟩) (by assumption) ?_
      rotate_left
      · intro w hSw
        try dsimp only at hSw
        go_simp
        all_goals with_reducible rfl
      simp only [List.getElem_toArray, List.getElem_cons_succ, List.getElem_cons_zero, Act.put, List.setIfInBounds_toArray, List.set_cons_zero, List.set_cons_succ]
      refine wpAnyH_take (i := 1) (oi := _) (v := ?_) rfl (by kernel_rfl) (by kernel_rfl) (by kernel_rfl) (fun _ _ _ h => h) (Or.inl ⟨by rfl, ?_⟩) (by assumption) ?_
      rotate_left
      · intro w hSw
        try dsimp only at hSw
        go_simp
        all_goals with_reducible rfl
      simp only [List.getElem_toArray, List.getElem_cons_succ, List.getElem_cons_zero, Act.put, List.setIfInBounds_toArray, List.set_cons_zero, List.set_cons_succ]
      refine wpAnyH_take (i := 2) (oi := _) (v := ?_) rfl (by kernel_rfl) (by kernel_rfl) (by kernel_rfl) (fun _ _ _ h => h) (Or.inl ⟨by rfl, ?_⟩) (by assumption) ?_
      rotate_left
      · intro w hSw
        try dsimp only at hSw
        go_simp
        all_goals with_reducible rfl
      simp only [List.getElem_toArray, List.getElem_cons_succ, List.getElem_cons_zero, Act.put, List.setIfInBounds_toArray, List.set_cons_zero, List.set_cons_succ]
      refine wpAnyH_take (i := 3) (oi := _) (v := ?_) rfl (by kernel_rfl) (by kernel_rfl) (by kernel_rfl) (fun _ _ _ h => h) (Or.inl ⟨by rfl, ?_⟩) (by assumption) ?_
      rotate_left
      · intro w hSw
        try dsimp only at hSw
        go_simp
        all_goals with_reducible rfl
      simp only [List.getElem_toArray, List.getElem_cons_succ, List.getElem_cons_zero, Act.put, List.setIfInBounds_toArray, List.set_cons_zero, List.set_cons_succ]
      refine wpAnyH_take (i := 4) (oi := _) (v := ?_) rfl (by kernel_rfl) (by kernel_rfl) (by kernel_rfl) (fun _ _ _ h => h) (Or.inl ⟨by rfl, ?_⟩) (by assumption) ?_
      rotate_left
      · intro w hSw
        try dsimp only at hSw
        go_simp
        all_goals with_reducible rfl
      simp only [List.getElem_toArray, List.getElem_cons_succ, List.getElem_cons_zero, Act.put, List.setIfInBounds_toArray, List.set_cons_zero, List.set_cons_succ]
      refine wpAnyH_take (i := 5) (oi := _) (v := ?_) rfl (by kernel_rfl) (by kernel_rfl) (by kernel_rfl) (fun _ _ _ h => h) (Or.inl ⟨by rfl, ?_⟩) (by assumption) ?_
      rotate_left
      · intro w hSw
        try dsimp only at hSw
        go_simp
        all_goals with_reducible rfl
      simp only [List.getElem_toArray, List.getElem_cons_succ, List.getElem_cons_zero, Act.put, List.setIfInBounds_toArray, List.set_cons_zero, List.set_cons_succ]
      refine wpAnyH_take (i := 6) (oi := _) (v := ?_) rfl (by kernel_rfl) (by kernel_rfl) (by kernel_rfl) (fun _ _ _ h => h) (Or.inl ⟨by rfl, ?_⟩) (by assumption) ?_
      rotate_left
      · intro w hSw
        try dsimp only at hSw
        go_simp
        all_goals with_reducible rfl
      simp only [List.getElem_toArray, List.getElem_cons_succ, List.getElem_cons_zero, Act.put, List.setIfInBounds_toArray, List.set_cons_zero, List.set_cons_succ]
      refine wpAnyH_take (i := 7) (oi := _) (v := ?_) rfl (by kernel_rfl) (by kernel_rfl) (by kernel_rfl) (fun _ _ _ h => h) (Or.inl ⟨by rfl, ?_⟩) (by assumption) ?_
      rotate_left
      · intro w hSw
        try dsimp only at hSw
        go_simp
        all_goals with_reducible rfl
      simp only [List.getElem_toArray, List.getElem_cons_succ, List.getElem_cons_zero, Act.put, List.setIfInBounds_toArray, List.set_cons_zero, List.set_cons_succ]
      refine wpAnyH_take (i := 8) (oi := _) (v := ?_) rfl (by kernel_rfl) (by kernel_rfl) (by kernel_rfl) (fun _ _ _ h => h) (Or.inl ⟨by rfl, ?_⟩) (by assumption) ?_
      rotate_left
      · intro w hSw
        try dsimp only at hSw
        go_simp
        all_goals with_reducible rfl
      simp only [List.getElem_toArray, List.getElem_cons_succ, List.getElem_cons_zero, Act.put, List.setIfInBounds_toArray, List.set_cons_zero, List.set_cons_succ]
      refine wpAnyH_ready (rs := [9]) (by kernel_rfl) (by simp) ?_
      refine AllReadyH.cons (o := _) rfl (fun K hK => ?_) AllReadyH.nil
      go_simp
      refine hK.out _ _ (HI.out _ (hHeld.1.alloc hHeld.1.size _)) (fun hHeld1 => ?_)
      clear hHeld
      clear hK K
      try simp only [List.getElem_toArray, List.getElem_cons_succ, List.getElem_cons_zero, Act.put, List.setIfInBounds_toArray, List.set_cons_zero, List.set_cons_succ]
      have hN5 := Blk.newAt W4.drew 55 #[.int .i64 0, .int .i64 0, .string ⟨#[]⟩] (g := W4.heap.size) rfl
      have f0 := hN5.froz 0
      have f1 := hN5.froz 1
      have f2 := hN5.froz 2
      have d0 := hN5.cell 0
      have d1 := hN5.cell 1
      have d2 := hN5.cell 2
      simp only [List.getElem?_toArray, List.getElem?_cons_zero, List.getElem?_cons_succ] at d0 d1 d2
      have HN5 := Lib.hid hN5
      clear hN5
      refine wpAnyH_ready (rs := [10]) (by kernel_rfl) (by simp) ?_
      refine AllReadyH.cons (o := _) rfl (fun K hK => ?_) AllReadyH.nil
      go_simp
      have HW5 := Lib.hid (show Below wr.heap.size wr (W4.alloc (.cells #[.int .i64 1, .int .i64 x1, .string ⟨#[]⟩] 55)).drew from (HB4.out.alloc HB4.out.size _).trans ((Below.refl _ _).drew.mono (by have := HB4.out.size; simp; omega)))
      have HN6 := Lib.hid ((Blk.newAt W4 55 #[.int .i64 1, .int .i64 x1, .string ⟨#[]⟩] (g := W4.heap.size) rfl).drewG)
      refine hK.out _ _ (HI.out _ HW5.out) (fun hHeld2 => ?_)
      clear hHeld1 f0 f1 f2 d0 d1 d2 HN5
      clear hK K
      try simp only [List.getElem_toArray, List.getElem_cons_succ, List.getElem_cons_zero, Act.put, List.setIfInBounds_toArray, List.set_cons_zero, List.set_cons_succ]
      refine wpAnyH_done (by kernel_rfl) ?_ _
      clear hHeld2
      generalize (W4.alloc (.cells #[.int .i64 1, .int .i64 x1, .string ⟨#[]⟩] 55)).drew = W5 at *
      have HZ5 := Lib.hid (show wr.heap.size ≤ W4.heap.size from HB4.out.size)
      have n0 := HN6.out.cell 0
      have n1 := HN6.out.cell 1
      have n2 := HN6.out.cell 2
      simp only [List.getElem?_toArray, List.getElem?_cons_zero, List.getElem?_cons_succ] at n0 n1 n2
      obtain ⟨o0, o1, o2, o3, o4⟩ := HOLD.out W5 (HB.out.trans (HW5.out.mono HB.out.size))
      clear HB4 HZ4
      generalize W4.heap.size = n4 at *
      go_wp2_with fail
      have l5 := L3.out.belowV HW5.out L3.out.lt
      have HK5 := Lib.hid (K3.out.belowV HW5.out K3.out.lt)
      have HG5 := Lib.hid (G3.out.belowV HW5.out G3.out.lt)
      have HL5 := Lib.hid l5
      have HBW := Lib.hid (HB.out.trans (HW5.out.mono HB.out.size))
      have HSW := Lib.hid HW5.out.size
      have hHs := HW5.out.size
      have HAD := Lib.hid fun W => (show Calls Tryz.prog 95 #[.agg #[.int .i64 0, .int .i64 0, .int .i64 0], .int .i64 x1, .int .i64 1] W (SumPost W (addS (0, 0, 0) x1 1)) from added_any (0, 0, 0) x1 1 W)
      obtain ⟨sm, hsm⟩ : ∃ sm, sm = addS (0, 0, 0) x1 1 := ⟨_, rfl⟩
      rw [← hsm] at HAD
      have HSM := Lib.hid hsm
      clear hsm
      obtain ⟨s0, s1, s2⟩ := sm
      have l0 := l5.cell 0
      have l1 := l5.cell 1
      have l2 := l5.cell 2
      simp only [List.getElem?_toArray, List.getElem?_cons_zero, List.getElem?_cons_succ] at l0 l1 l2
      clear l5
      refine wp_region_held_drew (S := fun W : World => W.cell? ⟨n4, 1, none⟩ = some (.int .i64 x1) ∧ W.cell? ⟨b, off + 1, none⟩ = some (.int .i64 1)) (by kernel_rfl) ⟨n1, o1⟩ (fun hHeld => ?_)
      refine wpAnyH_take (i := 1) (oi := _) (v := ?_) rfl (by kernel_rfl) (by kernel_rfl) (by kernel_rfl) (fun _ _ _ h => h) (Or.inl ⟨by rfl, ?_⟩) (by assumption) ?_
      rotate_left
      · intro w hSw
        try dsimp only at hSw
        go_simp
        all_goals with_reducible rfl
      simp only [List.getElem_toArray, List.getElem_cons_succ, List.getElem_cons_zero, Act.put, List.setIfInBounds_toArray, List.set_cons_zero, List.set_cons_succ]
      refine wpAnyH_take (i := 2) (oi := _) (v := ?_) rfl (by kernel_rfl) (by kernel_rfl) (by kernel_rfl) (fun _ _ _ h => h) (Or.inl ⟨by rfl, ?_⟩) (by assumption) ?_
      rotate_left
      · intro w hSw
        try dsimp only at hSw
        go_simp
        all_goals with_reducible rfl
      simp only [List.getElem_toArray, List.getElem_cons_succ, List.getElem_cons_zero, Act.put, List.setIfInBounds_toArray, List.set_cons_zero, List.set_cons_succ]
      refine wpAnyH_take (i := 3) (oi := _) (v := ?_) rfl (by kernel_rfl) (by kernel_rfl) (by kernel_rfl) (fun _ _ _ h => h) (Or.inl ⟨by rfl, ?_⟩) (by assumption) ?_
      rotate_left
      · intro w hSw
        try dsimp only at hSw
        go_simp
        all_goals with_reducible rfl
      simp only [List.getElem_toArray, List.getElem_cons_succ, List.getElem_cons_zero, Act.put, List.setIfInBounds_toArray, List.set_cons_zero, List.set_cons_succ]
      refine wpAnyH_take (i := 4) (oi := _) (v := ?_) rfl (by kernel_rfl) (by kernel_rfl) (by kernel_rfl) (fun _ _ _ h => h) (Or.inl ⟨by rfl, ?_⟩) (by assumption) ?_
      rotate_left
      · intro w hSw
        try dsimp only at hSw
        go_simp
        all_goals with_reducible rfl
      simp only [List.getElem_toArray, List.getElem_cons_succ, List.getElem_cons_zero, Act.put, List.setIfInBounds_toArray, List.set_cons_zero, List.set_cons_succ]
      refine wpAnyH_take (i := 5) (oi := _) (v := ?_) rfl (by kernel_rfl) (by kernel_rfl) (by kernel_rfl) (fun _ _ _ h => h) (Or.inl ⟨by rfl, ?_⟩) (by assumption) ?_
      rotate_left
      · intro w hSw
        try dsimp only at hSw
        go_simp
        all_goals with_reducible rfl
      simp only [List.getElem_toArray, List.getElem_cons_succ, List.getElem_cons_zero, Act.put, List.setIfInBounds_toArray, List.set_cons_zero, List.set_cons_succ]
      refine wpAnyH_take (i := 6) (oi := _) (v := ?_) rfl (by kernel_rfl) (by kernel_rfl) (by kernel_rfl) (fun _ _ _ h => h) (Or.inl ⟨by rfl, ?_⟩) (by assumption) ?_
      rotate_left
      · intro w hSw
        try dsimp only at hSw
        go_simp
        all_goals with_reducible rfl
      simp only [List.getElem_toArray, List.getElem_cons_succ, List.getElem_cons_zero, Act.put, List.setIfInBounds_toArray, List.set_cons_zero, List.set_cons_succ]
      refine wpAnyH_take (i := 7) (oi := _) (v := ?_) rfl (by kernel_rfl) (by kernel_rfl) (by kernel_rfl) (fun _ _ _ h => h) (Or.inl ⟨by rfl, ?_⟩) (by assumption) ?_
      rotate_left
      · intro w hSw
        try dsimp only at hSw
        go_simp
        all_goals with_reducible rfl
      simp only [List.getElem_toArray, List.getElem_cons_succ, List.getElem_cons_zero, Act.put, List.setIfInBounds_toArray, List.set_cons_zero, List.set_cons_succ]
      refine wpAnyH_ready (rs := [0]) (by kernel_rfl) (by simp) ?_
      refine AllReadyH.cons (o := _) rfl (fun K hK => ?_) AllReadyH.nil
      go_simp
      refine hK.out _ _ hHeld (fun hHeld1 => ?_)
      clear hHeld
      clear hK K
      try simp only [List.getElem_toArray, List.getElem_cons_succ, List.getElem_cons_zero, Act.put, List.setIfInBounds_toArray, List.set_cons_zero, List.set_cons_succ]
      refine wpAnyH_ready (rs := [8]) (by kernel_rfl) (by simp) ?_
      refine AllReadyH.cons (o := _) rfl (fun K hK => ?_) AllReadyH.nil
      go_simp
      refine (HAD.out _).mono ?_
      rintro e w8 ⟨rfl, hb8⟩
      have hbw : Below W5.heap.size W5 w8 := (Below.refl _ _).drew.trans hb8
      have HL8 := Lib.hid (HL5.out.belowV hbw HL5.out.lt)
      have HK8 := Lib.hid (HK5.out.belowV hbw HK5.out.lt)
      have HG8 := Lib.hid (HG5.out.belowV hbw HG5.out.lt)
      have HN8 := Lib.hid (HN6.out.belowV hbw HN6.out.lt)
      have HBW8 := Lib.hid (HBW.out.trans (hbw.mono HBW.out.size))
      have HSW8 := Lib.hid (Nat.le_trans HSW.out hbw.size)
      have hS8 : w8.cell? ⟨n4, 1, none⟩ = some (.int .i64 x1) ∧ w8.cell? ⟨b, off + 1, none⟩ = some (.int .i64 1) := ⟨(hbw.cell (p := ⟨n4, 1, none⟩) HN6.out.lt).trans n1, (HOLD.out w8 HBW8.out).2.1⟩
      dsimp only [sumV]
      refine hK.out _ _ hS8 (fun hHeld2 => ?_)
      clear hHeld1 hb8 hbw hS8 l0 l1 l2 n0 n1 n2 o0 o1 o2 o3 o4
      clear hK K
      try simp only [List.getElem_toArray, List.getElem_cons_succ, List.getElem_cons_zero, Act.put, List.setIfInBounds_toArray, List.set_cons_zero, List.set_cons_succ]
      have f0 := HL8.out.froz 0
      have f1 := HL8.out.froz 1
      have f2 := HL8.out.froz 2
      have d0 := HL8.out.cell 0
      have d1 := HL8.out.cell 1
      have d2 := HL8.out.cell 2
      simp only [List.getElem?_toArray, List.getElem?_cons_zero, List.getElem?_cons_succ] at d0 d1 d2
      refine wpAnyH_ready (rs := [9]) (by kernel_rfl) (by simp) ?_
      refine AllReadyH.cons (o := _) rfl (fun K hK => ?_) AllReadyH.nil
      go_simp
      have hL9 : Blk (((w8.setCell ⟨w.heap.size + 1 + 1, 0, none⟩ (.int .i64 s0)).setCell ⟨w.heap.size + 1 + 1, 1, none⟩ (.int .i64 s1)).setCell ⟨w.heap.size + 1 + 1, 2, none⟩ (.int .i64 s2)) (w.heap.size + 1 + 1) 141 #[.int .i64 s0, .int .i64 s1, .int .i64 s2] := by
        simpa using ((HL8.out.setG 0 (.int .i64 s0)).setG 1 (.int .i64 s1)).setG 2 (.int .i64 s2)
      have hne9 : n4 ≠ w.heap.size + 1 + 1 := by have := L3.out.lt; have := HZ5.out; omega
      have hN9 := Lib.hid (((HN8.out.setOther (j := 0) hne9 (.int .i64 s0)).setOther (j := 1) hne9 (.int .i64 s1)).setOther (j := 2) hne9 (.int .i64 s2))
      have hK9 := Lib.hid (((HK8.out.setOther (C := w.heap.size + 1 + 1) (j := 0) (by omega) (.int .i64 s0)).setOther (C := w.heap.size + 1 + 1) (j := 1) (by omega) (.int .i64 s1)).setOther (C := w.heap.size + 1 + 1) (j := 2) (by omega) (.int .i64 s2))
      have hG9 := Lib.hid (((HG8.out.setOther (C := w.heap.size + 1 + 1) (j := 0) (by omega) (.int .i64 s0)).setOther (C := w.heap.size + 1 + 1) (j := 1) (by omega) (.int .i64 s1)).setOther (C := w.heap.size + 1 + 1) (j := 2) (by omega) (.int .i64 s2))
      have HBW9 := Lib.hid (((HBW8.out.setCell (p := ⟨w.heap.size + 1 + 1, 0, none⟩) (by simp; omega) (.int .i64 s0)).setCell (p := ⟨w.heap.size + 1 + 1, 1, none⟩) (by simp; omega) (.int .i64 s1)).setCell (p := ⟨w.heap.size + 1 + 1, 2, none⟩) (by simp; omega) (.int .i64 s2))
      have HSW9 : Hid (wr.heap.size ≤ (((w8.setCell ⟨w.heap.size + 1 + 1, 0, none⟩ (.int .i64 s0)).setCell ⟨w.heap.size + 1 + 1, 1, none⟩ (.int .i64 s1)).setCell ⟨w.heap.size + 1 + 1, 2, none⟩ (.int .i64 s2)).heap.size) := Lib.hid (by have := HSW8.out; simp [World.setCell]; omega)
      have hL9 := Lib.hid hL9
      have z1 := hN9.out.cell 1
      simp only [List.getElem?_toArray, List.getElem?_cons_zero, List.getElem?_cons_succ] at z1
      refine hK.out _ _ ⟨z1, (HOLD.out _ HBW9.out).2.1⟩ (fun hHeld3 => ?_)
      clear hHeld2 f0 f1 f2 d0 d1 d2 z1
      clear hK K
      try simp only [List.getElem_toArray, List.getElem_cons_succ, List.getElem_cons_zero, Act.put, List.setIfInBounds_toArray, List.set_cons_zero, List.set_cons_succ]
      refine wpAnyH_done (by kernel_rfl) ?_ _
      clear hHeld3
      clear HW5 HN6 HK5 HG5 HL5 HBW HSW hHs HL8 HK8 HG8 HN8 HBW8 HSW8
      generalize ((w8.setCell ⟨w.heap.size + 1 + 1, 0, none⟩ (.int .i64 s0)).setCell ⟨w.heap.size + 1 + 1, 1, none⟩ (.int .i64 s1)).setCell ⟨w.heap.size + 1 + 1, 2, none⟩ (.int .i64 s2) = W5 at *
      have HN6 := hN9
      have hW55 := HSW9.out
      go_wp2_with fail
      go_wp2_with fail
      go_loopw [12] (fun s wr6 => s = .int .i64 0 ∧ W5 = wr6) (fun _ _ => 0)
      case atStart => exact ⟨rfl, rfl⟩
      case round =>
        obtain ⟨rfl, rfl⟩ := hrel
        go_wp2_with fail
        go_quiet (fail)
        go_wp2_with fail
        go_quiet (fail)
        have hn4 := HN6.out.lt
        have hne4 : n4 ≠ W5.heap.size := by omega
        have hsz4 := HZ5.out
        have hw6 : W5.heap.size ≠ n4 := by omega
        have hN8 : ∀ q : Nat, Blk ((W5.drewN q).alloc (.cells #[] 55)) n4 55 #[.int .i64 1, .int .i64 x1, .string ⟨#[]⟩] := fun q => (show Blk (W5.drewN q) n4 55 #[.int .i64 1, .int .i64 x1, .string ⟨#[]⟩] from HN6.out).allocG _
        have a0 := fun q => (hN8 q).cell 0
        have a1 := fun q => (hN8 q).cell 1
        have a2 := fun q => (hN8 q).cell 2
        simp only [List.getElem?_toArray, List.getElem?_cons_zero, List.getElem?_cons_succ] at a0 a1 a2
        clear hN8
        have HOW := Lib.hid (fun (W6 : World) => (show ((W6.alloc (.cells #[] 55)).alloc (.cells #[.int .i64 1, .int .i64 x1, .string ⟨#[]⟩] 55)).ownsRow W6.heap.size 55 3 (.slice (some ⟨W6.heap.size, 0, none⟩) 0 0) 0 [] from (World.ownsRow_made W6 #[] 0 (Nat.le_refl _) (Nat.zero_le _) rfl).alloc _))
        have HB6 := Lib.hid (fun (q : Nat) => (show Below W5.heap.size W5 (W5.drewN q) from ⟨rfl, rfl, rfl, Nat.le_refl _, fun _ _ => rfl⟩))
        go_wp2_with (at_builtin; refine wpList_append_own _ rfl _ _ 33 rfl W5.heap.size 55 i0 (.agg #[.int .i64 0, .int .i64 0, .string ⟨#[]⟩]) 3 32 Tryz.underlying33 hi hz0 hz1 hz2 rfl (by decide) _ 0 [] rfl (HOW.out _) ⟨W5.heap.size + 1, 0, none⟩ 1 1 (cellsV (1, x1, ⟨#[]⟩)) rfl rfl (cells_at _ _ _ (by simp)) (by simp [cellsV, Value.oneCell']) (by unfold maxLen; omega) (by omega) (by simp <;> omega) ?_; intro v' w7 hown' hgrow _; have HB7 := Lib.hid (show Below W5.heap.size W5 w7 from (((HB6.out _).alloc (HB6.out _).size (.cells #[] 55)).alloc (by simp <;> omega) (.cells #[.int .i64 1, .int .i64 x1, .string ⟨#[]⟩] 55)).grown hgrow (by simp <;> omega) (fun k e => ((HOW.out _).lt k e).1)); have HN7 := Lib.hid hown'; obtain ⟨g7, c7, rfl, hc7, hc7m⟩ := own_one hown'; clear hown' hgrow)
        go_roundw
        case rel => exact .inr ⟨rfl, rfl, rfl, ⟨g7, c7, rfl, by
          have h := ownsRow_base HN7.out HSW9.out
          have e : flatV [((1, x1, ⟨#[]⟩) : Val)] = [] ++ cellsV (1, x1, ⟨#[]⟩) := by simp [flatV]
          show w7.ownsRow wr.heap.size 55 3 _ (0 + 1) (flatV [((1, x1, ⟨#[]⟩) : Val)])
          rw [e]
          exact h⟩, rfl, hK9.out.belowV HB7.out hK9.out.lt, hG9.out.belowV HB7.out hG9.out.lt, by rw [← HSM.out]; exact hL9.out.belowV HB7.out hL9.out.lt, HBW9.out.trans (HB7.out.mono HBW9.out.size)⟩
        case measure => simp [RowKit.intOf]
    · have hvi := valsIn_of_owns hO.out
      obtain ⟨g', o', he, hgl, hva⟩ := hvi (by simp)
      simp only [Option.some.injEq, Addr.mk.injEq, and_true] at he
      obtain ⟨rfl, rfl⟩ := he
      obtain ⟨v0, v1, v2⟩ := hva 0 (by simp)
      simp only [List.getElem?_cons_zero, Option.getD_some, Nat.zero_mul, Nat.add_zero, Nat.zero_add] at v0 v1 v2
      have l0 := hL.cell 0
      have l1 := hL.cell 1
      have l2 := hL.cell 2
      simp only [List.getElem?_toArray, List.getElem?_cons_zero, List.getElem?_cons_succ] at l0 l1 l2
      clear hO hL hva
      have k0 := hK.cell 0
      have f0 := hG.froz 0
      have f1 := hG.froz 1
      have f2 := hG.froz 2
      have d0 := hG.cell 0
      have d1 := hG.cell 1
      have d2 := hG.cell 2
      simp only [List.getElem?_toArray, List.getElem?_cons_zero, List.getElem?_cons_succ] at k0 d0 d1 d2
      have hset : Blk (((wr.setCell ⟨w.heap.size + 1, 0, none⟩ (.int .i64 1)).setCell ⟨w.heap.size + 1, 1, none⟩ (.int .i64 x1)).setCell ⟨w.heap.size + 1, 2, none⟩ (.string ⟨#[]⟩)) (w.heap.size + 1) 55 #[.int .i64 1, .int .i64 x1, .string ⟨#[]⟩] := by
        simpa using ((hG.setG 0 (.int .i64 1)).setG 1 (.int .i64 x1)).setG 2 (.string ⟨#[]⟩)
      have HSET := Lib.hid hset
      have HBB := Lib.hid hBB
      clear hset hBB hK hG
      go_wp2_with fail
      have r0 := HSET.out.cell 0
      have r1 := HSET.out.cell 1
      have r2 := HSET.out.cell 2
      simp only [List.getElem?_toArray, List.getElem?_cons_zero, List.getElem?_cons_succ] at r0 r1 r2
      rw [HRES.out]
      refine bodyPost_ret (v := valA (1, x1, ⟨#[]⟩)) (by simp [results, Tryz.results76, go_sem, r0, r1, r2, valA]) rfl ⟨rfl, ?_⟩
      exact ((HBB.out.setCell (p := ⟨w.heap.size + 1, 0, none⟩) (by simp) _).setCell (p := ⟨w.heap.size + 1, 1, none⟩) (by simp) _).setCell (p := ⟨w.heap.size + 1, 2, none⟩) (by simp) _

end Go.Proofs.YtfoknllnknjccaaGreat

/-!
  What the document tells of one row.
-/
namespace Go.Proofs.YtfoknllnknjccaaGreat
open Go.RowKit
set_option linter.unusedSimpArgs false
set_option linter.unusedVariables false

set_option maxRecDepth 100000 in
set_option maxHeartbeats 2000000 in
theorem tellO_6_int (m b off b2 off2 len qc d : Nat) (x1 : Int) (x2 : ByteArray) (hm : m < len) (hx1 : -1000000000000000 ≤ x1 ∧ x1 ≤ 1000000000000000) (w : World) (hb : b < w.heap.size) (hb2 : b2 < w.heap.size) (h0 : w.cell? ⟨b, off, none⟩ = some (.slice (some ⟨b2, off2, none⟩) len qc)) (h1 : w.cell? ⟨b, off + 1, none⟩ = some (.int .i64 1))
    (y0 : w.cell? ⟨b2, off2 + m * 3, none⟩ = some (.int .i64 1)) (y1 : w.cell? ⟨b2, off2 + m * 3 + 1, none⟩ = some (.int .i64 x1)) (y2 : w.cell? ⟨b2, off2 + m * 3 + 2, none⟩ = some (.string ⟨#[]⟩)) :
    Calls Tryz.prog 76 #[.agg #[.int .i64 6, .int .i64 (m : Int)], .slice (some ⟨b, off, none⟩) 1 d] w (ValPost w (tellK 6 [((1, x1, ⟨#[]⟩), 1)])) := by
  have HONE := Lib.hid (whole_one hx1).1
  have HMANY := Lib.hid (whole_one hx1).2
  have HRES : Hid (tellK 6 [((1, x1, ⟨#[]⟩), 1)] = (1, x1, ⟨#[]⟩)) := Lib.hid (by
    show mnTell (smStep (0, 0, 0) ((1, x1, ⟨#[]⟩), 1)) = _; exact mn_one hx1)
  generalize tellK 6 [((1, x1, ⟨#[]⟩), 1)] = res at HRES ⊢
  have b1 : Below w.heap.size w (w.alloc (.cells #[.int .i64 6, .int .i64 (m : Int)] 59)) := below_new _ _
  have b2' : Below w.heap.size w ((w.alloc (.cells #[.int .i64 6, .int .i64 (m : Int)] 59)).alloc (.cells #[.int .i64 0, .int .i64 0, .string ⟨#[]⟩] 55)) := b1.alloc b1.size _
  have b3 : Below w.heap.size w (((w.alloc (.cells #[.int .i64 6, .int .i64 (m : Int)] 59)).alloc (.cells #[.int .i64 0, .int .i64 0, .string ⟨#[]⟩] 55)).alloc (.cells #[.int .i64 0, .int .i64 0, .int .i64 0] 141)) := b2'.alloc b2'.size _
  have k3 := ((Blk.new w 59 #[.int .i64 6, .int .i64 (m : Int)]).allocG (.cells #[.int .i64 0, .int .i64 0, .string ⟨#[]⟩] 55)).allocG (.cells #[.int .i64 0, .int .i64 0, .int .i64 0] 141)
  have g3 := (Blk.newAt (w.alloc (.cells #[.int .i64 6, .int .i64 (m : Int)] 59)) 55 #[.int .i64 0, .int .i64 0, .string ⟨#[]⟩] (g := w.heap.size + 1) (by simp)).allocG (.cells #[.int .i64 0, .int .i64 0, .int .i64 0] 141)
  have l3 := Blk.newAt ((w.alloc (.cells #[.int .i64 6, .int .i64 (m : Int)] 59)).alloc (.cells #[.int .i64 0, .int .i64 0, .string ⟨#[]⟩] 55)) 141 #[.int .i64 0, .int .i64 0, .int .i64 0] (g := w.heap.size + 2) (by simp)
  have K3 := Lib.hid k3
  have G3 := Lib.hid g3
  have L3 := Lib.hid l3
  have HB := Lib.hid b3
  have hbb := hb
  have hsz : (((w.alloc (.cells #[.int .i64 6, .int .i64 (m : Int)] 59)).alloc (.cells #[.int .i64 0, .int .i64 0, .string ⟨#[]⟩] 55)).alloc (.cells #[.int .i64 0, .int .i64 0, .int .i64 0] 141)).heap.size = w.heap.size + 3 := by simp
  clear b1 b2' b3 k3 g3 l3
  go_enter Tryz.func76, Tryz.ntmps76
  generalize hW : ((w.alloc (.cells #[.int .i64 6, .int .i64 (m : Int)] 59)).alloc (.cells #[.int .i64 0, .int .i64 0, .string ⟨#[]⟩] 55)).alloc (.cells #[.int .i64 0, .int .i64 0, .int .i64 0] 141) = W3 at *
  have HOLD := Lib.hid (show ∀ W, Below w.heap.size w W → W.cell? ⟨b, off, none⟩ = some (.slice (some ⟨b2, off2, none⟩) len qc) ∧ W.cell? ⟨b, off + 1, none⟩ = some (.int .i64 1) ∧ W.cell? ⟨b2, off2 + m * 3, none⟩ = some (.int .i64 1) ∧ W.cell? ⟨b2, off2 + m * 3 + 1, none⟩ = some (.int .i64 x1) ∧ W.cell? ⟨b2, off2 + m * 3 + 2, none⟩ = some (.string ⟨#[]⟩) from fun W h =>
    ⟨(h.cell (p := ⟨b, off, none⟩) hb).trans h0, (h.cell (p := ⟨b, off + 1, none⟩) hb).trans h1, (h.cell (p := ⟨b2, off2 + m * 3, none⟩) hb2).trans y0, (h.cell (p := ⟨b2, off2 + m * 3 + 1, none⟩) hb2).trans y1, (h.cell (p := ⟨b2, off2 + m * 3 + 2, none⟩) hb2).trans y2⟩)
  clear h0 h1 y0 y1 y2 hbb
  go_wp2_with fail
  go_loopw [5, 6, 7, 9, 10, 11, 12, 13] (fun a b c d e _ _ _ wr => (a = .int .i64 0 ∧ b = .int .i64 0 ∧ c = .int .i64 0 ∧ d = .slice none 0 0 ∧ e = .int .i64 0 ∧ wr = W3) ∨ (a = .int .i64 1 ∧ b = .int .i64 1 ∧ c = .int .i64 1 ∧ (∃ g cap, d = .slice (some ⟨g, 0, none⟩) 1 cap ∧ Hid (OwnsV wr W3.heap.size d [(1, x1, ⟨#[]⟩)])) ∧ e = .int .i64 1 ∧ Blk wr w.heap.size 59 #[.int .i64 6, .int .i64 (m : Int)] ∧ Blk wr (w.heap.size + 1) 55 #[.int .i64 0, .int .i64 0, .string ⟨#[]⟩] ∧ Blk wr (w.heap.size + 2) 141 #[.int .i64 (addS (0, 0, 0) x1 1).1, .int .i64 (addS (0, 0, 0) x1 1).2.1, .int .i64 (addS (0, 0, 0) x1 1).2.2] ∧ Below w.heap.size w wr)) (fun _ _ _ _ e _ _ _ _ => 1 - (RowKit.intOf e).toNat)
  case atStart => exact .inl ⟨rfl, rfl, rfl, rfl, rfl, rfl⟩
  case round =>
    rcases hrel with ⟨rfl, rfl, rfl, rfl, rfl, rfl⟩ | ⟨rfl, rfl, rfl, ⟨g, cap, rfl, hO⟩, rfl, hK, hG, hL, hBB⟩
    · obtain ⟨i0, hi, hz0, hz1, hz2⟩ := info_parts infoV
      obtain ⟨o0, o1, o2, o3, o4⟩ := HOLD.out wr HB.out
      have k0 := K3.out.cell 0
      have k1 := K3.out.cell 1
      simp only [List.getElem?_toArray, List.getElem?_cons_zero, List.getElem?_cons_succ] at k0 k1
      have hm0 : (0 : Int) ≤ (m : Int) := by omega
      have hm1 : (m : Int) < (len : Int) := by omega
      go_wp2_with fail
      go_quiet (fail)
      go_wp2_with fail
      have HB4 : Hid (Below wr.heap.size wr (wr.drewN nq)) := Lib.hid ⟨rfl, rfl, rfl, Nat.le_refl _, fun _ _ => rfl⟩
      have HZ4 : Hid ((wr.drewN nq).heap.size = wr.heap.size) := Lib.hid rfl
      generalize wr.drewN nq = W4 at *
      have HI := Lib.hid (show ∀ W, Below wr.heap.size wr W → Below wr.heap.size wr W ∧ (W.cell? ⟨b, off, none⟩ = some (.slice (some ⟨b2, off2, none⟩) len qc) ∧ W.cell? ⟨b2, off2 + m * 3, none⟩ = some (.int .i64 1) ∧ W.cell? ⟨b2, off2 + m * 3 + 1, none⟩ = some (.int .i64 x1) ∧ W.cell? ⟨b2, off2 + m * 3 + 2, none⟩ = some (.string ⟨#[]⟩) ∧ W.cell? ⟨w.heap.size, 1, none⟩ = some (.int .i64 (m : Int))) from fun W h => by
        obtain ⟨p0, _, p2, p3, p4⟩ := HOLD.out W (HB.out.trans (h.mono HB.out.size))
        have z1 := (K3.out.belowV h K3.out.lt).cell 1
        simp only [List.getElem?_toArray, List.getElem?_cons_zero, List.getElem?_cons_succ] at z1
        exact ⟨h, p0, p2, p3, p4, z1⟩)
      clear o0 o1 o2 o3 o4 k0 k1
      refine wp_region_held_drew (S := fun W : World => Below wr.heap.size wr W ∧ (W.cell? ⟨b, off, none⟩ = some (.slice (some ⟨b2, off2, none⟩) len qc) ∧ W.cell? ⟨b2, off2 + m * 3, none⟩ = some (.int .i64 1) ∧ W.cell? ⟨b2, off2 + m * 3 + 1, none⟩ = some (.int .i64 x1) ∧ W.cell? ⟨b2, off2 + m * 3 + 2, none⟩ = some (.string ⟨#[]⟩) ∧ W.cell? ⟨w.heap.size, 1, none⟩ = some (.int .i64 (m : Int)))) (by kernel_rfl) (HI.out _ (HB4.out.trans ((Below.refl _ _).drew.mono HB4.out.size))) (fun hHeld => ?_)
      refine wpAnyH_take (i := 0) (oi := _) (v := ?_) rfl (by kernel_rfl) (by kernel_rfl) (by kernel_rfl) (fun _ _ _ h => h) (Or.inl ⟨by rfl, ?_⟩) (by assumption) ?_
      rotate_left
      · intro w hSw
        try dsimp only at hSw
        go_simp
        all_goals with_reducible rfl
      simp only [List.getElem_toArray, List.getElem_cons_succ, List.getElem_cons_zero, Act.put, List.setIfInBounds_toArray, List.set_cons_zero, List.set_cons_succ]
      refine wpAnyH_take (i := 1) (oi := _) (v := ?_) rfl (by kernel_rfl) (by kernel_rfl) (by kernel_rfl) (fun _ _ _ h => h) (Or.inl ⟨by rfl, ?_⟩) (by assumption) ?_
      rotate_left
      · intro w hSw
        try dsimp only at hSw
        go_simp
        all_goals with_reducible rfl
      simp only [List.getElem_toArray, List.getElem_cons_succ, List.getElem_cons_zero, Act.put, List.setIfInBounds_toArray, List.set_cons_zero, List.set_cons_succ]
      refine wpAnyH_take (i := 2) (oi := _) (v := ?_) rfl (by kernel_rfl) (by kernel_rfl) (by kernel_rfl) (fun _ _ _ h => h) (Or.inl ⟨by rfl, ?_⟩) (by assumption) ?_
      rotate_left
      · intro w hSw
        try dsimp only at hSw
        go_simp
        all_goals with_reducible rfl
      simp only [List.getElem_toArray, List.getElem_cons_succ, List.getElem_cons_zero, Act.put, List.setIfInBounds_toArray, List.set_cons_zero, List.set_cons_succ]
      refine wpAnyH_take (i := 3) (oi := _) (v := ?_) rfl (by kernel_rfl) (by kernel_rfl) (by kernel_rfl) (fun _ _ _ h => h) (Or.inl ⟨by rfl, ?_⟩) (by assumption) ?_
      rotate_left
      · intro w hSw
        try dsimp only at hSw
        go_simp
        all_goals with_reducible rfl
      simp only [List.getElem_toArray, List.getElem_cons_succ, List.getElem_cons_zero, Act.put, List.setIfInBounds_toArray, List.set_cons_zero, List.set_cons_succ]
      refine wpAnyH_take (i := 4) (oi := _) (v := ?_) rfl (by kernel_rfl) (by kernel_rfl) (by kernel_rfl) (fun _ _ _ h => h) (Or.inl ⟨by rfl, ?_⟩) (by assumption) ?_
      rotate_left
      · intro w hSw
        try dsimp only at hSw
        go_simp
        all_goals with_reducible rfl
      simp only [List.getElem_toArray, List.getElem_cons_succ, List.getElem_cons_zero, Act.put, List.setIfInBounds_toArray, List.set_cons_zero, List.set_cons_succ]
      refine wpAnyH_take (i := 5) (oi := _) (v := ?_) rfl (by kernel_rfl) (by kernel_rfl) (by kernel_rfl) (fun _ _ _ h => h) (Or.inl ⟨by rfl, ?_⟩) (by assumption) ?_
      rotate_left
      · intro w hSw
        try dsimp only at hSw
        go_simp
        all_goals with_reducible rfl
      simp only [List.getElem_toArray, List.getElem_cons_succ, List.getElem_cons_zero, Act.put, List.setIfInBounds_toArray, List.set_cons_zero, List.set_cons_succ]
      refine wpAnyH_take (i := 6) (oi := _) (v := ?_) rfl (by kernel_rfl) (by kernel_rfl) (by kernel_rfl) (fun _ _ _ h => h) (Or.inl ⟨by rfl, ?_⟩) (by assumption) ?_
      rotate_left
      · intro w hSw
        try dsimp only at hSw
        go_simp
        all_goals with_reducible rfl
      simp only [List.getElem_toArray, List.getElem_cons_succ, List.getElem_cons_zero, Act.put, List.setIfInBounds_toArray, List.set_cons_zero, List.set_cons_succ]
      refine wpAnyH_take (i := 7) (oi := _) (v := ?_) rfl (by kernel_rfl) (by kernel_rfl) (by kernel_rfl) (fun _ _ _ h => h) (Or.inl ⟨by rfl, ?_⟩) (by assumption) ?_
      rotate_left
      · intro w hSw
        try dsimp only at hSw
        go_simp
        all_goals with_reducible rfl
      simp only [List.getElem_toArray, List.getElem_cons_succ, List.getElem_cons_zero, Act.put, List.setIfInBounds_toArray, List.set_cons_zero, List.set_cons_succ]
      refine wpAnyH_take (i := 8) (oi := _) (v := ?_) rfl (by kernel_rfl) (by kernel_rfl) (by kernel_rfl) (fun _ _ _ h => h) (Or.inl ⟨by rfl, ?_⟩) (by assumption) ?_
      rotate_left
      · intro w hSw
        try dsimp only at hSw
        go_simp
        all_goals with_reducible rfl
      simp only [List.getElem_toArray, List.getElem_cons_succ, List.getElem_cons_zero, Act.put, List.setIfInBounds_toArray, List.set_cons_zero, List.set_cons_succ]
      refine wpAnyH_ready (rs := [9]) (by kernel_rfl) (by simp) ?_
      refine AllReadyH.cons (o := _) rfl (fun K hK => ?_) AllReadyH.nil
      go_simp
      refine hK.out _ _ (HI.out _ (hHeld.1.alloc hHeld.1.size _)) (fun hHeld1 => ?_)
      clear hHeld
      clear hK K
      try simp only [List.getElem_toArray, List.getElem_cons_succ, List.getElem_cons_zero, Act.put, List.setIfInBounds_toArray, List.set_cons_zero, List.set_cons_succ]
      have hN5 := Blk.newAt W4.drew 55 #[.int .i64 0, .int .i64 0, .string ⟨#[]⟩] (g := W4.heap.size) rfl
      have f0 := hN5.froz 0
      have f1 := hN5.froz 1
      have f2 := hN5.froz 2
      have d0 := hN5.cell 0
      have d1 := hN5.cell 1
      have d2 := hN5.cell 2
      simp only [List.getElem?_toArray, List.getElem?_cons_zero, List.getElem?_cons_succ] at d0 d1 d2
      have HN5 := Lib.hid hN5
      clear hN5
      refine wpAnyH_ready (rs := [10]) (by kernel_rfl) (by simp) ?_
      refine AllReadyH.cons (o := _) rfl (fun K hK => ?_) AllReadyH.nil
      go_simp
      have HW5 := Lib.hid (show Below wr.heap.size wr (W4.alloc (.cells #[.int .i64 1, .int .i64 x1, .string ⟨#[]⟩] 55)).drew from (HB4.out.alloc HB4.out.size _).trans ((Below.refl _ _).drew.mono (by have := HB4.out.size; simp; omega)))
      have HN6 := Lib.hid ((Blk.newAt W4 55 #[.int .i64 1, .int .i64 x1, .string ⟨#[]⟩] (g := W4.heap.size) rfl).drewG)
      refine hK.out _ _ (HI.out _ HW5.out) (fun hHeld2 => ?_)
      clear hHeld1 f0 f1 f2 d0 d1 d2 HN5
      clear hK K
      try simp only [List.getElem_toArray, List.getElem_cons_succ, List.getElem_cons_zero, Act.put, List.setIfInBounds_toArray, List.set_cons_zero, List.set_cons_succ]
      refine wpAnyH_done (by kernel_rfl) ?_ _
      clear hHeld2
      generalize (W4.alloc (.cells #[.int .i64 1, .int .i64 x1, .string ⟨#[]⟩] 55)).drew = W5 at *
      have HZ5 := Lib.hid (show wr.heap.size ≤ W4.heap.size from HB4.out.size)
      have n0 := HN6.out.cell 0
      have n1 := HN6.out.cell 1
      have n2 := HN6.out.cell 2
      simp only [List.getElem?_toArray, List.getElem?_cons_zero, List.getElem?_cons_succ] at n0 n1 n2
      obtain ⟨o0, o1, o2, o3, o4⟩ := HOLD.out W5 (HB.out.trans (HW5.out.mono HB.out.size))
      clear HB4 HZ4
      generalize W4.heap.size = n4 at *
      go_wp2_with fail
      have l5 := L3.out.belowV HW5.out L3.out.lt
      have HK5 := Lib.hid (K3.out.belowV HW5.out K3.out.lt)
      have HG5 := Lib.hid (G3.out.belowV HW5.out G3.out.lt)
      have HL5 := Lib.hid l5
      have HBW := Lib.hid (HB.out.trans (HW5.out.mono HB.out.size))
      have HSW := Lib.hid HW5.out.size
      have hHs := HW5.out.size
      have HAD := Lib.hid fun W => (show Calls Tryz.prog 95 #[.agg #[.int .i64 0, .int .i64 0, .int .i64 0], .int .i64 x1, .int .i64 1] W (SumPost W (addS (0, 0, 0) x1 1)) from added_any (0, 0, 0) x1 1 W)
      obtain ⟨sm, hsm⟩ : ∃ sm, sm = addS (0, 0, 0) x1 1 := ⟨_, rfl⟩
      rw [← hsm] at HAD
      have HSM := Lib.hid hsm
      clear hsm
      obtain ⟨s0, s1, s2⟩ := sm
      have l0 := l5.cell 0
      have l1 := l5.cell 1
      have l2 := l5.cell 2
      simp only [List.getElem?_toArray, List.getElem?_cons_zero, List.getElem?_cons_succ] at l0 l1 l2
      clear l5
      refine wp_region_held_drew (S := fun W : World => W.cell? ⟨n4, 1, none⟩ = some (.int .i64 x1) ∧ W.cell? ⟨b, off + 1, none⟩ = some (.int .i64 1)) (by kernel_rfl) ⟨n1, o1⟩ (fun hHeld => ?_)
      refine wpAnyH_take (i := 1) (oi := _) (v := ?_) rfl (by kernel_rfl) (by kernel_rfl) (by kernel_rfl) (fun _ _ _ h => h) (Or.inl ⟨by rfl, ?_⟩) (by assumption) ?_
      rotate_left
      · intro w hSw
        try dsimp only at hSw
        go_simp
        all_goals with_reducible rfl
      simp only [List.getElem_toArray, List.getElem_cons_succ, List.getElem_cons_zero, Act.put, List.setIfInBounds_toArray, List.set_cons_zero, List.set_cons_succ]
      refine wpAnyH_take (i := 2) (oi := _) (v := ?_) rfl (by kernel_rfl) (by kernel_rfl) (by kernel_rfl) (fun _ _ _ h => h) (Or.inl ⟨by rfl, ?_⟩) (by assumption) ?_
      rotate_left
      · intro w hSw
        try dsimp only at hSw
        go_simp
        all_goals with_reducible rfl
      simp only [List.getElem_toArray, List.getElem_cons_succ, List.getElem_cons_zero, Act.put, List.setIfInBounds_toArray, List.set_cons_zero, List.set_cons_succ]
      refine wpAnyH_take (i := 3) (oi := _) (v := ?_) rfl (by kernel_rfl) (by kernel_rfl) (by kernel_rfl) (fun _ _ _ h => h) (Or.inl ⟨by rfl, ?_⟩) (by assumption) ?_
      rotate_left
      · intro w hSw
        try dsimp only at hSw
        go_simp
        all_goals with_reducible rfl
      simp only [List.getElem_toArray, List.getElem_cons_succ, List.getElem_cons_zero, Act.put, List.setIfInBounds_toArray, List.set_cons_zero, List.set_cons_succ]
      refine wpAnyH_take (i := 4) (oi := _) (v := ?_) rfl (by kernel_rfl) (by kernel_rfl) (by kernel_rfl) (fun _ _ _ h => h) (Or.inl ⟨by rfl, ?_⟩) (by assumption) ?_
      rotate_left
      · intro w hSw
        try dsimp only at hSw
        go_simp
        all_goals with_reducible rfl
      simp only [List.getElem_toArray, List.getElem_cons_succ, List.getElem_cons_zero, Act.put, List.setIfInBounds_toArray, List.set_cons_zero, List.set_cons_succ]
      refine wpAnyH_take (i := 5) (oi := _) (v := ?_) rfl (by kernel_rfl) (by kernel_rfl) (by kernel_rfl) (fun _ _ _ h => h) (Or.inl ⟨by rfl, ?_⟩) (by assumption) ?_
      rotate_left
      · intro w hSw
        try dsimp only at hSw
        go_simp
        all_goals with_reducible rfl
      simp only [List.getElem_toArray, List.getElem_cons_succ, List.getElem_cons_zero, Act.put, List.setIfInBounds_toArray, List.set_cons_zero, List.set_cons_succ]
      refine wpAnyH_take (i := 6) (oi := _) (v := ?_) rfl (by kernel_rfl) (by kernel_rfl) (by kernel_rfl) (fun _ _ _ h => h) (Or.inl ⟨by rfl, ?_⟩) (by assumption) ?_
      rotate_left
      · intro w hSw
        try dsimp only at hSw
        go_simp
        all_goals with_reducible rfl
      simp only [List.getElem_toArray, List.getElem_cons_succ, List.getElem_cons_zero, Act.put, List.setIfInBounds_toArray, List.set_cons_zero, List.set_cons_succ]
      refine wpAnyH_take (i := 7) (oi := _) (v := ?_) rfl (by kernel_rfl) (by kernel_rfl) (by kernel_rfl) (fun _ _ _ h => h) (Or.inl ⟨by rfl, ?_⟩) (by assumption) ?_
      rotate_left
      · intro w hSw
        try dsimp only at hSw
        go_simp
        all_goals with_reducible rfl
      simp only [List.getElem_toArray, List.getElem_cons_succ, List.getElem_cons_zero, Act.put, List.setIfInBounds_toArray, List.set_cons_zero, List.set_cons_succ]
      refine wpAnyH_ready (rs := [0]) (by kernel_rfl) (by simp) ?_
      refine AllReadyH.cons (o := _) rfl (fun K hK => ?_) AllReadyH.nil
      go_simp
      refine hK.out _ _ hHeld (fun hHeld1 => ?_)
      clear hHeld
      clear hK K
      try simp only [List.getElem_toArray, List.getElem_cons_succ, List.getElem_cons_zero, Act.put, List.setIfInBounds_toArray, List.set_cons_zero, List.set_cons_succ]
      refine wpAnyH_ready (rs := [8]) (by kernel_rfl) (by simp) ?_
      refine AllReadyH.cons (o := _) rfl (fun K hK => ?_) AllReadyH.nil
      go_simp
      refine (HAD.out _).mono ?_
      rintro e w8 ⟨rfl, hb8⟩
      have hbw : Below W5.heap.size W5 w8 := (Below.refl _ _).drew.trans hb8
      have HL8 := Lib.hid (HL5.out.belowV hbw HL5.out.lt)
      have HK8 := Lib.hid (HK5.out.belowV hbw HK5.out.lt)
      have HG8 := Lib.hid (HG5.out.belowV hbw HG5.out.lt)
      have HN8 := Lib.hid (HN6.out.belowV hbw HN6.out.lt)
      have HBW8 := Lib.hid (HBW.out.trans (hbw.mono HBW.out.size))
      have HSW8 := Lib.hid (Nat.le_trans HSW.out hbw.size)
      have hS8 : w8.cell? ⟨n4, 1, none⟩ = some (.int .i64 x1) ∧ w8.cell? ⟨b, off + 1, none⟩ = some (.int .i64 1) := ⟨(hbw.cell (p := ⟨n4, 1, none⟩) HN6.out.lt).trans n1, (HOLD.out w8 HBW8.out).2.1⟩
      dsimp only [sumV]
      refine hK.out _ _ hS8 (fun hHeld2 => ?_)
      clear hHeld1 hb8 hbw hS8 l0 l1 l2 n0 n1 n2 o0 o1 o2 o3 o4
      clear hK K
      try simp only [List.getElem_toArray, List.getElem_cons_succ, List.getElem_cons_zero, Act.put, List.setIfInBounds_toArray, List.set_cons_zero, List.set_cons_succ]
      have f0 := HL8.out.froz 0
      have f1 := HL8.out.froz 1
      have f2 := HL8.out.froz 2
      have d0 := HL8.out.cell 0
      have d1 := HL8.out.cell 1
      have d2 := HL8.out.cell 2
      simp only [List.getElem?_toArray, List.getElem?_cons_zero, List.getElem?_cons_succ] at d0 d1 d2
      refine wpAnyH_ready (rs := [9]) (by kernel_rfl) (by simp) ?_
      refine AllReadyH.cons (o := _) rfl (fun K hK => ?_) AllReadyH.nil
      go_simp
      have hL9 : Blk (((w8.setCell ⟨w.heap.size + 1 + 1, 0, none⟩ (.int .i64 s0)).setCell ⟨w.heap.size + 1 + 1, 1, none⟩ (.int .i64 s1)).setCell ⟨w.heap.size + 1 + 1, 2, none⟩ (.int .i64 s2)) (w.heap.size + 1 + 1) 141 #[.int .i64 s0, .int .i64 s1, .int .i64 s2] := by
        simpa using ((HL8.out.setG 0 (.int .i64 s0)).setG 1 (.int .i64 s1)).setG 2 (.int .i64 s2)
      have hne9 : n4 ≠ w.heap.size + 1 + 1 := by have := L3.out.lt; have := HZ5.out; omega
      have hN9 := Lib.hid (((HN8.out.setOther (j := 0) hne9 (.int .i64 s0)).setOther (j := 1) hne9 (.int .i64 s1)).setOther (j := 2) hne9 (.int .i64 s2))
      have hK9 := Lib.hid (((HK8.out.setOther (C := w.heap.size + 1 + 1) (j := 0) (by omega) (.int .i64 s0)).setOther (C := w.heap.size + 1 + 1) (j := 1) (by omega) (.int .i64 s1)).setOther (C := w.heap.size + 1 + 1) (j := 2) (by omega) (.int .i64 s2))
      have hG9 := Lib.hid (((HG8.out.setOther (C := w.heap.size + 1 + 1) (j := 0) (by omega) (.int .i64 s0)).setOther (C := w.heap.size + 1 + 1) (j := 1) (by omega) (.int .i64 s1)).setOther (C := w.heap.size + 1 + 1) (j := 2) (by omega) (.int .i64 s2))
      have HBW9 := Lib.hid (((HBW8.out.setCell (p := ⟨w.heap.size + 1 + 1, 0, none⟩) (by simp; omega) (.int .i64 s0)).setCell (p := ⟨w.heap.size + 1 + 1, 1, none⟩) (by simp; omega) (.int .i64 s1)).setCell (p := ⟨w.heap.size + 1 + 1, 2, none⟩) (by simp; omega) (.int .i64 s2))
      have HSW9 : Hid (wr.heap.size ≤ (((w8.setCell ⟨w.heap.size + 1 + 1, 0, none⟩ (.int .i64 s0)).setCell ⟨w.heap.size + 1 + 1, 1, none⟩ (.int .i64 s1)).setCell ⟨w.heap.size + 1 + 1, 2, none⟩ (.int .i64 s2)).heap.size) := Lib.hid (by have := HSW8.out; simp [World.setCell]; omega)
      have hL9 := Lib.hid hL9
      have z1 := hN9.out.cell 1
      simp only [List.getElem?_toArray, List.getElem?_cons_zero, List.getElem?_cons_succ] at z1
      refine hK.out _ _ ⟨z1, (HOLD.out _ HBW9.out).2.1⟩ (fun hHeld3 => ?_)
      clear hHeld2 f0 f1 f2 d0 d1 d2 z1
      clear hK K
      try simp only [List.getElem_toArray, List.getElem_cons_succ, List.getElem_cons_zero, Act.put, List.setIfInBounds_toArray, List.set_cons_zero, List.set_cons_succ]
      refine wpAnyH_done (by kernel_rfl) ?_ _
      clear hHeld3
      clear HW5 HN6 HK5 HG5 HL5 HBW HSW hHs HL8 HK8 HG8 HN8 HBW8 HSW8
      generalize ((w8.setCell ⟨w.heap.size + 1 + 1, 0, none⟩ (.int .i64 s0)).setCell ⟨w.heap.size + 1 + 1, 1, none⟩ (.int .i64 s1)).setCell ⟨w.heap.size + 1 + 1, 2, none⟩ (.int .i64 s2) = W5 at *
      have HN6 := hN9
      have hW55 := HSW9.out
      go_wp2_with fail
      go_wp2_with fail
      go_loopw [12] (fun s wr6 => s = .int .i64 0 ∧ W5 = wr6) (fun _ _ => 0)
      case atStart => exact ⟨rfl, rfl⟩
      case round =>
        obtain ⟨rfl, rfl⟩ := hrel
        go_wp2_with fail
        go_quiet (fail)
        go_wp2_with fail
        go_quiet (fail)
        have hn4 := HN6.out.lt
        have hne4 : n4 ≠ W5.heap.size := by omega
        have hsz4 := HZ5.out
        have hw6 : W5.heap.size ≠ n4 := by omega
        have hN8 : ∀ q : Nat, Blk ((W5.drewN q).alloc (.cells #[] 55)) n4 55 #[.int .i64 1, .int .i64 x1, .string ⟨#[]⟩] := fun q => (show Blk (W5.drewN q) n4 55 #[.int .i64 1, .int .i64 x1, .string ⟨#[]⟩] from HN6.out).allocG _
        have a0 := fun q => (hN8 q).cell 0
        have a1 := fun q => (hN8 q).cell 1
        have a2 := fun q => (hN8 q).cell 2
        simp only [List.getElem?_toArray, List.getElem?_cons_zero, List.getElem?_cons_succ] at a0 a1 a2
        clear hN8
        have HOW := Lib.hid (fun (W6 : World) => (show ((W6.alloc (.cells #[] 55)).alloc (.cells #[.int .i64 1, .int .i64 x1, .string ⟨#[]⟩] 55)).ownsRow W6.heap.size 55 3 (.slice (some ⟨W6.heap.size, 0, none⟩) 0 0) 0 [] from (World.ownsRow_made W6 #[] 0 (Nat.le_refl _) (Nat.zero_le _) rfl).alloc _))
        have HB6 := Lib.hid (fun (q : Nat) => (show Below W5.heap.size W5 (W5.drewN q) from ⟨rfl, rfl, rfl, Nat.le_refl _, fun _ _ => rfl⟩))
        go_wp2_with (at_builtin; refine wpList_append_own _ rfl _ _ 33 rfl W5.heap.size 55 i0 (.agg #[.int .i64 0, .int .i64 0, .string ⟨#[]⟩]) 3 32 Tryz.underlying33 hi hz0 hz1 hz2 rfl (by decide) _ 0 [] rfl (HOW.out _) ⟨W5.heap.size + 1, 0, none⟩ 1 1 (cellsV (1, x1, ⟨#[]⟩)) rfl rfl (cells_at _ _ _ (by simp)) (by simp [cellsV, Value.oneCell']) (by unfold maxLen; omega) (by omega) (by simp <;> omega) ?_; intro v' w7 hown' hgrow _; have HB7 := Lib.hid (show Below W5.heap.size W5 w7 from (((HB6.out _).alloc (HB6.out _).size (.cells #[] 55)).alloc (by simp <;> omega) (.cells #[.int .i64 1, .int .i64 x1, .string ⟨#[]⟩] 55)).grown hgrow (by simp <;> omega) (fun k e => ((HOW.out _).lt k e).1)); have HN7 := Lib.hid hown'; obtain ⟨g7, c7, rfl, hc7, hc7m⟩ := own_one hown'; clear hown' hgrow)
        go_roundw
        case rel => exact .inr ⟨rfl, rfl, rfl, ⟨g7, c7, rfl, by
          have h := ownsRow_base HN7.out HSW9.out
          have e : flatV [((1, x1, ⟨#[]⟩) : Val)] = [] ++ cellsV (1, x1, ⟨#[]⟩) := by simp [flatV]
          show w7.ownsRow wr.heap.size 55 3 _ (0 + 1) (flatV [((1, x1, ⟨#[]⟩) : Val)])
          rw [e]
          exact h⟩, rfl, hK9.out.belowV HB7.out hK9.out.lt, hG9.out.belowV HB7.out hG9.out.lt, by rw [← HSM.out]; exact hL9.out.belowV HB7.out hL9.out.lt, HBW9.out.trans (HB7.out.mono HBW9.out.size)⟩
        case measure => simp [RowKit.intOf]
    · have hvi := valsIn_of_owns hO.out
      obtain ⟨g', o', he, hgl, hva⟩ := hvi (by simp)
      simp only [Option.some.injEq, Addr.mk.injEq, and_true] at he
      obtain ⟨rfl, rfl⟩ := he
      obtain ⟨v0, v1, v2⟩ := hva 0 (by simp)
      simp only [List.getElem?_cons_zero, Option.getD_some, Nat.zero_mul, Nat.add_zero, Nat.zero_add] at v0 v1 v2
      have l0 := hL.cell 0
      have l1 := hL.cell 1
      have l2 := hL.cell 2
      simp only [List.getElem?_toArray, List.getElem?_cons_zero, List.getElem?_cons_succ] at l0 l1 l2
      clear hO hva
      have hfl0 : ∀ W : World, (Instr.field 55 (.agg #[.int .i64 1, .int .i64 x1, .string ⟨#[]⟩]) 0).run Tryz.prog W = .ok (.int .i64 1) W := fun W => by
        first | rfl | simp [Instr.field, run_underlying Tryz.underlying55, go_sem]
      have hfl1 : ∀ W : World, (Instr.field 55 (.agg #[.int .i64 1, .int .i64 x1, .string ⟨#[]⟩]) 1).run Tryz.prog W = .ok (.int .i64 x1) W := fun W => by
        first | rfl | simp [Instr.field, run_underlying Tryz.underlying55, go_sem]
      have k0 := hK.cell 0
      simp only [List.getElem?_toArray, List.getElem?_cons_zero, List.getElem?_cons_succ] at k0
      have HWH := Lib.hid fun W => (show Calls Tryz.prog 96 #[.agg #[.int .i64 (addS (0, 0, 0) x1 1).1, .int .i64 (addS (0, 0, 0) x1 1).2.1, .int .i64 (addS (0, 0, 0) x1 1).2.2]] W (ValPost W (1, x1, ⟨#[]⟩)) from by
        have h := whole_any (addS (0, 0, 0) x1 1) W
        rw [HONE.out] at h
        exact h)
      have HKW := Lib.hid hK
      have HGW := Lib.hid hG
      have HLW := Lib.hid hL
      have HBW := Lib.hid hBB
      clear hK hG hL hBB
      go_wp2_with fail
      refine (HWH.out _).mono ?_
      rintro e w10 ⟨rfl, hb10⟩
      dsimp only [valA]
      have hL10 := HLW.out.belowV hb10 HLW.out.lt
      have HK10 := Lib.hid (HKW.out.belowV hb10 HKW.out.lt)
      have HG10 := Lib.hid (HGW.out.belowV hb10 HGW.out.lt)
      have HB10 := Lib.hid (HBW.out.trans (hb10.mono HBW.out.size))
      have HL10 := Lib.hid hL10
      clear l0 l1 l2 k0 v0 v1 v2 hb10
      have l0 := hL10.cell 0
      have l1 := hL10.cell 1
      have l2 := hL10.cell 2
      have k0 := HK10.out.cell 0
      simp only [List.getElem?_toArray, List.getElem?_cons_zero, List.getElem?_cons_succ] at l0 l1 l2 k0
      clear hL10
      go_wp2_with fail
      refine (HWH.out _).mono ?_
      rintro e w11 ⟨rfl, hb11⟩
      dsimp only [valA]
      have hK := HK10.out.belowV hb11 HK10.out.lt
      have hG := HG10.out.belowV hb11 HG10.out.lt
      have hBB : Below w.heap.size w w11 := HB10.out.trans (hb11.mono HB10.out.size)
      have q2 := (HL10.out.belowV hb11 HL10.out.lt).cell 2
      simp only [List.getElem?_toArray, List.getElem?_cons_zero, List.getElem?_cons_succ] at q2
      rw [HMANY.out] at q2
      have hx1w : wrap64 x1 = x1 := IntWalk.wrap64_in x1 (by omega)
      clear k0 l0 l1 l2 hb11
      have k0 := hK.cell 0
      have f0 := hG.froz 0
      have f1 := hG.froz 1
      have f2 := hG.froz 2
      have d0 := hG.cell 0
      have d1 := hG.cell 1
      have d2 := hG.cell 2
      simp only [List.getElem?_toArray, List.getElem?_cons_zero, List.getElem?_cons_succ] at k0 d0 d1 d2
      have hset : Blk (((w11.setCell ⟨w.heap.size + 1, 0, none⟩ (.int .i64 1)).setCell ⟨w.heap.size + 1, 1, none⟩ (.int .i64 x1)).setCell ⟨w.heap.size + 1, 2, none⟩ (.string ⟨#[]⟩)) (w.heap.size + 1) 55 #[.int .i64 1, .int .i64 x1, .string ⟨#[]⟩] := by
        simpa using ((hG.setG 0 (.int .i64 1)).setG 1 (.int .i64 x1)).setG 2 (.string ⟨#[]⟩)
      have HSET := Lib.hid hset
      have HBB := Lib.hid hBB
      clear hset hBB hK hG
      go_wp2_with fail
      have r0 := HSET.out.cell 0
      have r1 := HSET.out.cell 1
      have r2 := HSET.out.cell 2
      simp only [List.getElem?_toArray, List.getElem?_cons_zero, List.getElem?_cons_succ] at r0 r1 r2
      rw [HRES.out]
      refine bodyPost_ret (v := valA (1, x1, ⟨#[]⟩)) (by simp [results, Tryz.results76, go_sem, r0, r1, r2, valA]) rfl ⟨rfl, ?_⟩
      exact ((HBB.out.setCell (p := ⟨w.heap.size + 1, 0, none⟩) (by simp) _).setCell (p := ⟨w.heap.size + 1, 1, none⟩) (by simp) _).setCell (p := ⟨w.heap.size + 1, 2, none⟩) (by simp) _

end Go.Proofs.YtfoknllnknjccaaGreat

/-!
  What the document tells of one row: every kind, every value.
-/
namespace Go.Proofs.YtfoknllnknjccaaGreat
open Go.RowKit

theorem bytes_nil {s : ByteArray} (h : s.toList.isEmpty = true) : s = ⟨#[]⟩ := by
  have := empty_eq h
  cases s with
  | mk a =>
    congr 1
    exact Array.toList_inj.1 (by simpa using this)
set_option maxRecDepth 100000 in
theorem tellOne_any (a : Ag) (r : RowV) (b off d : Nat) (hv : validRow r.2.1 = true) (ha : aggOK r.2.1.length a = true) (w : World) (hb : b < w.heap.size) (h0 : w.cell? ⟨b, off, none⟩ = some (rowv r)) (h1 : w.cell? ⟨b, off + 1, none⟩ = some (.int .i64 1)) (hX : ValsIn w r.1 r.2.1) :
    Calls Tryz.prog 76 #[nAg a, .slice (some ⟨b, off, none⟩) 1 d] w (ValPost w (tellK a.1 (took a [(r.2.1, 1)]))) := by
  unfold aggOK at ha
  rw [decide_eq_true_eq] at ha
  unfold aggP at ha
  obtain ⟨k, c⟩ := a
  dsimp only at ha ⊢
  rcases ha with ⟨rfl, rfl⟩ | ⟨hk2, hk7, hc0, hcn⟩
  · exact tellO_1 0 b off d v0 w hb h1
  obtain ⟨m, rfl⟩ : ∃ m : Nat, c = (m : Int) := Int.eq_ofNat_of_zero_le hc0
  have hm : m < r.2.1.length := by omega
  obtain ⟨b2, off2, e, hb2, hva⟩ := hX (by omega)
  obtain ⟨y0, y1, y2⟩ := hva m hm
  have hval := valOf_valid (a := (k, (m : Int))) hv (.inr ⟨hc0, hcn⟩)
  have etk : took (k, (m : Int)) [(r.2.1, 1)] = [(valOf r.2.1 (k, (m : Int)), 1)] := rfl
  have evo : valOf r.2.1 (k, (m : Int)) = r.2.1[m]?.getD v0 := by
    unfold valOf
    rw [if_neg (by show ¬ k = 1; omega)]
    rfl
  rw [etk, evo]
  rw [evo] at hval
  have h0' : w.cell? ⟨b, off, none⟩ = some (.slice (some ⟨b2, off2, none⟩) r.2.1.length r.2.2) := by rw [h0]; unfold rowv; rw [e]
  generalize r.2.1.length = len at *
  generalize r.2.1[m]?.getD v0 = x at *
  obtain ⟨x0, x1, x2⟩ := x
  dsimp only at y0 y1 y2 hval ⊢
  unfold validV at hval
  rw [decide_eq_true_eq] at hval
  unfold validP at hval
  have hk : k = 2 ∨ k = 3 ∨ k = 4 ∨ k = 5 ∨ k = 6 ∨ k = 7 := by omega
  rcases hval with ⟨rfl, rfl, hs⟩ | ⟨rfl, hs, hlo, hhi⟩ | ⟨rfl, rfl, _⟩
  · obtain rfl := bytes_nil hs
    rcases hk with rfl | rfl | rfl | rfl | rfl | rfl
    · exact tellO_2_null m b off b2 off2 len r.2.2 d 0 ⟨#[]⟩ hm w hb hb2 h0' h1 y0 y1 y2
    · exact tellO_3_null m b off b2 off2 len r.2.2 d 0 ⟨#[]⟩ hm w hb hb2 h0' h1 y0 y1 y2
    · exact tellO_4_null m b off b2 off2 len r.2.2 d 0 ⟨#[]⟩ hm w hb hb2 h0' h1 y0 y1 y2
    · exact tellO_5_null m b off b2 off2 len r.2.2 d 0 ⟨#[]⟩ hm w hb hb2 h0' h1 y0 y1 y2
    · exact tellO_6_null m b off b2 off2 len r.2.2 d 0 ⟨#[]⟩ hm w hb hb2 h0' h1 y0 y1 y2
    · exact tellO_7_null m b off b2 off2 len r.2.2 d 0 ⟨#[]⟩ hm w hb hb2 h0' h1 y0 y1 y2
  · obtain rfl := bytes_nil hs
    rcases hk with rfl | rfl | rfl | rfl | rfl | rfl
    · exact tellO_2_int m b off b2 off2 len r.2.2 d x1 ⟨#[]⟩ hm w hb hb2 h0' h1 y0 y1 y2
    · exact tellO_3_int m b off b2 off2 len r.2.2 d x1 ⟨#[]⟩ hm ⟨hlo, hhi⟩ w hb hb2 h0' h1 y0 y1 y2
    · exact tellO_4_int m b off b2 off2 len r.2.2 d x1 ⟨#[]⟩ hm w hb hb2 h0' h1 y0 y1 y2
    · exact tellO_5_int m b off b2 off2 len r.2.2 d x1 ⟨#[]⟩ hm w hb hb2 h0' h1 y0 y1 y2
    · exact tellO_6_int m b off b2 off2 len r.2.2 d x1 ⟨#[]⟩ hm ⟨hlo, hhi⟩ w hb hb2 h0' h1 y0 y1 y2
    · exact tellO_7_int m b off b2 off2 len r.2.2 d x1 ⟨#[]⟩ hm w hb hb2 h0' h1 y0 y1 y2
  · rcases hk with rfl | rfl | rfl | rfl | rfl | rfl
    · exact tellO_2_text m b off b2 off2 len r.2.2 d 0 x2 hm w hb hb2 h0' h1 y0 y1 y2
    · exact tellO_3_text m b off b2 off2 len r.2.2 d 0 x2 hm w hb hb2 h0' h1 y0 y1 y2
    · exact tellO_4_text m b off b2 off2 len r.2.2 d 0 x2 hm w hb hb2 h0' h1 y0 y1 y2
    · exact tellO_5_text m b off b2 off2 len r.2.2 d 0 x2 hm w hb hb2 h0' h1 y0 y1 y2
    · exact tellO_6_text m b off b2 off2 len r.2.2 d 0 x2 hm w hb hb2 h0' h1 y0 y1 y2
    · exact tellO_7_text m b off b2 off2 len r.2.2 d 0 x2 hm w hb hb2 h0' h1 y0 y1 y2
end Go.Proofs.YtfoknllnknjccaaGreat

