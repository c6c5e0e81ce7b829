/-
  The document's Join, item by item, at valid bags.
-/
import Derived.Test.YtcpbdbhpflgkcaaRows2
namespace Go.Proofs.Ytcpbdbhpflgkcaa
open Go.RowKit

set_option maxRecDepth 100000 in
set_option maxHeartbeats 4000000 in
theorem eitherJoin_yes (p q : Option Addr) (rs ss : List ItR) (c d : Nat) (hm1 : rs.length ≤ 60) (hm2 : ss.length ≤ 60) (w : World) (hX : ItemsIn w p rs) (hZ : ItemsIn w q ss) (q1 : validBag (vals rs) = true) (q2 : validBag (vals ss) = true) :
    Calls Try.prog 68 #[.slice p rs.length c, .slice q ss.length d, .bool true] w (BagPost w.heap.size w (toldVal (comb hiF (vals rs) (vals ss))) (toldErr (comb hiF (vals rs) (vals ss)))) := by
  have h1 := refBagValid_any p rs c (by omega) w hX
  have h2 := fun W (h : Below w.heap.size w W) => refBagValid_any q ss d (by omega) W (hZ.belowV h)
  rw [q1] at h1
  rw [q2] at h2
  have H1 := Lib.hid h1
  have H2 := Lib.hid h2
  have H3 := Lib.hid fun W (h : Below w.heap.size w W) => Rows2_any p q rs ss c d (by omega) (by omega) W (hX.belowV h) (hZ.belowV h)
  have HX := Lib.hid hX
  have HZ := Lib.hid hZ
  have HCS := Lib.hid (And.intro (cnt_small q1) (cnt_small q2))
  have HRV := Lib.hid (rows2_valid (asc_of_valid q1) (asc_of_valid q2))
  rw [← puts_comb (f := hiF) (by decide) (asc_of_valid q1) (asc_of_valid q2)]
  clear h1 h2 hX hZ q1 q2
  go_enter Try.func68, Try.ntmps68
  go_wp2_with fail
  refine H1.out.mono ?_
  rintro e w1 ⟨rfl, hb1⟩
  go_wp2_with fail
  refine (H2.out _ hb1).mono ?_
  rintro e w2 ⟨rfl, hb2⟩
  have hB2 : Below w.heap.size w w2 := hb1.trans (hb2.mono hb1.size)
  clear hb1 hb2
  go_wp2_with fail
  refine (H3.out _ hB2).mono ?_
  rintro e w3 ⟨p3, rl, c3, rfl, hv3, hl3, hi3, hz3, hb3⟩
  have hB3 : Below w.heap.size w w3 := hB2.trans (hb3.mono hB2.size)
  have HV := Lib.hid hv3
  have HI := Lib.hid hi3
  have HZ3 := Lib.hid hz3
  clear hb3 hB2 hv3 hi3 hz3 H1 H2 H3
  have hlm : rl.length ≤ 120 := by omega
  have hvl : ∀ k, (rl.map (fun r : RowV => r.2.1))[k]?.getD [] = (rl[k]?.getD r0).2.1 := fun k => by rw [List.getElem?_map]; cases rl[k]? <;> rfl
  have HVL := Lib.hid hvl
  clear hvl
  go_wp2_with fail
  go_loopw [8, 10, 11, 12] (fun o s _ _ wr => ∃ (i : Nat) (p' : Option Addr) (os : List ItR) (c' : Nat), o = .slice p' os.length c' ∧ s = .int .i64 i ∧ i ≤ rl.length ∧ Hid (vals os = puts hiF (vals rs) (vals ss) ((rows2 (vals rs) (vals ss)).take i)) ∧ Hid (Asc (vals os) ∧ Bd i (vals os)) ∧ os.length ≤ c' ∧ os.length ≤ i ∧ ItemsIn wr p' os ∧ Below w3.heap.size w3 wr) (fun _ s _ _ _ => rl.length - (intOf s).toNat)
  case atStart => exact ⟨0, none, [], 0, rfl, rfl, Nat.zero_le _, rfl, ⟨nil_asc, fun x hx => by cases hx⟩, Nat.le_refl _, Nat.le_refl _, (fun h => absurd h (by simp)), Below.refl _ _⟩
  case round =>
    obtain ⟨i, p', os, c', rfl, rfl, hi, hvo, hbo, hoc, hol, hio, hBr⟩ := hrel
    have hB : Below w.heap.size w wr := hB3.trans (hBr.mono hB3.size)
    by_cases hlt : i < rl.length
    · obtain ⟨b, off, rfl, hbl, hra⟩ := HI.out (by omega)
      obtain ⟨c0, c2⟩ := (hra.belowV hBr hbl) i hlt
      have E0 := Lib.hid c0
      have hbr : b < wr.heap.size := Nat.lt_of_lt_of_le hbl hBr.size
      have hi0 : (0 : Int) ≤ (i : Int) := by omega
      have hi1 : (i : Int) < (rl.length : Int) := by omega
      have hil2 : i < (rows2 (vals rs) (vals ss)).length := by rw [← HV.out, List.length_map]; exact hlt
      have hnx := puts_next (f := hiF) (a := vals rs) (b := vals ss) hil2
      have hz := HZ3.out (rl[i]?.getD r0) (by rw [List.getElem?_eq_getElem hlt]; exact List.getElem_mem hlt)
      have hvr := HRV.out ((rows2 (vals rs) (vals ss))[i]?.getD []) (by rw [List.getElem?_eq_getElem hil2]; exact List.getElem_mem hil2)
      have hrw : (rows2 (vals rs) (vals ss))[i]?.getD [] = (rl[i]?.getD r0).2.1 := by rw [← HV.out]; exact HVL.out i
      rw [hrw] at hnx hvr
      rw [← hvo.out] at hnx
      clear hra hrw hil2
      generalize rl[i]?.getD r0 = x at *
      obtain ⟨xq, xs, xc⟩ := x
      dsimp only [rowv] at c0 c2 hnx hz hvr E0
      have hn1 := fun W (h : Below wr.heap.size wr W) => refN_any p xq rs c xs xc (by omega) c2.1 W (HX.out.belowV (hB.trans (h.mono hB.size))) (c2.belowV h).2
      have hn2 := fun W (h : Below wr.heap.size wr W) => refN_any q xq ss d xs xc (by omega) c2.1 W (HZ.out.belowV (hB.trans (h.mono hB.size))) (c2.belowV h).2
      have hs1 := HCS.out.1 xs
      have hs2 := HCS.out.2 xs
      generalize cnt (vals rs) xs = n1 at hn1 hnx hs1
      generalize cnt (vals ss) xs = n2 at hn2 hnx hs2
      have hsf : small (hiF n1 n2) := by unfold hiF; split <;> assumption
      have HFE : Hid (hiF n1 n2 = hiF n1 n2) := rfl
      have HP := Lib.hid fun W (h : Below wr.heap.size wr W) => Put_any p' xq os c' xs xc (hiF n1 n2) (by omega) hbo.out.1.2 (fun r hr => by
          have := hbo.out.2 _ (mem_vals hr)
          unfold big
          simp only [itv] at this
          omega) (by unfold small at hsf; unfold big; omega) (fun r hr => by have := row_len (hbo.out.1.1 _ (mem_vals hr)).1; simp only [itv] at this; omega) (by have := row_len hvr; omega) W (hio.belowV h) (c2.belowV h).2 hz
      have HNX := Lib.hid hnx
      have HAS := Lib.hid (show Asc (put (vals os) xs (hiF n1 n2)) ∧ Bd (i + 1) (put (vals os) xs (hiF n1 n2)) from ⟨put_asc hbo.out.1 hvr, hbo.out.2.put hvr (by unfold small at hsf; omega) (by unfold small at hsf; omega)⟩)
      have HN1 := Lib.hid hn1
      have HN2 := Lib.hid hn2
      clear hn1 hn2 c2 hnx hs1 hs2 hsf hvr hz HFE
      have HS := Lib.hid (show ∀ w' : World, Below wr.heap.size wr w' → (Below wr.heap.size wr w' ∧ w'.cell? ⟨b, off + i, none⟩ = some (.slice xq xs.length xc)) from fun w' hb => ⟨hb, (hb.cell (p := ⟨b, off + i, none⟩) hbr).trans c0⟩)
      clear c0
      go_wp2_with fail
      refine wp_region_held_drew (S := fun w' : World => Below wr.heap.size wr w' ∧ w'.cell? ⟨b, off + i, none⟩ = some (.slice xq xs.length xc)) (by kernel_rfl) (HS.out _ (Below.refl _ _).drew) (fun hHeld => ?_)
      refine wpAnyH_take (i := 0) (oi := _) (v := ?_) rfl (by kernel_rfl) (by kernel_rfl) (by kernel_rfl) (fun _ _ _ h => h) (Or.inl ⟨by rfl, ?_⟩) (by assumption) ?_
      rotate_left
      · intro w hSw
        try dsimp only at hSw
        go_simp
        all_goals with_reducible rfl
      simp only [List.getElem_toArray, List.getElem_cons_zero, Act.put, List.setIfInBounds_toArray, List.set_cons_zero, List.set_cons_succ]
      refine wpAnyH_take (i := 1) (oi := _) (v := ?_) rfl (by kernel_rfl) (by kernel_rfl) (by kernel_rfl) (fun _ _ _ h => h) (Or.inl ⟨by rfl, ?_⟩) (by assumption) ?_
      rotate_left
      · intro w hSw
        try dsimp only at hSw
        go_simp
        all_goals with_reducible rfl
      simp only [List.getElem_toArray, List.getElem_cons_succ, List.getElem_cons_zero, Act.put, List.setIfInBounds_toArray, List.set_cons_zero, List.set_cons_succ]
      refine wpAnyH_take (i := 2) (oi := _) (v := ?_) rfl (by kernel_rfl) (by kernel_rfl) (by kernel_rfl) (fun _ _ _ h => h) (Or.inl ⟨by rfl, ?_⟩) (by assumption) ?_
      rotate_left
      · intro w hSw
        try dsimp only at hSw
        go_simp
        all_goals with_reducible rfl
      simp only [List.getElem_toArray, List.getElem_cons_succ, List.getElem_cons_zero, Act.put, List.setIfInBounds_toArray, List.set_cons_zero, List.set_cons_succ]
      refine wpAnyH_take (i := 3) (oi := _) (v := ?_) rfl (by kernel_rfl) (by kernel_rfl) (by kernel_rfl) (fun _ _ _ h => h) (Or.inl ⟨by rfl, ?_⟩) (by assumption) ?_
      rotate_left
      · intro w hSw
        try dsimp only at hSw
        go_simp
        all_goals with_reducible rfl
      simp only [List.getElem_toArray, List.getElem_cons_succ, List.getElem_cons_zero, Act.put, List.setIfInBounds_toArray, List.set_cons_zero, List.set_cons_succ]
      refine wpAnyH_take (i := 4) (oi := _) (v := ?_) rfl (by kernel_rfl) (by kernel_rfl) (by kernel_rfl) (fun _ _ _ h => h) (Or.inl ⟨by rfl, ?_⟩) (by assumption) ?_
      rotate_left
      · intro w hSw
        try dsimp only at hSw
        go_simp
        all_goals with_reducible rfl
      simp only [List.getElem_toArray, List.getElem_cons_succ, List.getElem_cons_zero, Act.put, List.setIfInBounds_toArray, List.set_cons_zero, List.set_cons_succ]
      refine wpAnyH_take (i := 6) (oi := _) (v := ?_) rfl (by kernel_rfl) (by kernel_rfl) (by kernel_rfl) (fun _ _ _ h => h) (Or.inl ⟨by rfl, ?_⟩) (by assumption) ?_
      rotate_left
      · intro w hSw
        try dsimp only at hSw
        go_simp
        all_goals with_reducible rfl
      simp only [List.getElem_toArray, List.getElem_cons_succ, List.getElem_cons_zero, Act.put, List.setIfInBounds_toArray, List.set_cons_zero, List.set_cons_succ]
      refine wpAnyH_take (i := 7) (oi := _) (v := ?_) rfl (by kernel_rfl) (by kernel_rfl) (by kernel_rfl) (fun _ _ _ h => h) (Or.inl ⟨by rfl, ?_⟩) (by assumption) ?_
      rotate_left
      · intro w hSw
        try dsimp only at hSw
        go_simp
        all_goals with_reducible rfl
      simp only [List.getElem_toArray, List.getElem_cons_succ, List.getElem_cons_zero, Act.put, List.setIfInBounds_toArray, List.set_cons_zero, List.set_cons_succ]
      refine wpAnyH_take (i := 8) (oi := _) (v := ?_) rfl (by kernel_rfl) (by kernel_rfl) (by kernel_rfl) (fun _ _ _ h => h) (Or.inl ⟨by rfl, ?_⟩) (by assumption) ?_
      rotate_left
      · intro w hSw
        try dsimp only at hSw
        go_simp
        all_goals with_reducible rfl
      simp only [List.getElem_toArray, List.getElem_cons_succ, List.getElem_cons_zero, Act.put, List.setIfInBounds_toArray, List.set_cons_zero, List.set_cons_succ]
      refine wpAnyH_take (i := 9) (oi := _) (v := ?_) rfl (by kernel_rfl) (by kernel_rfl) (by kernel_rfl) (fun _ _ _ h => h) (Or.inl ⟨by rfl, ?_⟩) (by assumption) ?_
      rotate_left
      · intro w hSw
        try dsimp only at hSw
        go_simp
        all_goals with_reducible rfl
      simp only [List.getElem_toArray, List.getElem_cons_succ, List.getElem_cons_zero, Act.put, List.setIfInBounds_toArray, List.set_cons_zero, List.set_cons_succ]
      refine wpAnyH_take (i := 10) (oi := _) (v := ?_) rfl (by kernel_rfl) (by kernel_rfl) (by kernel_rfl) (fun _ _ _ h => h) (Or.inl ⟨by rfl, ?_⟩) (by assumption) ?_
      rotate_left
      · intro w hSw
        try dsimp only at hSw
        go_simp
        all_goals with_reducible rfl
      simp only [List.getElem_toArray, List.getElem_cons_succ, List.getElem_cons_zero, Act.put, List.setIfInBounds_toArray, List.set_cons_zero, List.set_cons_succ]
      refine wpAnyH_ready (rs := [5]) (by kernel_rfl) (by simp) ?_
      refine AllReadyH.cons (o := _) rfl (fun K hK => ?_) AllReadyH.nil
      go_simp
      refine (HN1.out _ hHeld.1).mono ?_
      rintro e u1 ⟨rfl, kb1⟩
      have hU1 : Below wr.heap.size wr u1 := hHeld.1.trans (kb1.mono hHeld.1.size)
      clear kb1
      refine hK.out _ _ (HS.out _ hU1) (fun hHeld1 => ?_)
      clear hHeld
      clear hK K
      try simp only [List.getElem_toArray, List.getElem_cons_succ, List.getElem_cons_zero, Act.put, List.setIfInBounds_toArray, List.set_cons_zero, List.set_cons_succ]
      refine wpAnyH_ready (rs := [11]) (by kernel_rfl) (by simp) ?_
      refine AllReadyH.cons (o := _) rfl (fun K hK => ?_) AllReadyH.nil
      go_simp
      refine (HN2.out _ hHeld1.1).mono ?_
      rintro e u2 ⟨rfl, kb2⟩
      have hU2 : Below wr.heap.size wr u2 := hHeld1.1.trans (kb2.mono hHeld1.1.size)
      clear kb2
      refine hK.out _ _ (HS.out _ hU2) (fun hHeld2 => ?_)
      clear hHeld1
      clear hK K
      try simp only [List.getElem_toArray, List.getElem_cons_succ, List.getElem_cons_zero, Act.put, List.setIfInBounds_toArray, List.set_cons_zero, List.set_cons_succ]
      refine wpAnyH_take (i := 12) (oi := _) (v := ?_) rfl (by kernel_rfl) (by kernel_rfl) (by kernel_rfl) (fun _ _ _ h => h) (Or.inl ⟨by rfl, ?_⟩) (by assumption) ?_
      rotate_left
      · intro w hSw
        try dsimp only at hSw
        go_simp
        all_goals with_reducible rfl
      simp only [List.getElem_toArray, List.getElem_cons_succ, List.getElem_cons_zero, Act.put, List.setIfInBounds_toArray, List.set_cons_zero, List.set_cons_succ]
      refine wpAnyH_take (i := 13) (oi := _) (v := ?_) rfl (by kernel_rfl) (by kernel_rfl) (by kernel_rfl) (fun _ _ _ h => h) (Or.inl ⟨by rfl, ?_⟩) (by assumption) ?_
      rotate_left
      · intro w hSw
        try dsimp only at hSw
        go_simp
        all_goals with_reducible rfl
      simp only [List.getElem_toArray, List.getElem_cons_succ, List.getElem_cons_zero, Act.put, List.setIfInBounds_toArray, List.set_cons_zero, List.set_cons_succ]
      refine wpAnyH_done (by kernel_rfl) ?_ _
      have hB2 : Below wr.heap.size wr u2 := hHeld2.1
      have c0 := (hB2.cell (p := ⟨b, off + i, none⟩) hbr).trans E0.out
      clear hHeld2
      have hmn : hiF n1 n2 = max n1 n2 := by unfold hiF; split <;> omega
      rw [hmn] at HP HNX HAS
      go_wp2_with fail
      refine (HP.out _ hB2).mono ?_
      rintro e w9 ⟨p9, os9, c9, rfl, hv9, hoc9, hol9, hi9, _, hb9⟩
      have HV9 := Lib.hid hv9
      clear hv9
      go_wp2_with fail
      go_roundw
      case rel => exact ⟨i + 1, p9, os9, c9, rfl, by go_num, by omega, (by show _ = _; rw [HNX.out, HV9.out]), (by show _ ∧ _; rw [HV9.out]; exact HAS.out), hoc9, by omega, hi9, hBr.trans ((hB2.trans (hb9.mono hB2.size)).mono hBr.size)⟩
      case measure => simp [intOf]; omega
    · have hge : (rl.length : Int) ≤ (i : Int) := by omega
      have hie : i = rl.length := by omega
      have hvv : vals os = puts hiF (vals rs) (vals ss) (rows2 (vals rs) (vals ss)) := by
        have := hvo.out
        rwa [hie, ← List.length_map (f := fun r : RowV => r.2.1), HV.out, List.take_length] at this
      have ht := told_any p' os c' hoc (by omega) wr hio
      rw [hvv] at ht
      have HT := Lib.hid ht
      clear ht hvv hie hio hvo hbo
      go_wp2_with fail
      refine HT.out.mono ?_
      rintro e w9 ⟨p9, os9, c9, rfl, hv9, hoc9, hol9, hi9, hb9⟩
      have HV9 := Lib.hid hv9
      clear hv9
      go_wp2_with fail
      go_ret2
      exact ⟨p9, os9, c9, rfl, HV9.out, hoc9, hol9, hi9, hB.trans (hb9.mono hB.size)⟩
end Go.Proofs.Ytcpbdbhpflgkcaa

