/-
  What a list of aggregates tells of a bag, as a contract.
-/
import Derived.Test.YtfoknllnknjccaaGreatToldV
import Derived.Test.YtfoknllnknjccaaGreatOwnI
import Derived.Deep.RegionHeld3
namespace Go.Proofs.YtfoknllnknjccaaGreat
open Go.RowKit
set_option linter.unusedSimpArgs false

theorem take_set3' {L : List Value} {n i : Nat} (hl : L.length = n * 3) (hi : i < n) (a b c : Value) : (((L.set (i * 3) a).set (i * 3 + 1) b).set (i * 3 + 2) c).take ((i + 1) * 3) = L.take (i * 3) ++ [a, b, c] := by
  apply List.ext_getElem?
  intro j
  rw [List.getElem?_append]
  have hlen : (L.take (i * 3)).length = i * 3 := by rw [List.length_take]; omega
  rw [hlen]
  by_cases h1 : j < i * 3
  · rw [if_pos h1, List.getElem?_take_of_lt (by omega), List.getElem?_take_of_lt h1, List.getElem?_set_ne (by omega), List.getElem?_set_ne (by omega), List.getElem?_set_ne (by omega)]
  · rw [if_neg h1]
    have hj : j = i * 3 ∨ j = i * 3 + 1 ∨ j = i * 3 + 2 ∨ (i + 1) * 3 ≤ j := by omega
    rcases hj with rfl | rfl | rfl | hj
    · rw [List.getElem?_take_of_lt (by omega), List.getElem?_set_ne (by omega), List.getElem?_set_ne (by omega), List.getElem?_set_self (by omega)]; simp
    · rw [List.getElem?_take_of_lt (by omega), List.getElem?_set_ne (by omega), List.getElem?_set_self (by rw [List.length_set]; omega), show i * 3 + 1 - i * 3 = 1 by omega]; rfl
    · rw [List.getElem?_take_of_lt (by omega), List.getElem?_set_self (by rw [List.length_set, List.length_set]; omega), show i * 3 + 2 - i * 3 = 2 by omega]; rfl
    · rw [List.getElem?_take_eq_none (by omega), List.getElem?_eq_none (by simp; omega)]
theorem toldV_next {gs : List Ag} {l : List It} {i : Nat} (h : i < gs.length) : toldV (gs.take (i + 1)) l = toldV (gs.take i) l ++ [tellK (gs[i]?.getD ag0).1 (took (gs[i]?.getD ag0) l)] := by
  unfold toldV
  rw [List.take_succ_eq_append_getElem h, List.map_append, List.getElem?_eq_getElem h]; rfl
theorem took_next {a : Ag} {l : List It} {j : Nat} (h : j < l.length) : took a (l.take (j + 1)) = took a (l.take j) ++ [(valOf (l[j]?.getD it0).1 a, (l[j]?.getD it0).2)] := by
  unfold took
  rw [List.take_succ_eq_append_getElem h, List.map_append, List.getElem?_eq_getElem h]; rfl
/-- Aggregates that fit rows of n values. -/
def fitsA (gs : List Ag) (n : Nat) : Prop := ∀ a ∈ gs, a.1 = 1 ∨ (0 ≤ a.2 ∧ a.2 < n)
theorem fitsA_at {gs : List Ag} {n i : Nat} (h : fitsA gs n) (hi : i < gs.length) : (gs[i]?.getD ag0).1 = 1 ∨ (0 ≤ (gs[i]?.getD ag0).2 ∧ (gs[i]?.getD ag0).2 < n) := by
  rw [List.getElem?_eq_getElem hi]; exact h _ (List.getElem_mem hi)

def ToldPost (w : World) (ys : List Val) (e : Ending) (w' : World) : Prop := ∃ v, e = .returned v ∧ OwnsV w' w.heap.size v ys ∧ Below w.heap.size w w'

set_option maxRecDepth 100000 in
set_option maxHeartbeats 4000000 in
theorem told_v (p q : Option Addr) (rs : List ItR) (c : Nat) (gs : List Ag) (gc n : Nat) (hm : rs.length ≤ 400) (hgm : gs.length ≤ 1000) (hf : fitsA gs n) (hr : ∀ r ∈ rs, r.1.2.1.length = n) (hv : ∀ r ∈ rs, validRow r.1.2.1 = true) (w : World) (hX : ItemsIn w p rs) (hG : AggsIn w q gs) :
    Calls Tryz.prog 45 #[.slice p rs.length c, .slice q gs.length gc] w (ToldPost w (toldV gs (vals rs))) := by
  obtain ⟨i0, hi, hz0, hz1, hz2⟩ := info_parts infoV
  have HX := Lib.hid hX
  have HG := Lib.hid hG
  have HF := Lib.hid hf
  have HR := Lib.hid (And.intro hr hv)
  clear hX hG hf hr hv
  go_enter Tryz.func45, Tryz.ntmps45
  go_wp2_with (at_make; refine wpList_make_full _ rfl _ _ 34 rfl w.heap.size 55 i0 (.agg #[.int .i64 0, .int .i64 0, .string ⟨#[]⟩]) 3 Tryz.underlying34 hi hz0 hz1 .i64 .i64 _ _ gs.length rfl rfl rfl rfl (by rw [hz2]; omega) (by unfold maxLen; omega) (Nat.le_refl _) ?_; intro w1 hrow1 hg1)
  have hB1 : Below w.heap.size w w1 := (Below.refl _ _).grown hg1 (Nat.le_refl _) (fun k e => by cases e)
  go_loopw [16] (fun s wr => ∃ (i : Nat) (L : List Value), s = .int .i64 i ∧ i ≤ gs.length ∧ wr.ownsRow w.heap.size 55 3 (.slice (some ⟨w.heap.size, 0, none⟩) gs.length gs.length) gs.length L ∧ Hid (L.take (i * 3) = flatV (toldV (gs.take i) (vals rs))) ∧ Below w.heap.size w wr) (fun s _ => gs.length - (intOf s).toNat)
  case atStart => exact ⟨0, _, rfl, Nat.zero_le _, hrow1, by simp [Hid, toldV, flatV], hB1⟩
  case round =>
    clear hrow1 hg1 hB1
    obtain ⟨wm, rfl⟩ : ∃ wm : World, wm = wr := ⟨_, rfl⟩
    obtain ⟨i, L, rfl, hin, hrow, hL, hB⟩ := hrel
    have hBs := hB.size
    by_cases hlt : i < gs.length
    · obtain ⟨b, off, rfl, hbl, hra⟩ := HG.out (by omega)
      obtain ⟨g0, g1⟩ := (hra.belowV hB hbl) i hlt
      have hi0 : (0 : Int) ≤ (i : Int) := by omega
      have hi1 : (i : Int) < (gs.length : Int) := by omega
      have hnx := toldV_next (l := vals rs) hlt
      have hfa := fitsA_at HF.out hlt
      clear hra
      generalize gs[i]?.getD ag0 = a at g0 g1 hnx hfa
      obtain ⟨k, m⟩ := a
      dsimp only at g0 g1 hnx hfa
      have HNX := Lib.hid hnx
      have HFA := Lib.hid hfa
      have HROW := Lib.hid hrow
      have HBG := Lib.hid (begun_any k (wm.alloc (.cells #[.int .i64 k, .int .i64 m] 59)))
      have K7 := Blk.new wm 59 #[.int .i64 k, .int .i64 m]
      have a0 := K7.cell 0
      have a1 := K7.cell 1
      simp only [List.getElem?_toArray, List.getElem?_cons_zero, List.getElem?_cons_succ] at a0 a1
      have HK7 := Lib.hid K7
      have hz : (wm.alloc (.cells #[.int .i64 k, .int .i64 m] 59)).heap.size = wm.heap.size + 1 := by simp
      unfold BegunPost at HBG
      rw [hz] at HBG
      have HZ := Lib.hid hz
      have HB7 := Lib.hid (hB.alloc hBs (.cells #[.int .i64 k, .int .i64 m] 59))
      clear hnx hfa hrow K7 hz
      go_wp2_with fail
      refine HBG.out.mono ?_
      rintro e w2 ⟨rfl, hh2, hb2⟩
      have HH2 := Lib.hid hh2
      have HK8 := Lib.hid (HK7.out.belowV hb2 (by simp))
      have HB8 := Lib.hid (HB7.out.trans (hb2.mono (by have := HB7.out.size; rw [HZ.out] at this; omega)))
      have HB28 := Lib.hid ((below_new wm (.cells #[.int .i64 k, .int .i64 m] 59)).trans (hb2.mono (by omega)))
      have hB78 : wm.heap.size + 1 ≤ w2.heap.size := by have := hb2.size; rw [HZ.out] at this; exact this
      clear hh2 hb2 a0 a1
      go_wp2_with fail
      --INNER
      have hfn := dispatch k (wm.heap.size + 1)
      have hna := hfn.na
      have hmt := hfn.mt
      have hct := hfn.ct
      have hml := hfn.ml
      have hcl := hfn.cl
      clear hfn
      go_loopw [26] (fun s wi => ∃ j : Nat, s = .int .i64 j ∧ j ≤ rs.length ∧ Hid (HoldsA wi (wm.heap.size + 1) k (took (k, m) ((vals rs).take j))) ∧ Hid (Grew w2 (wm.heap.size + 1) wi)) (fun s _ => rs.length - (intOf s).toNat)
      case atStart => exact ⟨0, rfl, Nat.zero_le _, HH2.out, grew_refl _ _⟩
      case round =>
        obtain ⟨j, rfl, hj, hHo, hGr⟩ := hrel
        have hBi : Below w.heap.size w wr := HB8.out.trans (hGr.out.toBelow (by omega) HB8.out.size)
        have hws := hGr.out.size
        have hlt2 := HH2.out.lt
        by_cases hjl : j < rs.length
        · obtain ⟨b2, off2, rfl, hbl2, hra2⟩ := HX.out (by omega)
          obtain ⟨c0, c1, c2, c3⟩ := (hra2.belowV hBi hbl2) j hjl
          have hj0 : (0 : Int) ≤ (j : Int) := by omega
          have hj1 : (j : Int) < (rs.length : Int) := by omega
          have hrl := HR.out.1 (rs[j]?.getD ir0) (by rw [List.getElem?_eq_getElem hjl]; exact List.getElem_mem hjl)
          have hrv := HR.out.2 (rs[j]?.getD ir0) (by rw [List.getElem?_eq_getElem hjl]; exact List.getElem_mem hjl)
          have hnx2 := took_next (a := (k, m)) (l := vals rs) (j := j) (by rw [vals_len]; exact hjl)
          rw [vals_get] at hnx2
          clear hra2
          generalize rs[j]?.getD ir0 = x at c0 c1 c2 c3 hrl hrv hnx2
          obtain ⟨⟨xq, xs, xc⟩, xn⟩ := x
          dsimp only [rowv, itv] at c0 c1 c2 c3 hrl hrv hnx2
          have hKb := Blk.new wr 53 #[.slice xq xs.length xc, .int .i64 xn]
          have hK7 := (HK8.out.keepG hGr.out (by simp)).allocG (.cells #[.slice xq xs.length xc, .int .i64 xn] 53)
          have hHo2 := hHo.out.belowV (below_new wr (.cells #[.slice xq xs.length xc, .int .i64 xn] 53))
          have hGr2 := hGr.out.new (.cells #[.slice xq xs.length xc, .int .i64 xn] 53)
          have hR2 := c2.belowV (below_new wr (.cells #[.slice xq xs.length xc, .int .i64 xn] 53))
          have HNX2 := Lib.hid hnx2
          have HRV := Lib.hid (And.intro hrl hrv)
          clear c2 c3 hnx2 hrl hrv
          go_wp2_with fail
          generalize wr.alloc (.cells #[.slice xq xs.length xc, .int .i64 xn] 53) = W0 at *
          have HS := Lib.hid (show ∀ w', Grew W0 (wm.heap.size + 1) w' → Grew W0 (wm.heap.size + 1) w' ∧ (w'.cell? ⟨wr.heap.size, 0, none⟩ = some (.slice xq xs.length xc) ∧ w'.cell? ⟨wr.heap.size, 1, none⟩ = some (.int .i64 xn)) ∧ (w'.cell? ⟨wm.heap.size, 0, none⟩ = some (.int .i64 k) ∧ w'.cell? ⟨wm.heap.size, 1, none⟩ = some (.int .i64 m)) from fun w' hg => ⟨hg, ⟨(hKb.keepG hg (by simp <;> omega)).cell 0, (hKb.keepG hg (by simp <;> omega)).cell 1⟩, (hK7.keepG hg (by simp)).cell 0, (hK7.keepG hg (by simp)).cell 1⟩)
          have HHO := Lib.hid hHo2
          have HGR := Lib.hid hGr2
          have HV := Lib.hid fun W (h : Below W0.heap.size W0 W) => valueOf_any xq xs xc (k, m) hR2.1 W (hR2.belowV h).2 (by rw [HRV.out.1]; exact HFA.out)
          clear hHo hHo2 hGr hGr2 hKb hK7 hR2 c0 c1
          refine wp_region_held_drew (S := fun w' : World => Grew W0 (wm.heap.size + 1) w' ∧ (w'.cell? ⟨wr.heap.size, 0, none⟩ = some (.slice xq xs.length xc) ∧ w'.cell? ⟨wr.heap.size, 1, none⟩ = some (.int .i64 xn)) ∧ (w'.cell? ⟨wm.heap.size, 0, none⟩ = some (.int .i64 k) ∧ w'.cell? ⟨wm.heap.size, 1, none⟩ = some (.int .i64 m))) (by kernel_rfl) (HS.out _ (grew_refl _ _).drewG) (fun hHeld => ?_)
          refine wpAnyH_take (i := 0) (oi := _) (v := ?_) rfl (by kernel_rfl) (by kernel_rfl) (by kernel_rfl) (fun _ _ _ h => h) (Or.inl ⟨by rfl, ?_⟩) (by assumption) ?_
          rotate_left
          · intro w hSw
            try dsimp only at hSw
            go_simp
            all_goals with_reducible rfl
          simp only [List.getElem_toArray, List.getElem_cons_succ, List.getElem_cons_zero, Act.put, List.setIfInBounds_toArray, List.set_cons_zero, List.set_cons_succ]
          refine wpAnyH_take (i := 1) (oi := _) (v := ?_) rfl (by kernel_rfl) (by kernel_rfl) (by kernel_rfl) (fun _ _ _ h => h) (Or.inl ⟨by rfl, ?_⟩) (by assumption) ?_
          rotate_left
          · intro w hSw
            try dsimp only at hSw
            go_simp
            all_goals with_reducible rfl
          simp only [List.getElem_toArray, List.getElem_cons_succ, List.getElem_cons_zero, Act.put, List.setIfInBounds_toArray, List.set_cons_zero, List.set_cons_succ]
          refine wpAnyH_take (i := 2) (oi := _) (v := ?_) rfl (by kernel_rfl) (by kernel_rfl) (by kernel_rfl) (fun _ _ _ h => h) (Or.inl ⟨by rfl, ?_⟩) (by assumption) ?_
          rotate_left
          · intro w hSw
            try dsimp only at hSw
            go_simp
            all_goals with_reducible rfl
          simp only [List.getElem_toArray, List.getElem_cons_succ, List.getElem_cons_zero, Act.put, List.setIfInBounds_toArray, List.set_cons_zero, List.set_cons_succ]
          refine wpAnyH_take (i := 3) (oi := _) (v := ?_) rfl (by kernel_rfl) (by kernel_rfl) (by kernel_rfl) (fun _ _ _ h => h) (Or.inl ⟨by rfl, ?_⟩) (by assumption) ?_
          rotate_left
          · intro w hSw
            try dsimp only at hSw
            go_simp
            all_goals with_reducible rfl
          simp only [List.getElem_toArray, List.getElem_cons_succ, List.getElem_cons_zero, Act.put, List.setIfInBounds_toArray, List.set_cons_zero, List.set_cons_succ]
          refine wpAnyH_take (i := 5) (oi := _) (v := ?_) rfl (by kernel_rfl) (by kernel_rfl) (by kernel_rfl) (fun _ _ _ h => h) (Or.inl ⟨by rfl, ?_⟩) (by assumption) ?_
          rotate_left
          · intro w hSw
            try dsimp only at hSw
            go_simp
            all_goals with_reducible rfl
          simp only [List.getElem_toArray, List.getElem_cons_succ, List.getElem_cons_zero, Act.put, List.setIfInBounds_toArray, List.set_cons_zero, List.set_cons_succ]
          refine wpAnyH_take (i := 6) (oi := _) (v := ?_) rfl (by kernel_rfl) (by kernel_rfl) (by kernel_rfl) (fun _ _ _ h => h) (Or.inl ⟨by rfl, ?_⟩) (by assumption) ?_
          rotate_left
          · intro w hSw
            try dsimp only at hSw
            go_simp
            all_goals with_reducible rfl
          simp only [List.getElem_toArray, List.getElem_cons_succ, List.getElem_cons_zero, Act.put, List.setIfInBounds_toArray, List.set_cons_zero, List.set_cons_succ]
          refine wpAnyH_take (i := 7) (oi := _) (v := ?_) rfl (by kernel_rfl) (by kernel_rfl) (by kernel_rfl) (fun _ _ _ h => h) (Or.inl ⟨by rfl, ?_⟩) (by assumption) ?_
          rotate_left
          · intro w hSw
            try dsimp only at hSw
            go_simp
            all_goals with_reducible rfl
          simp only [List.getElem_toArray, List.getElem_cons_succ, List.getElem_cons_zero, Act.put, List.setIfInBounds_toArray, List.set_cons_zero, List.set_cons_succ]
          refine wpAnyH_take (i := 8) (oi := _) (v := ?_) rfl (by kernel_rfl) (by kernel_rfl) (by kernel_rfl) (fun _ _ _ h => h) (Or.inl ⟨by rfl, ?_⟩) (by assumption) ?_
          rotate_left
          · intro w hSw
            try dsimp only at hSw
            go_simp
            all_goals with_reducible rfl
          simp only [List.getElem_toArray, List.getElem_cons_succ, List.getElem_cons_zero, Act.put, List.setIfInBounds_toArray, List.set_cons_zero, List.set_cons_succ]
          refine wpAnyH_take (i := 9) (oi := _) (v := ?_) rfl (by kernel_rfl) (by kernel_rfl) (by kernel_rfl) (fun _ _ _ h => h) (Or.inl ⟨by rfl, ?_⟩) (by assumption) ?_
          rotate_left
          · intro w hSw
            try dsimp only at hSw
            go_simp
            all_goals with_reducible rfl
          simp only [List.getElem_toArray, List.getElem_cons_succ, List.getElem_cons_zero, Act.put, List.setIfInBounds_toArray, List.set_cons_zero, List.set_cons_succ]
          refine wpAnyH_ready (rs := [4]) (by kernel_rfl) (by simp) ?_
          refine AllReadyH.cons (o := _) rfl (fun K hK => ?_) AllReadyH.nil
          go_simp
          refine (HV.out W0.drew (Below.refl _ _).drew).mono ?_
          rintro e u1 ⟨rfl, kb1⟩
          refine hK.out _ _ (HS.out _ ((grew_refl W0 _).drewG.belowG kb1)) (fun hHeld1 => ?_)
          have HH1 := Lib.hid ((HHO.out.belowV (Below.refl _ _).drew).belowV kb1)
          have HG1 := Lib.hid (HGR.out.drewG.belowG kb1)
          clear hHeld kb1
          clear hK K
          try simp only [List.getElem_toArray, List.getElem_cons_succ, List.getElem_cons_zero, Act.put, List.setIfInBounds_toArray, List.set_cons_zero, List.set_cons_succ]
          refine wpAnyH_ready (rs := [10]) (by kernel_rfl) (by simp) ?_
          refine AllReadyH.cons (o := _) rfl (fun K hK => ?_) AllReadyH.nil
          go_simp
          refine (take_any (wm.heap.size + 1) k (took (k, m) ((vals rs).take j)) (valOf xs (k, m)) xn u1 HH1.out (valOf_valid HRV.out.2 (by rw [HRV.out.1]; exact HFA.out)) (by unfold took maxLen; rw [List.length_map, List.length_take]; omega)).mono ?_
          rintro e u2 ⟨rfl, kg2, kh2⟩
          refine hK.out _ _ (HS.out _ (hHeld1.1.andG kg2)) (fun hHeld2 => ?_)
          have HFI := Lib.hid (show HoldsA u2 (wm.heap.size + 1) k (took (k, m) ((vals rs).take (j + 1))) ∧ Grew w2 (wm.heap.size + 1) u2 from ⟨by rw [HNX2.out]; exact kh2, HG1.out.andG kg2⟩)
          clear hHeld1 hHeld2 kg2 kh2
          clear hK K
          try simp only [List.getElem_toArray, List.getElem_cons_succ, List.getElem_cons_zero, Act.put, List.setIfInBounds_toArray, List.set_cons_zero, List.set_cons_succ]
          refine wpAnyH_done (by kernel_rfl) ?_ _
          clear hna hmt hct hml hcl
          go_wp2_with fail
          go_roundw
          case rel => exact ⟨j + 1, by go_num, by omega, HFI.out.1, HFI.out.2⟩
          case measure => simp [RowKit.intOf]; omega
        · have hje : rs.length ≤ j := by omega
          have HHF := Lib.hid (show HoldsA wr (wm.heap.size + 1) k (took (k, m) (vals rs)) by
            have := hHo.out
            rwa [show j = (vals rs).length by rw [vals_len]; omega, List.take_length] at this)
          have HTL := Lib.hid (tell_any (wm.heap.size + 1) k (took (k, m) (vals rs)) wr HHF.out)
          have HBI := Lib.hid hBi
          clear hHo
          go_wp2_with fail
          refine HTL.out.mono ?_
          rintro e w3 ⟨rfl, hb3⟩
          have hbm : Below wm.heap.size wm w3 := (HB28.out.trans (hGr.out.toBelow (by omega) HB28.out.size)).trans (hb3.mono (Nat.le_trans HB28.out.size hws))
          have hB3 : Below w.heap.size w w3 := HBI.out.trans (hb3.mono HBI.out.size)
          have hrow := owns_below HROW.out hbm
          have HNX3 := Lib.hid HNX.out
          generalize tellK k (took (k, m) (vals rs)) = x at HNX3 ⊢
          obtain ⟨x0, x1, x2⟩ := x
          have hLl : L.length = gs.length * 3 := hrow.1
          obtain ⟨u0, e0⟩ : ∃ u, w3.cell? ⟨w.heap.size, i * 3, none⟩ = some u := ⟨_, (hrow.cellAt (i * 3) (by omega)).trans (List.getElem?_eq_getElem (by omega))⟩
          obtain ⟨u1, e1⟩ : ∃ u, w3.cell? ⟨w.heap.size, i * 3 + 1, none⟩ = some u := ⟨_, (hrow.cellAt (i * 3 + 1) (by omega)).trans (List.getElem?_eq_getElem (by omega))⟩
          obtain ⟨u2, e2⟩ : ∃ u, w3.cell? ⟨w.heap.size, i * 3 + 2, none⟩ = some u := ⟨_, (hrow.cellAt (i * 3 + 2) (by omega)).trans (List.getElem?_eq_getElem (by omega))⟩
          have f0 := hrow.frozenAt (i * 3)
          have f1 := hrow.frozenAt (i * 3 + 1)
          have f2 := hrow.frozenAt (i * 3 + 2)
          have hq := (((hrow.stored (i * 3) (.int .i64 x0)).1.stored (i * 3 + 1) (.int .i64 x1)).1.stored (i * 3 + 2) (.string x2)).1
          have hB5 : Below w.heap.size w (((w3.setCell ⟨w.heap.size, i * 3, none⟩ (.int .i64 x0)).setCell ⟨w.heap.size, i * 3 + 1, none⟩ (.int .i64 x1)).setCell ⟨w.heap.size, i * 3 + 2, none⟩ (.string x2)) := ((hB3.setCell (Nat.le_refl _) _).setCell (Nat.le_refl _) _).setCell (Nat.le_refl _) _
          have HT := Lib.hid (show (((L.set (i * 3) (.int .i64 x0)).set (i * 3 + 1) (.int .i64 x1)).set (i * 3 + 2) (.string x2)).take ((i + 1) * 3) = flatV (toldV (gs.take (i + 1)) (vals rs)) by
            rw [take_set3' hLl hlt, hL.out, HNX3.out, flatV_app]; simp [flatV, cellsV])
          have HQ := Lib.hid hq
          have HB5 := Lib.hid hB5
          clear hq hB5 hLl HNX3 hb3 hbm hrow HHF HTL HBI hB3 hna hmt hct hml hcl
          dsimp only [valA]
          go_wp2_with fail
          go_roundw
          case rel => exact ⟨i + 1, _, by go_num, by omega, HQ.out, HT.out, HB5.out⟩
          case measure => simp [RowKit.intOf]; omega
    · have hge : gs.length ≤ i := by omega
      have hie : i = gs.length := by omega
      have HF := Lib.hid (show OwnsV wm w.heap.size (.slice (some ⟨w.heap.size, 0, none⟩) gs.length gs.length) (toldV gs (vals rs)) by
        have h := hrow
        have e : L = flatV (toldV gs (vals rs)) := by
          have hLl : L.length = gs.length * 3 := hrow.1
          have := hL.out
          rw [hie, List.take_length, List.take_of_length_le (by omega)] at this
          exact this
        rw [e] at h
        unfold OwnsV
        rw [show (toldV gs (vals rs)).length = gs.length by simp [toldV]]
        exact h)
      clear hie hrow
      go_wp2_with fail
      go_ret
      exact ⟨_, rfl, HF.out, hB⟩
end Go.Proofs.YtfoknllnknjccaaGreat
