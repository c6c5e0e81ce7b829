/-
  Kinds of the document, as a contract.
-/
import Derived.Test.YtkldokmmboebmaaKinds
namespace Go.Proofs.Ytkldokmmboebmaa
open Go.RowKit

set_option maxRecDepth 100000 in
set_option maxHeartbeats 4000000 in
theorem refKinds_any (p q : Option Addr) (l : List Col) (gs : List Ag) (c d : Nat) (hcl : l.length ≤ c) (hc : c ≤ 9223372036854775807) (hl : l.length ≤ 1000) (hg : gs.length ≤ 1000) (hsz : ∀ j, (colAt l j).1.size ≤ maxLen) (w : World) (hX : ColsIn w p l) (hG : AggsIn w q gs) :
    Calls Try.prog 9 #[.slice p l.length c, .slice q gs.length d] w (KPost w (kVal l gs) (kErr l gs)) := by
  have h1 := refSchema_any p l c hcl (by omega) hc hsz w hX
  have h2 := fun W (h : Below w.heap.size w W) => refValidL_any q gs d l.length (by omega) W (hG.belowV h)
  obtain ⟨i0, hi, hz0, hz1, hz2⟩ := info_parts infoN
  cases q1 : schemaOK l with
  | false =>
    have e1 : kErr l gs = 1 := by unfold kErr; rw [q1, if_neg (by rintro ⟨h, _⟩; cases h)]
    have e2 : kVal l gs = [] := by unfold kVal; rw [e1]; rfl
    rw [e1, e2]
    rw [q1] at h1
    have H1 := Lib.hid h1
    clear h1 h2 hX hG q1 e1 e2
    go_enter Try.func9, Try.ntmps9
    go_wp2_with fail
    refine H1.out.mono ?_
    rintro e w1 ⟨rfl, hb1⟩
    go_wp2_with fail
    go_ret2
    exact kPost_nil hb1
  | true =>
    cases q2 : validL l.length gs with
    | false =>
      have e1 : kErr l gs = 1 := by unfold kErr; rw [q2, if_neg (by rintro ⟨_, h⟩; cases h)]
      have e2 : kVal l gs = [] := by unfold kVal; rw [e1]; rfl
      rw [e1, e2]
      rw [q1] at h1
      rw [q2] at h2
      have H1 := Lib.hid h1
      have H2 := Lib.hid h2
      clear h1 h2 hX hG q1 q2 e1 e2
      go_enter Try.func9, Try.ntmps9
      go_wp2_with fail
      refine H1.out.mono ?_
      rintro e w1 ⟨rfl, hb1⟩
      go_wp2_with fail
      refine (H2.out w1 hb1).mono ?_
      rintro e w2 ⟨rfl, hb2⟩
      go_wp2_with fail
      go_ret2
      exact kPost_nil (hb1.trans (hb2.mono hb1.size))
    | true =>
      have HER := Lib.hid (show (kindsOK l gs = false → kErr l gs = 11 ∧ kVal l gs = []) ∧ (kindsOK l gs = true → kErr l gs = 0 ∧ kVal l gs = kindsV l gs) from by
        constructor
        · intro h
          have e1 : kErr l gs = 11 := by unfold kErr; rw [if_pos ⟨q1, q2⟩, h]; rfl
          exact ⟨e1, by unfold kVal; rw [e1]; rfl⟩
        · intro h
          have e1 : kErr l gs = 0 := by unfold kErr; rw [if_pos ⟨q1, q2⟩, h]; rfl
          exact ⟨e1, by unfold kVal; rw [e1, if_pos rfl]⟩)
      have HCOL := Lib.hid fun i (hi : i < gs.length) => agg_col q1 q2 hi
      have HCK := Lib.hid fun j (hj : j < l.length) => col_kind q1 hj
      generalize kErr l gs = ke at HER ⊢
      generalize kVal l gs = kv at HER ⊢
      rw [q1] at h1
      rw [q2] at h2
      have H1 := Lib.hid h1
      have H2 := Lib.hid h2
      have HX := Lib.hid hX
      have HG := Lib.hid hG
      clear h1 h2 hX hG q1 q2
      go_enter Try.func9, Try.ntmps9
      go_wp2_with fail
      refine H1.out.mono ?_
      rintro e w1 ⟨rfl, hb1⟩
      go_wp2_with fail
      refine (H2.out w1 hb1).mono ?_
      rintro e w2 ⟨rfl, hb2⟩
      have hB2 := hb1.trans (hb2.mono hb1.size)
      have HB2S := Lib.hid hB2.size
      clear hb1 hb2 H1 H2
      go_wp2_with fail
      go_loopw [6, 7] (fun o s wr => ∃ (i : Nat) (p' : Option Addr) (c' : Nat), o = .slice p' i c' ∧ s = .int .i64 i ∧ i ≤ gs.length ∧ wr.ownsRow w2.heap.size 3 1 (.slice p' i c') i (flatN (kindsV l (gs.take i))) ∧ Hid (∀ j, j < i → (kdAt l (gs[j]?.getD ag0)).2 = true) ∧ Below w.heap.size w wr ∧ w2.heap.size ≤ wr.heap.size) (fun _ s _ => gs.length - (intOf s).toNat)
      case atStart => exact ⟨0, none, 0, rfl, rfl, Nat.zero_le _, (by simpa [kindsV, flatN] using World.ownsRow_nil w2 w2.heap.size 3 1), (fun j hj => absurd hj (by omega)), hB2, Nat.le_refl _⟩
      case round =>
        clear hB2
        obtain ⟨i, p', c', rfl, rfl, hin, hrow, hOK, hB, h2s⟩ := hrel
        have hBs := hB.size
        by_cases hlt : i < gs.length
        · obtain ⟨b, off, rfl, hbl, hra⟩ := HG.out (by omega)
          obtain ⟨g0, g1⟩ := (hra.belowV hB hbl) i hlt
          have hi0 : (0 : Int) ≤ (i : Int) := by omega
          have hi1 : (i : Int) < (gs.length : Int) := by omega
          have hnx := kindsV_next (l := l) hlt
          have hno := fun h => kinds_no (l := l) hlt h
          have hcol := HCOL.out i hlt
          clear hra
          generalize hga : gs[i]?.getD ag0 = a at g0 g1 hnx hno hcol
          obtain ⟨k, m⟩ := a
          dsimp only at g0 g1 hcol
          obtain ⟨j, rfl⟩ : ∃ j : Nat, m = (j : Int) := Int.eq_ofNat_of_zero_le hcol.1
          have hjl : j < l.length := by omega
          obtain ⟨bs, offs, rfl, hbls, hras⟩ := HX.out (by omega)
          obtain ⟨_, k1⟩ := (hras.belowV hB hbls) j hjl
          have hkd : kdAt l (k, (j : Int)) = toldK2 k (colAt l j).2 := rfl
          rw [hkd] at hnx hno
          have hOK2 : (toldK2 k (colAt l j).2).2 = true → ∀ j', j' < i + 1 → (kdAt l (gs[j']?.getD ag0)).2 = true := fun h j' hj' => by
            by_cases e : j' = i
            · rw [e, hga]; exact h
            · exact hOK.out j' (by omega)
          obtain ⟨hj0, hj1⟩ := hcol
          have hck := HCK.out j hjl
          clear hras hga hkd hOK
          generalize (colAt l j).2 = ck at k1 hnx hno hOK2 hck
          have HNX := Lib.hid hnx
          have HNO := Lib.hid hno
          have HOK2 := Lib.hid hOK2
          have HROW := Lib.hid hrow
          clear hnx hno hOK2 hrow
          by_cases h4 : k = 4 ∨ k = 5
          · have e : toldK2 k ck = (ck, true) := by unfold toldK2; rw [if_pos h4]
            rw [e] at HNX HNO HOK2
            have HOKN := Lib.hid (HOK2.out rfl)
            clear HNO HOK2 e hck
            rcases h4 with rfl | rfl
            · go_wp2_with (at_builtin; refine wpList_append_own _ rfl _ _ 29 rfl w2.heap.size 3 i0 (.int .i64 0) 1 8 Try.underlying29 hi hz0 hz1 hz2 rfl (by decide) _ _ _ rfl (HROW.out.alloc _) ⟨wr.heap.size, 0, none⟩ 1 1 [.int .i64 ck] rfl rfl (cells_new _ _ _) (by simp [Value.oneCell']) (by unfold maxLen; omega) (by omega) (by simp; omega) ?_; intro v' w5 hown' hgrow _)
              obtain ⟨p5, c5, rfl⟩ := slice_of_owns hown'
              have hB5 : Below w.heap.size w w5 := (hB.alloc hBs _).grown hgrow (by simp; omega) (fun b e => Nat.le_trans HB2S.out (HROW.out.lt b e).1)
              go_roundw
              case rel => exact ⟨i + 1, p5, c5, rfl, by go_num, by omega, (by have := hown'; rw [HNX.out]; simpa [flatN] using this), HOKN.out, hB5, by have := hgrow.size; simp at this; omega⟩
              case measure => simp [intOf]; omega
            · go_wp2_with (at_builtin; refine wpList_append_own _ rfl _ _ 29 rfl w2.heap.size 3 i0 (.int .i64 0) 1 8 Try.underlying29 hi hz0 hz1 hz2 rfl (by decide) _ _ _ rfl (HROW.out.alloc _) ⟨wr.heap.size, 0, none⟩ 1 1 [.int .i64 ck] rfl rfl (cells_new _ _ _) (by simp [Value.oneCell']) (by unfold maxLen; omega) (by omega) (by simp; omega) ?_; intro v' w5 hown' hgrow _)
              obtain ⟨p5, c5, rfl⟩ := slice_of_owns hown'
              have hB5 : Below w.heap.size w w5 := (hB.alloc hBs _).grown hgrow (by simp; omega) (fun b e => Nat.le_trans HB2S.out (HROW.out.lt b e).1)
              go_roundw
              case rel => exact ⟨i + 1, p5, c5, rfl, by go_num, by omega, (by have := hown'; rw [HNX.out]; simpa [flatN] using this), HOKN.out, hB5, by have := hgrow.size; simp at this; omega⟩
              case measure => simp [intOf]; omega
          · by_cases h3 : k = 3 ∨ k = 6
            · have e : toldK2 k ck = (1, ck == 1) := by unfold toldK2; rw [if_neg h4, if_pos h3]
              rw [e] at HNX HNO HOK2
              clear e h4
              rcases hck with rfl | rfl
              · have HOKN := Lib.hid (HOK2.out rfl)
                clear HNO HOK2
                rcases h3 with rfl | rfl
                · go_wp2_with (at_builtin; refine wpList_append_own _ rfl _ _ 29 rfl w2.heap.size 3 i0 (.int .i64 0) 1 8 Try.underlying29 hi hz0 hz1 hz2 rfl (by decide) _ _ _ rfl (HROW.out.alloc _) ⟨wr.heap.size, 0, none⟩ 1 1 [.int .i64 1] rfl rfl (cells_new _ _ _) (by simp [Value.oneCell']) (by unfold maxLen; omega) (by omega) (by simp; omega) ?_; intro v' w5 hown' hgrow _)
                  obtain ⟨p5, c5, rfl⟩ := slice_of_owns hown'
                  have hB5 : Below w.heap.size w w5 := (hB.alloc hBs _).grown hgrow (by simp; omega) (fun b e => Nat.le_trans HB2S.out (HROW.out.lt b e).1)
                  go_roundw
                  case rel => exact ⟨i + 1, p5, c5, rfl, by go_num, by omega, (by have := hown'; rw [HNX.out]; simpa [flatN] using this), HOKN.out, hB5, by have := hgrow.size; simp at this; omega⟩
                  case measure => simp [intOf]; omega
                · go_wp2_with (at_builtin; refine wpList_append_own _ rfl _ _ 29 rfl w2.heap.size 3 i0 (.int .i64 0) 1 8 Try.underlying29 hi hz0 hz1 hz2 rfl (by decide) _ _ _ rfl (HROW.out.alloc _) ⟨wr.heap.size, 0, none⟩ 1 1 [.int .i64 1] rfl rfl (cells_new _ _ _) (by simp [Value.oneCell']) (by unfold maxLen; omega) (by omega) (by simp; omega) ?_; intro v' w5 hown' hgrow _)
                  obtain ⟨p5, c5, rfl⟩ := slice_of_owns hown'
                  have hB5 : Below w.heap.size w w5 := (hB.alloc hBs _).grown hgrow (by simp; omega) (fun b e => Nat.le_trans HB2S.out (HROW.out.lt b e).1)
                  go_roundw
                  case rel => exact ⟨i + 1, p5, c5, rfl, by go_num, by omega, (by have := hown'; rw [HNX.out]; simpa [flatN] using this), HOKN.out, hB5, by have := hgrow.size; simp at this; omega⟩
                  case measure => simp [intOf]; omega
              · have HN := Lib.hid (HER.out.1 (HNO.out rfl))
                clear HNO HOK2
                rcases h3 with rfl | rfl
                · go_wp2_with fail
                  go_ret2
                  rw [HN.out.1, HN.out.2]
                  exact kPost_nil hB
                · go_wp2_with fail
                  go_ret2
                  rw [HN.out.1, HN.out.2]
                  exact kPost_nil hB
            · have e : toldK2 k ck = (1, true) := by unfold toldK2; rw [if_neg h4, if_neg h3]
              rw [e] at HNX HNO HOK2
              have HOKN := Lib.hid (HOK2.out rfl)
              have d3 : (k == 3) = false := by rw [beq_eq_false_iff_ne]; omega
              have d4 : (k == 4) = false := by rw [beq_eq_false_iff_ne]; omega
              have d5 : (k == 5) = false := by rw [beq_eq_false_iff_ne]; omega
              have d6 : (k == 6) = false := by rw [beq_eq_false_iff_ne]; omega
              clear HNO HOK2 e hck h3 h4
              go_wp2_with (at_builtin; refine wpList_append_own _ rfl _ _ 29 rfl w2.heap.size 3 i0 (.int .i64 0) 1 8 Try.underlying29 hi hz0 hz1 hz2 rfl (by decide) _ _ _ rfl (HROW.out.alloc _) ⟨wr.heap.size, 0, none⟩ 1 1 [.int .i64 1] rfl rfl (cells_new _ _ _) (by simp [Value.oneCell']) (by unfold maxLen; omega) (by omega) (by simp; omega) ?_; intro v' w5 hown' hgrow _)
              obtain ⟨p5, c5, rfl⟩ := slice_of_owns hown'
              have hB5 : Below w.heap.size w w5 := (hB.alloc hBs _).grown hgrow (by simp; omega) (fun b e => Nat.le_trans HB2S.out (HROW.out.lt b e).1)
              go_roundw
              case rel => exact ⟨i + 1, p5, c5, rfl, by go_num, by omega, (by have := hown'; rw [HNX.out]; simpa [flatN] using this), HOKN.out, hB5, by have := hgrow.size; simp at this; omega⟩
              case measure => simp [intOf]; omega
        · have hge : gs.length ≤ i := by omega
          obtain rfl : i = gs.length := by omega
          have hk := HER.out.2 (kinds_yes fun j hj => hOK.out j (by omega))
          have hF : wr.ownsRow w2.heap.size 3 1 (.slice p' gs.length c') gs.length (flatN (kindsV l gs)) := by
            rw [List.take_length] at hrow; exact hrow
          have HFI := Lib.hid (show ke = 0 ∧ gs.length = kv.length ∧ IntsIn wr p' kv from ⟨hk.1, by rw [hk.2]; simp [kindsV], by rw [hk.2]; exact intsIn_of_owns (by simp [kindsV]) hF⟩)
          clear hk hF hrow
          go_wp2_with fail
          go_ret2
          exact ⟨p', c', by rw [HFI.out.1, ← HFI.out.2.1] <;> rfl, HFI.out.2.2, hB⟩
end Go.Proofs.Ytkldokmmboebmaa
