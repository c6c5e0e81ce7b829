/-
  The document's own Same at two bags that read as one list; Few.
-/
import Derived.Test.YtledgnolmiecfaaGreatDoorItem
import Derived.Test.YtledgnolmiecfaaGreatDoorSameR
namespace Go.Proofs.YtledgnolmiecfaaGreatDoor
open Go.RowKit
set_option linter.unusedSimpArgs false

set_option maxRecDepth 100000 in
set_option maxHeartbeats 1000000 in
theorem SameB_any (p q : Option Addr) (rs ss : List ItR) (c d : Nat) (hv : vals rs = vals ss) (hm : rs.length ≤ 9223372036854775807) (w : World) (hX : ItemsIn w p rs) (hZ : ItemsIn w q ss) :
    Calls Tryz.prog 10 #[.slice p rs.length c, .slice q ss.length d] w fun e w' => e = .returned (.bool true) ∧ Below w.heap.size w w' := by
  have hl : ss.length = rs.length := by rw [← vals_len, ← hv, vals_len]
  have HX := Lib.hid hX
  have HZ := Lib.hid hZ
  have HV := Lib.hid hv
  have HSS := Lib.hid hl
  rw [hl]
  clear hX hZ hv hl
  go_enter Tryz.func10, Tryz.ntmps10
  go_wp2_with fail
  go_loopw [5] (fun s wr => ∃ i : Nat, i ≤ rs.length ∧ s = .int .i64 i ∧ Below w.heap.size w wr) (fun s _ => rs.length - (intOf s).toNat)
  case atStart => exact ⟨0, Nat.zero_le _, rfl, Below.refl _ _⟩
  case round =>
    obtain ⟨i, hi, rfl, hB⟩ := hrel
    by_cases hlt : i < rs.length
    · obtain ⟨b, off, rfl, hbl, hra⟩ := HX.out (by omega)
      obtain ⟨b2, off2, rfl, hbl2, hra2⟩ := HZ.out (by rw [HSS.out]; omega)
      obtain ⟨c0, c1, c2, _⟩ := (hra.belowV hB hbl) i hlt
      obtain ⟨d0, d1, d2, _⟩ := (hra2.belowV hB hbl2) i (by rw [HSS.out]; exact hlt)
      have he : itv (rs[i]?.getD ir0) = itv (ss[i]?.getD ir0) := by rw [← vals_get, ← vals_get, HV.out]
      have hi0 : (0 : Int) ≤ (i : Int) := by omega
      have hi1 : (i : Int) < (rs.length : Int) := by omega
      clear hra hra2
      generalize (rs[i]?.getD ir0) = x at *
      generalize (ss[i]?.getD ir0) = y at *
      obtain ⟨⟨xq, xs, xc⟩, xn⟩ := x
      obtain ⟨⟨yq, ys, yc⟩, yn⟩ := y
      simp only [itv, Prod.mk.injEq] at he
      obtain ⟨rfl, rfl⟩ := he
      dsimp only [rowv] at *
      have HC := Lib.hid fun W (h : Below wr.heap.size wr W) => Same_any xq yq xs xc yc xs.length rfl c2.1 W (c2.belowV h).2 (d2.belowV h).2
      clear c2 d2
      go_wp2_with fail
      go_still_tail 22, (by kernel_rfl)
      have hB2 : Below w.heap.size w wr.drew := hB.drew
      have hB3 : Below wr.heap.size wr wr.drew := (Below.refl _ _).drew
      clear c0 c1 d0 d1
      change wpList _ _ _ _ _ wr.drew
      generalize wr.drew = W7 at hB2 hB3 ⊢
      go_wp2_with fail
      refine (HC.out _ hB3).mono ?_
      rintro e w3 ⟨rfl, hb3⟩
      go_wp2_with fail
      go_roundw
      case rel => exact ⟨i + 1, by omega, by go_num, hB2.trans (hb3.mono hB2.size)⟩
      case measure => simp [intOf]; omega
    · have hge : rs.length ≤ i := by omega
      go_wp2_with fail
      go_ret
      exact ⟨rfl, hB⟩

/-- A bag's slice: its address, its items, its capacity. -/
abbrev BagV := Option Addr × List ItR × Nat
def bagv (b : BagV) : Value := .slice b.1 b.2.1.length b.2.2
abbrev b0 : BagV := (none, [], 0)
def BagOK (W : World) (b : BagV) : Prop := b.2.1.length ≤ 9223372036854775807 ∧ b.2.1.length ≤ b.2.2 ∧ ItemsIn W b.1 b.2.1
theorem BagOK.belowV {W W' : World} {b : BagV} (h : BagOK W b) (hb : Below W.heap.size W W') : BagOK W' b := ⟨h.1, h.2.1, h.2.2.belowV hb⟩
def FewPost (w : World) (bs : List BagV) (e : Ending) (w' : World) : Prop := (e = .returned (.bool false) ∨ (e = .returned (.bool true) ∧ ∀ b ∈ bs, b.2.1.length ≤ 60)) ∧ Below w.heap.size w w'

set_option maxRecDepth 100000 in
set_option maxHeartbeats 1000000 in
theorem Few_any (B : Nat) (bs : List BagV) (hm : bs.length ≤ 100) (w : World) (hB : B < w.heap.size) (hX : ∀ i, i < bs.length → w.cell? ⟨B, i, none⟩ = some (bagv (bs[i]?.getD b0))) (hO : ∀ b ∈ bs, BagOK w b) :
    Calls Tryz.prog 4 #[.slice (some ⟨B, 0, none⟩) bs.length bs.length] w (FewPost w bs) := by
  have HX := Lib.hid hX
  have HO := Lib.hid hO
  clear hX hO
  go_enter Tryz.func4, Tryz.ntmps4
  go_wp2_with fail
  go_loopw [3, 4] (fun s _ wr => ∃ i : Nat, s = .int .i64 i ∧ i ≤ bs.length ∧ Hid (∀ k, k < i → (bs[k]?.getD b0).2.1.length ≤ 60) ∧ Below w.heap.size w wr) (fun s _ _ => bs.length - (intOf s).toNat)
  case atStart => exact ⟨0, rfl, Nat.zero_le _, (fun k hk => absurd hk (Nat.not_lt_zero _)), Below.refl _ _⟩
  case round =>
    obtain ⟨i, rfl, hi, hall, hBw⟩ := hrel
    obtain ⟨wo, hwo⟩ : ∃ wo : World, wo = wr := ⟨_, rfl⟩
    subst hwo
    by_cases hlt : i < bs.length
    · have c0 := (hBw.cell (p := ⟨B, i, none⟩) hB).trans (HX.out i hlt)
      have hmem : bs[i]?.getD b0 ∈ bs := by rw [List.getElem?_eq_getElem hlt]; exact List.getElem_mem hlt
      have hok := HO.out _ hmem
      have hi0 : (0 : Int) ≤ (i : Int) := by omega
      have hi1 : (i : Int) < (bs.length : Int) := by omega
      have hcell := Lib.hid (HX.out i hlt)
      obtain ⟨x, hx⟩ : ∃ x, bs[i]?.getD b0 = x := ⟨_, rfl⟩
      rw [hx] at c0 hok hcell
      have HXE := Lib.hid hx
      have HOK := Lib.hid hok
      clear hmem hok hx
      obtain ⟨p, rs, cap⟩ := x
      dsimp only [bagv] at *
      have hrm : rs.length ≤ 9223372036854775807 := HOK.out.1
      go_wp2_with fail
      go_loopw [4] (fun s wr => ∃ k : Nat, s = .int .i64 k ∧ k ≤ rs.length ∧ Below w.heap.size w wr) (fun s _ => rs.length - (intOf s).toNat)
      case atStart => exact ⟨0, rfl, Nat.zero_le _, hBw⟩
      case round =>
        clear c0 hBw
        obtain ⟨k, rfl, hk, hBw⟩ := hrel
        have c0 := (hBw.cell (p := ⟨B, i, none⟩) hB).trans hcell.out
        by_cases hkl : k < rs.length
        · obtain ⟨b, off, rfl, hbl, hra⟩ := HOK.out.2.2 (show 0 < rs.length by omega)
          obtain ⟨d0, _, d2, _⟩ := (hra.belowV hBw hbl) k hkl
          have hk0 : (0 : Int) ≤ (k : Int) := by omega
          have hk1 : (k : Int) < (rs.length : Int) := by omega
          clear hra
          generalize rs[k]?.getD ir0 = r at d0 d2
          obtain ⟨⟨q, xs, qc⟩, n⟩ := r
          dsimp only [rowv] at *
          have hbA : Below wr.heap.size wr (wr.alloc (.cells #[.slice q xs.length qc] 36)) := (Below.refl _ _).alloc (Nat.le_refl _) _
          have HL := Lib.hid (Long_any (some ⟨wr.heap.size, 0, none⟩) [(q, xs, qc)] 1 (by simp) (wr.alloc (.cells #[.slice q xs.length qc] 36)) (fun _ => ⟨wr.heap.size, 0, rfl, by simp, fun j hj => by
            have hj0 : j = 0 := by simp at hj; omega
            subst hj0
            exact ⟨(Blk.new wr 36 #[.slice q xs.length qc]).cell 0, d2.1, (d2.belowV hbA).2⟩⟩))
          have hBs := hBw.size
          have hBA : Below w.heap.size w (wr.alloc (.cells #[.slice q xs.length qc] 36)) := hBw.trans (hbA.mono hBs)
          clear d2
          go_wp2_with fail
          refine HL.out.mono ?_
          rintro e w1 ⟨bl, rfl, rfl⟩
          cases bl with
          | true =>
            go_wp2_with fail
            go_ret
            exact ⟨.inl rfl, hBA⟩
          | false =>
            go_wp2_with fail
            go_roundw
            case rel => exact ⟨k + 1, by go_num, by omega, hBA⟩
            case measure => simp [intOf]; omega
        · have hge : (rs.length : Int) ≤ (k : Int) := by omega
          by_cases h60 : rs.length ≤ 60
          · have h60' : (rs.length : Int) ≤ 60 := by omega
            have HN := Lib.hid (show ∀ j, j < i + 1 → (bs[j]?.getD b0).2.1.length ≤ 60 from fun j hj => by
              by_cases e : j = i
              · subst e; rw [HXE.out]; exact h60
              · exact hall.out j (by omega))
            go_wp2_with fail
            go_roundw
            case rel => exact ⟨i + 1, by go_num, by omega, HN.out, hBw⟩
            case measure => simp [intOf]; omega
          · have h60' : (60 : Int) < (rs.length : Int) := by omega
            go_wp2_with fail
            go_ret
            exact ⟨.inl rfl, hBw⟩
    · have hge : (bs.length : Int) ≤ (i : Int) := by omega
      have HALL := Lib.hid (show ∀ b ∈ bs, b.2.1.length ≤ 60 from fun b hb => by
        obtain ⟨k, hk, rfl⟩ := List.getElem_of_mem hb
        have := hall.out k (by omega)
        rw [List.getElem?_eq_getElem hk] at this
        exact this)
      go_wp2_with fail
      go_ret
      exact ⟨.inr ⟨rfl, HALL.out⟩, hBw⟩
end Go.Proofs.YtledgnolmiecfaaGreatDoor
