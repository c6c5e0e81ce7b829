/-
  Several texts in one.
-/
import Derived.Test.YtledgnolmiecfaaGreatDoorBm
import Derived.Test.YtledgnolmiecfaaGreatDoorWs
import Derived.Test.YtledgnolmiecfaaGreatDoorRefV
import Derived.Test.YtledgnolmiecfaaGreatDoorRefText
import Derived.Deep.RegionHeld3
/-!
  Format of package bag, as a contract.
-/
namespace Go.Proofs.YtledgnolmiecfaaGreatDoor
open Go.RowKit
set_option linter.unusedSimpArgs false
set_option linter.unusedVariables false

def fmtB (l : List It) : List UInt8 := if validBag l then textB l else []
def IsB (W : World) (B b : Nat) (l : List UInt8) : Prop := Lib.IsBuilder 50 5 B b (Lib.byteCells l) W
theorem IsB.below {W W' : World} {B b : Nat} {l : List UInt8} (h : IsB W B b l) (k : Below W.heap.size W W') : IsB W' B b l := by
  have key : ∀ p, Lib.BuilderAt 50 5 B b p (Lib.byteCells l) W → Lib.BuilderAt 50 5 B b p (Lib.byteCells l) W' := by
    rintro p ⟨hB, v, hb, ho, hn⟩
    exact ⟨hB, v, (k.block b (Array.getElem?_eq_some_iff.1 hb).1).trans hb, owns_below ho k, hn⟩
  exact h.elim (fun x => .inl (key _ x)) (fun x => .inr (key _ x))
theorem textB_len {l : List It} (h : ∀ x ∈ l, itOK x = true) : (textB l).length ≤ 6460 * l.length := by
  induction l with
  | nil => exact Nat.zero_le _
  | cons x l ih =>
    have h1 := lineT_len (h x List.mem_cons_self)
    have h2 := ih fun y hy => h y (List.mem_cons_of_mem _ hy)
    have e : textB (x :: l) = lineT x ++ textB l := rfl
    rw [e, List.length_append, List.length_cons]
    omega
theorem ok_at {rs : List ItR} (hv : validBag (vals rs) = true) {i : Nat} (h : i < rs.length) : validRow (rs[i]?.getD ir0).1.2.1 = true ∧ inN (rs[i]?.getD ir0).2 := by
  have := (validBag_iff.1 hv).2.1 (itv rs[i]) (List.mem_map_of_mem (List.getElem_mem h))
  rw [List.getElem?_eq_getElem h]
  exact itOK_iff.1 this
theorem text_next {rs : List ItR} {i : Nat} (h : i < rs.length) : textB ((vals rs).take (i + 1)) = textB ((vals rs).take i) ++ lineT (itv (rs[i]?.getD ir0)) := by
  rw [List.take_succ_eq_append_getElem (by rw [vals_len]; exact h), textB_snoc]
  congr 2
  rw [List.getElem?_eq_getElem h]
  simp [vals]
theorem text_small {rs : List ItR} (hv : validBag (vals rs) = true) (h60 : rs.length ≤ 60) (i : Nat) : (textB ((vals rs).take i)).length ≤ 387600 := by
  have h1 := textB_len (l := (vals rs).take i) fun x hx => (validBag_iff.1 hv).2.1 x (List.mem_of_mem_take hx)
  have h2 : ((vals rs).take i).length ≤ 60 := by rw [List.length_take, vals_len]; omega
  omega

set_option maxRecDepth 100000 in
set_option maxHeartbeats 2000000 in
theorem bagFormat_any (p : Option Addr) (rs : List ItR) (cap : Nat) (h60 : rs.length ≤ 60) (hc : rs.length ≤ cap) (w : World) (hX : ItemsIn w p rs) (hE : Env w.heap.size w) :
    Calls Tryz.prog 6 #[.slice p rs.length cap] w fun e w' => e = .returned (.string (bs (fmtB (vals rs)))) ∧ Below w.heap.size w w' := by
  have HV := Lib.hid (bagValid_any p rs cap (by omega) hc w hX)
  have HX := Lib.hid hX
  have HE := Lib.hid hE
  clear hX hE hc
  cases hv : validBag (vals rs) with
  | false =>
    rw [hv] at HV
    rw [show fmtB (vals rs) = [] by unfold fmtB; rw [hv]; rfl]
    clear hv
    go_enter Tryz.func6, Tryz.ntmps6
    go_wp2_with fail
    refine HV.out.mono ?_
    rintro e w1 ⟨rfl, k1⟩
    go_wp2_with fail
    go_ret
    exact ⟨rfl, k1⟩
  | true =>
    rw [hv] at HV
    rw [show fmtB (vals rs) = textB (vals rs) by unfold fmtB; rw [hv]; rfl]
    have HVL := Lib.hid hv
    clear hv
    go_enter Tryz.func6, Tryz.ntmps6
    go_wp2_with fail
    refine HV.out.mono ?_
    rintro e w1 ⟨rfl, k1⟩
    have hs1 := k1.size
    have HB0 := Lib.hid (show IsB (w1.alloc (.cells #[.pointer none, .slice none 0 0] 50)) w.heap.size w1.heap.size [] from .inl ⟨hs1, .slice none 0 0, (Blk.new w1 50 #[.pointer none, .slice none 0 0]), World.ownsRow_nil _ _ _ _, by simp [Value.ownBlock]⟩)
    have HB1 := Lib.hid (k1.alloc hs1 (.cells #[.pointer none, .slice none 0 0] 50))
    clear k1 HV
    go_wp2_with fail
    go_loopw [5, 11] (fun _ t wr => ∃ i : Nat, t = .int .i64 i ∧ i ≤ rs.length ∧ Hid (IsB wr w.heap.size w1.heap.size (textB ((vals rs).take i))) ∧ Hid (Below w.heap.size w wr)) (fun _ t _ => rs.length - (intOf t).toNat)
    case atStart => exact ⟨0, rfl, Nat.zero_le _, HB0.out, HB1.out⟩
    case round =>
      clear HB0 HB1
      obtain ⟨i, rfl, hi, HI, HB⟩ := hrel
      by_cases hlt : i < rs.length
      · obtain ⟨b, off, rfl, hbl, hra⟩ := HX.out (by omega)
        obtain ⟨c0, c1, c2, _⟩ := (hra.belowV HB.out hbl) i hlt
        have hok := ok_at HVL.out hlt
        have HTN := Lib.hid (text_next hlt)
        have HTS := Lib.hid (text_small HVL.out h60 i)
        have hi0 : (0 : Int) ≤ (i : Int) := by omega
        have hi1 : (i : Int) < (rs.length : Int) := by omega
        clear hra
        generalize rs[i]?.getD ir0 = r at c0 c1 c2 hok HTN
        have hbA := (Below.refl wr.heap.size wr).alloc (Nat.le_refl _) (oItem r)
        have HB2 := Lib.hid (HB.out.trans (hbA.mono HB.out.size))
        have HI2 := Lib.hid (HI.out.below hbA)
        have HLO := Lib.hid (lineOf_any r (wr.alloc (oItem r)) (c2.belowV hbA) hok.1 (by have := inN_in hok.2; omega) (by have := inN_in hok.2; omega) ((HE.out.on HB2.out).up HB2.out.size).tab)
        have a0 : (wr.alloc (oItem r)).cell? ⟨wr.heap.size, 0, none⟩ = some (rowv r.1) := (Blk.new wr 38 #[rowv r.1, .int .i64 r.2]).cell 0
        have a1 : (wr.alloc (oItem r)).cell? ⟨wr.heap.size, 1, none⟩ = some (.int .i64 r.2) := (Blk.new wr 38 #[rowv r.1, .int .i64 r.2]).cell 1
        have HLL := Lib.hid (lineT_len (x := itv r) (itOK_iff.2 hok))
        clear hbA c2 hok HI
        obtain ⟨⟨q, xs, qc⟩, n⟩ := r
        dsimp only [oItem, nItem, rowv, itv] at *
        go_wp2_with fail
        refine HLO.out.mono ?_
        rintro e w3 ⟨rfl, k3⟩
        have HI3 := Lib.hid (HI2.out.below k3)
        have HB3 := Lib.hid (HB2.out.trans (k3.mono HB2.out.size))
        clear k3 HLO a0 a1 c0 c1 HB2 HI2
        go_wp2_with fail
        refine (writeStr_any w.heap.size w1.heap.size (Lib.byteCells (textB ((vals rs).take i))) (bs (lineT (xs, n))) w3 HI3.out (by have := HTS.out; have := HLL.out; rw [Lib.byteCells_length, bs_size]; omega) HB3.out.size).mono ?_
        rintro e w4 ⟨rfl, hat, k4⟩
        have HI4 := Lib.hid (show IsB w4 w.heap.size w1.heap.size (textB ((vals rs).take (i + 1))) from .inr (by rw [HTN.out, Lib.byteCells_append]; exact hat))
        have HB4 := Lib.hid (HB3.out.trans k4)
        clear hat k4 HI3 HB3
        go_wp2_with fail
        go_roundw
        case rel => exact ⟨i + 1, by go_num, by omega, HI4.out, HB4.out⟩
        case measure => simp [intOf]; omega
      · have hie : i = rs.length := by omega
        have HI2 := Lib.hid (show IsB wr w.heap.size w1.heap.size (textB (vals rs)) by have := HI.out; rwa [hie, ← vals_len rs, List.take_length] at this)
        have hlt2 : ¬ (i : Int) < (rs.length : Int) := by omega
        clear HI hlt
        go_wp2_with fail
        refine (Tryz.Builder_String_any w.heap.size w1.heap.size (textB (vals rs)) wr HI2.out HB.out.size).mono ?_
        rintro e w4 ⟨rfl, k4⟩
        go_wp2_with fail
        go_ret
        exact ⟨rfl, HB.out.trans k4⟩
end Go.Proofs.YtledgnolmiecfaaGreatDoor

/-!
  The document's own Format of bags, as a contract.
-/
namespace Go.Proofs.YtledgnolmiecfaaGreatDoor
open Go.RowKit
set_option linter.unusedSimpArgs false
set_option linter.unusedVariables false

set_option maxRecDepth 100000 in
set_option maxHeartbeats 4000000 in
theorem refFormat_any (p : Option Addr) (rs : List ItR) (cap : Nat) (h60 : rs.length ≤ 60) (w : World) (hX : ItemsIn w p rs) (hE : Env w.heap.size w) :
    Calls Tryz.prog 7 #[.slice p rs.length cap] w fun e w' => e = .returned (.string (bs (fmtB (vals rs)))) ∧ Below w.heap.size w w' := by
  have HV := Lib.hid (refBagValid_any p rs cap (by omega) w hX)
  have HX := Lib.hid hX
  have HE := Lib.hid hE
  clear hX hE
  cases hv : validBag (vals rs) with
  | false =>
    rw [hv] at HV
    rw [show fmtB (vals rs) = [] by unfold fmtB; rw [hv]; rfl]
    clear hv
    go_enter Tryz.func7, Tryz.ntmps7
    go_wp2_with fail
    refine HV.out.mono ?_
    rintro e w1 ⟨rfl, k1⟩
    go_wp2_with fail
    go_ret
    exact ⟨rfl, k1⟩
  | true =>
    rw [hv] at HV
    rw [show fmtB (vals rs) = textB (vals rs) by unfold fmtB; rw [hv]; rfl]
    have HVL := Lib.hid hv
    clear hv
    go_enter Tryz.func7, Tryz.ntmps7
    go_wp2_with fail
    refine HV.out.mono ?_
    rintro e w1 ⟨rfl, k1⟩
    have HB1 := Lib.hid k1
    clear k1 HV
    go_wp2_with fail
    go_loopw [3, 4] (fun o t wr => ∃ i : Nat, o = .string (bs (textB ((vals rs).take i))) ∧ t = .int .i64 i ∧ i ≤ rs.length ∧ Hid (Below w.heap.size w wr)) (fun _ t _ => rs.length - (intOf t).toNat)
    case atStart => exact ⟨0, rfl, rfl, Nat.zero_le _, HB1.out⟩
    case round =>
      clear HB1
      obtain ⟨i, rfl, rfl, hi, HB⟩ := hrel
      by_cases hlt : i < rs.length
      · obtain ⟨b, off, rfl, hbl, hra⟩ := HX.out (by omega)
        obtain ⟨c0, c1, c2, _⟩ := (hra.belowV HB.out hbl) i hlt
        have hbr : b < wr.heap.size := Nat.lt_of_lt_of_le hbl HB.out.size
        have hok := ok_at HVL.out hlt
        have HTN := Lib.hid (text_next hlt)
        have hts := text_small HVL.out h60 i
        have hi0 : (0 : Int) ≤ (i : Int) := by omega
        have hi1 : (i : Int) < (rs.length : Int) := by omega
        clear hra
        generalize rs[i]?.getD ir0 = r at c0 c1 c2 hok HTN
        obtain ⟨⟨q, xs, qc⟩, n⟩ := r
        dsimp only [rowv, itv] at *
        have hEW := (HE.out.on HB.out).up HB.out.size
        have hnb := inN_in hok.2
        have HIT := Lib.hid (fun W (hb : Below wr.heap.size wr W) => itoa_any n (by omega) (by omega) wr.heap.size W (hEW.tab.onT hb))
        have HTX := Lib.hid (fun W (hb : Below wr.heap.size wr W) => refText_any q xs qc c2.1 W (c2.belowV hb).2 (hEW.tab.up hb hb.size))
        have ht : textOf xs = textR xs := by unfold textOf; rw [hok.1]; rfl
        rw [ht] at HTX
        unfold TextPost at HTX
        rw [show (⟨(textR xs).toArray⟩ : ByteArray) = bs (textR xs) from rfl] at HTX
        rw [show (⟨(Lib.itoa n).toArray⟩ : ByteArray) = bs (Lib.itoa n) from rfl] at HIT
        have z1 : (bs (Lib.itoa n)).size ≤ 21 := by rw [bs_size]; exact Lib.itoa_length_le n (by omega) (by omega)
        have z2 : (bs (textR xs)).size ≤ 6424 := by
          rw [bs_size, textR_tail]
          have h1 := tailT_len (valid_split hok.1).2
          have h2 := (valid_split hok.1).1
          omega
        have z0 : (bs (textB ((vals rs).take i))).size ≤ 387600 := by rw [bs_size]; exact hts
        have HEQ := Lib.hid (show bs (textB ((vals rs).take i)) ++ bs (Lib.itoa n) ++ (ByteArray.mk #[32]) ++ bs (textR xs) ++ (ByteArray.mk #[10]) = bs (textB ((vals rs).take (i + 1))) by
          rw [HTN.out, ← bs_app, ← bs_line]
          dsimp only
          rw [ByteArray.append_assoc, ByteArray.append_assoc, ByteArray.append_assoc, ByteArray.append_assoc, ByteArray.append_assoc])
        clear ht hts hok hEW hnb c2 HTN
        generalize bs (Lib.itoa n) = y1 at z1 HIT HEQ
        generalize bs (textR xs) = y2 at z2 HTX HEQ
        generalize bs (textB ((vals rs).take i)) = y0 at z0 HEQ ⊢
        have gg0 : ¬ 9223372036854775807 < y0.size + y1.size := by omega
        have gg1 : ¬ 9223372036854775807 < y0.size + y1.size + 1 := by omega
        have gg2 : ¬ 9223372036854775807 < y0.size + y1.size + 1 + y2.size := by omega
        have gg3 : ¬ 9223372036854775807 < y0.size + y1.size + 1 + y2.size + 1 := by omega
        have HS := Lib.hid (fun W (h : Below wr.heap.size wr W) => (show Below wr.heap.size wr W ∧ W.cell? ⟨b, off + i * 2, none⟩ = some (.slice q xs.length qc) ∧ W.cell? ⟨b, off + i * 2 + 1, none⟩ = some (.int .i64 n) from
          ⟨h, (h.cell (p := ⟨b, off + i * 2, none⟩) hbr).trans c0, (h.cell (p := ⟨b, off + i * 2 + 1, none⟩) hbr).trans c1⟩))
        clear c0 c1 z0 z1 z2
        go_wp2_with fail
        refine wp_region_held_drew (S := fun W' : World => Below wr.heap.size wr W' ∧ W'.cell? ⟨b, off + i * 2, none⟩ = some (.slice q xs.length qc) ∧ W'.cell? ⟨b, off + i * 2 + 1, none⟩ = some (.int .i64 n)) (by kernel_rfl) (HS.out _ ((Below.refl _ _).drew)) (fun hHeld => ?_)
        refine wpAnyH_take (i := 0) (oi := _) (v := ?_) rfl (by kernel_rfl) (by kernel_rfl) (by kernel_rfl) (fun _ _ _ h => h) (Or.inl ⟨by rfl, ?_⟩) (by assumption) ?_
        rotate_left
        · intro w hSw
          try dsimp only at hSw
          go_simp
          all_goals with_reducible rfl
        simp only [List.getElem_toArray, List.getElem_cons_succ, List.getElem_cons_zero, Act.put, List.setIfInBounds_toArray, List.set_cons_zero, List.set_cons_succ]
        refine wpAnyH_take (i := 1) (oi := _) (v := ?_) rfl (by kernel_rfl) (by kernel_rfl) (by kernel_rfl) (fun _ _ _ h => h) (Or.inl ⟨by rfl, ?_⟩) (by assumption) ?_
        rotate_left
        · intro w hSw
          try dsimp only at hSw
          go_simp
          all_goals with_reducible rfl
        simp only [List.getElem_toArray, List.getElem_cons_succ, List.getElem_cons_zero, Act.put, List.setIfInBounds_toArray, List.set_cons_zero, List.set_cons_succ]
        refine wpAnyH_take (i := 2) (oi := _) (v := ?_) rfl (by kernel_rfl) (by kernel_rfl) (by kernel_rfl) (fun _ _ _ h => h) (Or.inl ⟨by rfl, ?_⟩) (by assumption) ?_
        rotate_left
        · intro w hSw
          try dsimp only at hSw
          go_simp
          all_goals with_reducible rfl
        simp only [List.getElem_toArray, List.getElem_cons_succ, List.getElem_cons_zero, Act.put, List.setIfInBounds_toArray, List.set_cons_zero, List.set_cons_succ]
        refine wpAnyH_take (i := 3) (oi := _) (v := ?_) rfl (by kernel_rfl) (by kernel_rfl) (by kernel_rfl) (fun _ _ _ h => h) (Or.inl ⟨by rfl, ?_⟩) (by assumption) ?_
        rotate_left
        · intro w hSw
          try dsimp only at hSw
          go_simp
          all_goals with_reducible rfl
        simp only [List.getElem_toArray, List.getElem_cons_succ, List.getElem_cons_zero, Act.put, List.setIfInBounds_toArray, List.set_cons_zero, List.set_cons_succ]
        refine wpAnyH_take (i := 4) (oi := _) (v := ?_) rfl (by kernel_rfl) (by kernel_rfl) (by kernel_rfl) (fun _ _ _ h => h) (Or.inl ⟨by rfl, ?_⟩) (by assumption) ?_
        rotate_left
        · intro w hSw
          try dsimp only at hSw
          go_simp
          all_goals with_reducible rfl
        simp only [List.getElem_toArray, List.getElem_cons_succ, List.getElem_cons_zero, Act.put, List.setIfInBounds_toArray, List.set_cons_zero, List.set_cons_succ]
        refine wpAnyH_take (i := 5) (oi := _) (v := ?_) rfl (by kernel_rfl) (by kernel_rfl) (by kernel_rfl) (fun _ _ _ h => h) (Or.inl ⟨by rfl, ?_⟩) (by assumption) ?_
        rotate_left
        · intro w hSw
          try dsimp only at hSw
          go_simp
          all_goals with_reducible rfl
        simp only [List.getElem_toArray, List.getElem_cons_succ, List.getElem_cons_zero, Act.put, List.setIfInBounds_toArray, List.set_cons_zero, List.set_cons_succ]
        refine wpAnyH_take (i := 9) (oi := _) (v := ?_) rfl (by kernel_rfl) (by kernel_rfl) (by kernel_rfl) (fun _ _ _ h => h) (Or.inl ⟨by rfl, ?_⟩) (by assumption) ?_
        rotate_left
        · intro w hSw
          try dsimp only at hSw
          go_simp
          all_goals with_reducible rfl
        simp only [List.getElem_toArray, List.getElem_cons_succ, List.getElem_cons_zero, Act.put, List.setIfInBounds_toArray, List.set_cons_zero, List.set_cons_succ]
        refine wpAnyH_take (i := 10) (oi := _) (v := ?_) rfl (by kernel_rfl) (by kernel_rfl) (by kernel_rfl) (fun _ _ _ h => h) (Or.inl ⟨by rfl, ?_⟩) (by assumption) ?_
        rotate_left
        · intro w hSw
          try dsimp only at hSw
          go_simp
          all_goals with_reducible rfl
        simp only [List.getElem_toArray, List.getElem_cons_succ, List.getElem_cons_zero, Act.put, List.setIfInBounds_toArray, List.set_cons_zero, List.set_cons_succ]
        refine wpAnyH_take (i := 11) (oi := _) (v := ?_) rfl (by kernel_rfl) (by kernel_rfl) (by kernel_rfl) (fun _ _ _ h => h) (Or.inl ⟨by rfl, ?_⟩) (by assumption) ?_
        rotate_left
        · intro w hSw
          try dsimp only at hSw
          go_simp
          all_goals with_reducible rfl
        simp only [List.getElem_toArray, List.getElem_cons_succ, List.getElem_cons_zero, Act.put, List.setIfInBounds_toArray, List.set_cons_zero, List.set_cons_succ]
        refine wpAnyH_take (i := 12) (oi := _) (v := ?_) rfl (by kernel_rfl) (by kernel_rfl) (by kernel_rfl) (fun _ _ _ h => h) (Or.inl ⟨by rfl, ?_⟩) (by assumption) ?_
        rotate_left
        · intro w hSw
          try dsimp only at hSw
          go_simp
          all_goals with_reducible rfl
        simp only [List.getElem_toArray, List.getElem_cons_succ, List.getElem_cons_zero, Act.put, List.setIfInBounds_toArray, List.set_cons_zero, List.set_cons_succ]
        refine wpAnyH_take (i := 13) (oi := _) (v := ?_) rfl (by kernel_rfl) (by kernel_rfl) (by kernel_rfl) (fun _ _ _ h => h) (Or.inl ⟨by rfl, ?_⟩) (by assumption) ?_
        rotate_left
        · intro w hSw
          try dsimp only at hSw
          go_simp
          all_goals with_reducible rfl
        simp only [List.getElem_toArray, List.getElem_cons_succ, List.getElem_cons_zero, Act.put, List.setIfInBounds_toArray, List.set_cons_zero, List.set_cons_succ]
        refine wpAnyH_ready (rs := [6]) (by kernel_rfl) (by simp) ?_
        refine AllReadyH.cons (o := _) rfl (fun K hK => ?_) AllReadyH.nil
        go_simp
        refine (HIT.out _ hHeld.1).mono ?_
        rintro e w9 ⟨rfl, k9⟩
        have HB9 := Lib.hid (hHeld.1.trans (k9.mono hHeld.1.size))
        clear hHeld k9
        refine hK.out _ _ (HS.out _ HB9.out) (fun hHeld1 => ?_)
        clear hK K
        try simp only [List.getElem_toArray, List.getElem_cons_succ, List.getElem_cons_zero, Act.put, List.setIfInBounds_toArray, List.set_cons_zero, List.set_cons_succ]
        refine wpAnyH_take (i := 7) (oi := _) (v := ?_) rfl (by kernel_rfl) (by kernel_rfl) (by kernel_rfl) (fun _ _ _ h => h) (Or.inl ⟨by rfl, ?_⟩) (by assumption) ?_
        rotate_left
        · intro w hSw
          try dsimp only at hSw
          go_simp
          all_goals with_reducible rfl
        simp only [List.getElem_toArray, List.getElem_cons_succ, List.getElem_cons_zero, Act.put, List.setIfInBounds_toArray, List.set_cons_zero, List.set_cons_succ]
        refine wpAnyH_take (i := 8) (oi := _) (v := ?_) rfl (by kernel_rfl) (by kernel_rfl) (by kernel_rfl) (fun _ _ _ h => h) (Or.inl ⟨by rfl, ?_⟩) (by assumption) ?_
        rotate_left
        · intro w hSw
          try dsimp only at hSw
          go_simp
          all_goals with_reducible rfl
        simp only [List.getElem_toArray, List.getElem_cons_succ, List.getElem_cons_zero, Act.put, List.setIfInBounds_toArray, List.set_cons_zero, List.set_cons_succ]
        refine wpAnyH_ready (rs := [14]) (by kernel_rfl) (by simp) ?_
        refine AllReadyH.cons (o := _) rfl (fun K hK => ?_) AllReadyH.nil
        go_simp
        refine (HTX.out _ HB9.out).mono ?_
        rintro e w8 ⟨rfl, k8⟩
        have HB8 := Lib.hid (HB9.out.trans (k8.mono HB9.out.size))
        clear hHeld1 k8 HB9
        refine hK.out _ _ (HS.out _ HB8.out) (fun hHeld1 => ?_)
        clear hK K
        try simp only [List.getElem_toArray, List.getElem_cons_succ, List.getElem_cons_zero, Act.put, List.setIfInBounds_toArray, List.set_cons_zero, List.set_cons_succ]
        refine wpAnyH_take (i := 15) (oi := _) (v := ?_) rfl (by kernel_rfl) (by kernel_rfl) (by kernel_rfl) (fun _ _ _ h => h) (Or.inl ⟨by rfl, ?_⟩) (by assumption) ?_
        rotate_left
        · intro w hSw
          try dsimp only at hSw
          go_simp
          all_goals with_reducible rfl
        simp only [List.getElem_toArray, List.getElem_cons_succ, List.getElem_cons_zero, Act.put, List.setIfInBounds_toArray, List.set_cons_zero, List.set_cons_succ]
        refine wpAnyH_take (i := 16) (oi := _) (v := ?_) rfl (by kernel_rfl) (by kernel_rfl) (by kernel_rfl) (fun _ _ _ h => h) (Or.inl ⟨by rfl, ?_⟩) (by assumption) ?_
        rotate_left
        · intro w hSw
          try dsimp only at hSw
          go_simp
          all_goals with_reducible rfl
        simp only [List.getElem_toArray, List.getElem_cons_succ, List.getElem_cons_zero, Act.put, List.setIfInBounds_toArray, List.set_cons_zero, List.set_cons_succ]
        refine wpAnyH_take (i := 17) (oi := _) (v := ?_) rfl (by kernel_rfl) (by kernel_rfl) (by kernel_rfl) (fun _ _ _ h => h) (Or.inl ⟨by rfl, ?_⟩) (by assumption) ?_
        rotate_left
        · intro w hSw
          try dsimp only at hSw
          go_simp
          all_goals with_reducible rfl
        simp only [List.getElem_toArray, List.getElem_cons_succ, List.getElem_cons_zero, Act.put, List.setIfInBounds_toArray, List.set_cons_zero, List.set_cons_succ]
        refine wpAnyH_done (by kernel_rfl) ?_ _
        clear hHeld1
        have HBB := Lib.hid (HB.out.trans (HB8.out.mono HB.out.size))
        clear HB8 HS
        go_wp2_with fail
        go_roundw
        case rel => exact ⟨i + 1, by rw [← HEQ.out], by go_num, by omega, HBB.out⟩
        case measure => simp [intOf]; omega
      · have hie : i = rs.length := by omega
        have hlt2 : ¬ (i : Int) < (rs.length : Int) := by omega
        have HTE := Lib.hid (show textB ((vals rs).take i) = textB (vals rs) by rw [hie, ← vals_len rs, List.take_length])
        clear hlt hie
        go_wp2_with fail
        go_ret
        exact ⟨by rw [← HTE.out]; rfl, HB.out⟩
end Go.Proofs.YtledgnolmiecfaaGreatDoor

