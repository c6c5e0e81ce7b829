/-
  The document's own value.
-/
import Derived.Test.YtledgnolmiecfaaGreatDoorRx
namespace Go.Proofs.YtledgnolmiecfaaGreatDoor
open Go.RowKit Go.Lib
set_option linter.unusedSimpArgs false
set_option linter.unusedVariables false

theorem numVal_nil : numVal [] = (0, false) := by rfl
theorem numGo_range : ∀ (l : List UInt8) (acc : Int) (k : Nat) (r : Int), -9223372036854775808 ≤ acc → acc ≤ 9223372036854775807 → numGo l acc k = some r → -9223372036854775808 ≤ r ∧ r ≤ 9223372036854775807
  | [], acc, k, r, h0, h1, h => by unfold numGo at h; cases h; exact ⟨h0, h1⟩
  | c :: q, acc, k, r, h0, h1, h => by
    unfold numGo at h
    split at h
    · cases h
    · split at h
      · cases h
      · refine numGo_range q _ _ r ?_ ?_ h
        · rw [wrapEq]; unfold wrap64; omega
        · rw [wrapEq]; unfold wrap64; omega
theorem numVal_range (l : List UInt8) : -9223372036854775808 ≤ (numVal l).1 ∧ (numVal l).1 ≤ 9223372036854775807 := by
  unfold numVal
  cases h : numGo (l.drop (numFrom l)) 0 0 with
  | none => exact ⟨(by show (-9223372036854775808 : Int) ≤ 0; omega), (by show (0 : Int) ≤ 9223372036854775807; omega)⟩
  | some r =>
    have := numGo_range _ _ _ _ (by omega) (by omega) h
    simp only [numOut]
    split
    · rw [wrapEq]; unfold wrap64; omega
    · exact this
/-- What the document's reader finds at a place. -/
def ValOut (t : List UInt8) (i n : Nat) (u : Nat → List UInt8) (x : Val) (j : Int) : Prop :=
  (j = -1 ∧ ∀ y0 y1 y2 r, validV y0 y1 y2 = true → Tail r → t ≠ textV (y0, y1, y2) ++ r) ∨
  ∃ k : Nat, j = (k : Int) ∧ i < k ∧ k ≤ n ∧ t = textV x ++ u k ∧ ∀ y0 y1 y2 r, validV y0 y1 y2 = true → Tail r → t = textV (y0, y1, y2) ++ r → (y0, y1, y2) = x ∧ r = u k
def RvPost (s : ByteArray) (i : Nat) (w : World) (e : Ending) (w' : World) : Prop := ∃ (x0 x1 : Int) (x2 : ByteArray) (j : Int), e = .returned (.tuple #[.agg #[.int .i64 x0, .int .i64 x1, .string x2], .int .i64 j]) ∧ Below w.heap.size w w' ∧ ValOut (s.data.toList.drop i) i s.size (fun k => s.data.toList.drop k) (x0, x1, x2) j
theorem valid_kinds {y0 y1 : Int} {y2 : ByteArray} (h : validV y0 y1 y2 = true) : (y0 = 0 ∧ y1 = 0 ∧ y2 = ⟨#[]⟩) ∨ (y0 = 1 ∧ y2 = ⟨#[]⟩ ∧ -1000000000000000 ≤ y1 ∧ y1 ≤ 1000000000000000) ∨ (y0 = 2 ∧ y1 = 0) := by
  have hv' : validP y0 y1 y2 := of_decide_eq_true h
  rcases hv' with ⟨rfl, rfl, he⟩ | ⟨rfl, he, h1, h2⟩ | ⟨rfl, rfl, h2⟩
  · exact .inl ⟨rfl, rfl, empty_of he⟩
  · exact .inr (.inl ⟨rfl, empty_of he, h1, h2⟩)
  · exact .inr (.inr ⟨rfl, rfl⟩)
theorem at_null {t u : List UInt8} (ht : t = 126 :: u) {y0 y1 : Int} {y2 : ByteArray} {r : List UInt8} (hv : validV y0 y1 y2 = true) (h : t = textV (y0, y1, y2) ++ r) : (y0, y1, y2) = ((0 : Int), (0 : Int), (⟨#[]⟩ : ByteArray)) ∧ r = u := by
  obtain ⟨c, q, e1, a0, a2⟩ := textV_first hv
  rw [ht, e1] at h
  simp only [List.cons_append, List.cons.injEq] at h
  have hy0 : y0 = 0 := a0.2 h.1.symm
  rcases valid_kinds hv with ⟨rfl, rfl, rfl⟩ | ⟨rfl, _⟩ | ⟨rfl, _⟩
  · have : q = [] := by
      have e2 : textV ((0 : Int), (0 : Int), (⟨#[]⟩ : ByteArray)) = [126] := rfl
      rw [e2] at e1
      simp only [List.cons.injEq] at e1
      exact e1.2.symm
    subst this
    exact ⟨rfl, h.2.symm⟩
  · omega
  · omega
theorem at_quote {t u : List UInt8} (ht : t = 34 :: u) {y0 y1 : Int} {y2 : ByteArray} {r : List UInt8} (hv : validV y0 y1 y2 = true) (h : t = textV (y0, y1, y2) ++ r) : y0 = 2 ∧ y1 = 0 ∧ t = quoted y2.data.toList ++ r := by
  obtain ⟨c, q, e1, a0, a2⟩ := textV_first hv
  have h' := h
  rw [ht, e1] at h
  simp only [List.cons_append, List.cons.injEq] at h
  have hy0 : y0 = 2 := a2.2 h.1.symm
  subst hy0
  rcases valid_kinds hv with ⟨h1, _⟩ | ⟨h1, _⟩ | ⟨_, rfl⟩
  · omega
  · omega
  · exact ⟨rfl, rfl, h'⟩
theorem quoted_same {l m r s : List UInt8} (h : quoted l ++ r = quoted m ++ s) : l = m ∧ r = s := by
  unfold quoted at h
  simp only [List.cons_append, List.cons.injEq, List.append_assoc, true_and] at h
  exact flat_inj l m r s h
theorem at_num {t d u : List UInt8} (ht : t = d ++ u) (hd : ∀ c ∈ d, c ≠ 44) (hu : Tail u) (h1 : t.head? ≠ some 126) (h2 : t.head? ≠ some 34) {y0 y1 : Int} {y2 : ByteArray} {r : List UInt8} (hv : validV y0 y1 y2 = true) (hr : Tail r) (h : t = textV (y0, y1, y2) ++ r) : y0 = 1 ∧ y2 = ⟨#[]⟩ ∧ d = itoa y1 ∧ numVal d = (y1, true) ∧ r = u := by
  obtain ⟨c, q, e1, a0, a2⟩ := textV_first hv
  have hh : t.head? = some c := by rw [h, e1]; rfl
  rcases valid_kinds hv with ⟨h0, _⟩ | ⟨rfl, rfl, b0, b1⟩ | ⟨h0, _⟩
  · rw [hh, a0.1 h0] at h1; exact absurd rfl h1
  · have e2 : textV ((1 : Int), y1, (⟨#[]⟩ : ByteArray)) = itoa y1 := rfl
    rw [e2] at h
    have k1 := cut_tail hd hu
    have k2 := cut_tail (itoa_comma y1) hr
    rw [← ht] at k1
    rw [← h] at k2
    have hdi : d = itoa y1 := k1.symm.trans k2
    refine ⟨rfl, rfl, hdi, by rw [hdi]; exact num_itoa (by omega) (by omega), ?_⟩
    rw [ht, hdi] at h
    exact (List.append_cancel_left h).symm
  · rw [hh, a2.1 h0] at h2; exact absurd rfl h2

set_option maxRecDepth 100000 in
set_option maxHeartbeats 4000000 in
theorem refValue_any (s : ByteArray) (hs : s.size ≤ 70000) (i : Nat) (hi : i ≤ s.size) (w : World) (hT : Tab w.heap.size w) :
    Calls Tryz.prog 47 #[.string s, .int .i64 (i : Int)] w (RvPost s i w) := by
  have i0 : (0 : Int) ≤ (i : Int) := by omega
  have hb1 : Below w.heap.size w (w.alloc (.cells #[.int .i64 0, .int .i64 0, .string ⟨#[]⟩] 40)) := (Below.refl _ _).alloc (Nat.le_refl _) _
  have HK1 := Lib.hid (show Blk (w.alloc (.cells #[.int .i64 0, .int .i64 0, .string ⟨#[]⟩] 40)) w.heap.size 40 #[.int .i64 0, .int .i64 0, .string ⟨#[]⟩] from Blk.new _ _ _)
  have HB1 := Lib.hid hb1
  have HT1 := Lib.hid (hT.onT hb1)
  have HSZ := Lib.hid (show w.heap.size < (w.alloc (.cells #[.int .i64 0, .int .i64 0, .string ⟨#[]⟩] 40)).heap.size by simp)
  clear hb1 hT
  have q1 : wrap64 ((i : Int) + 1) = (i : Int) + 1 := by unfold wrap64; omega
  by_cases hlt : i < s.size
  · have i1 : (i : Int) < (s.size : Int) := by omega
    have hc256 := s[i].toNat_lt
    by_cases h126 : s[i].toNat = 126
    · have e126 : ((s[i].toNat : Int) == 126) = true := by rw [h126]; rfl
      have HD := Lib.hid (show s.data.toList.drop i = 126 :: s.data.toList.drop (i + 1) by rw [drop_at hlt, u8_of h126]; rfl)
      generalize hw1 : w.alloc (.cells #[.int .i64 0, .int .i64 0, .string ⟨#[]⟩] 40) = w1 at HK1 HB1 HT1 HSZ
      clear hc256 h126
      go_enter Tryz.func47, Tryz.ntmps47
      have c0 := HK1.out.cell 0
      have c1 := HK1.out.cell 1
      have c2 := HK1.out.cell 2
      have f0 := HK1.out.froz 0
      have f1 := HK1.out.froz 1
      have f2 := HK1.out.froz 2
      simp only [List.getElem?_toArray, List.getElem?_cons_zero, List.getElem?_cons_succ] at c0 c1 c2
      have HF := Lib.hid (show Below w.heap.size w (((w1.setCell ⟨w.heap.size, 0, none⟩ (.int .i64 0)).setCell ⟨w.heap.size, 1, none⟩ (.int .i64 0)).setCell ⟨w.heap.size, 2, none⟩ (.string ⟨#[]⟩)) ∧ Blk (((w1.setCell ⟨w.heap.size, 0, none⟩ (.int .i64 0)).setCell ⟨w.heap.size, 1, none⟩ (.int .i64 0)).setCell ⟨w.heap.size, 2, none⟩ (.string ⟨#[]⟩)) w.heap.size 40 #[.int .i64 0, .int .i64 0, .string ⟨#[]⟩] from
        ⟨((HB1.out.setCell (p := ⟨w.heap.size, 0, none⟩) (Nat.le_refl _) _).setCell (p := ⟨w.heap.size, 1, none⟩) (Nat.le_refl _) _).setCell (p := ⟨w.heap.size, 2, none⟩) (Nat.le_refl _) _, ((HK1.out.setG 0 _).setG 1 _).setG 2 _⟩)
      go_wp2_with fail
      have r0 := HF.out.2.cell 0
      have r1 := HF.out.2.cell 1
      have r2 := HF.out.2.cell 2
      simp only [List.getElem?_toArray, List.getElem?_cons_zero, List.getElem?_cons_succ] at r0 r1 r2
      refine bodyPost_ret (v := .tuple #[.agg #[.int .i64 0, .int .i64 0, .string ⟨#[]⟩], .int .i64 ((i : Int) + 1)]) (by simp [results, Tryz.f47, go_sem, r0, r1, r2]) rfl ?_
      exact ⟨0, 0, ⟨#[]⟩, (i : Int) + 1, rfl, HF.out.1, .inr ⟨i + 1, by omega, by omega, by omega, HD.out, fun y0 y1 y2 r hv _ h => at_null HD.out hv h⟩⟩
    · have e126 : ((s[i].toNat : Int) == 126) = false := by rw [beq_eq_false_iff_ne]; omega
      by_cases h34 : s[i].toNat = 34
      · have e34 : ((s[i].toNat : Int) == 34) = true := by rw [h34]; rfl
        have HD := Lib.hid (show s.data.toList.drop i = 34 :: s.data.toList.drop (i + 1) by rw [drop_at hlt, u8_of h34]; rfl)
        have HU := Lib.hid (fun W => refUnquoted_any s hs i hlt W)
        generalize hw1 : w.alloc (.cells #[.int .i64 0, .int .i64 0, .string ⟨#[]⟩] 40) = w1 at HK1 HB1 HT1 HSZ
        clear hc256 h126 h34
        go_enter Tryz.func47, Tryz.ntmps47
        go_wp2_with fail
        refine (HU.out _).mono ?_
        rintro e w2 ⟨x, j, rfl, k2, hcase⟩
        have HK2 := Lib.hid (HK1.out.belowV k2 HSZ.out)
        have HB2 := Lib.hid (HB1.out.trans (k2.mono HB1.out.size))
        have HC := Lib.hid hcase
        clear k2 hcase HU HK1
        have c0 := HK2.out.cell 0
        have c1 := HK2.out.cell 1
        have c2 := HK2.out.cell 2
        have f0 := HK2.out.froz 0
        have f1 := HK2.out.froz 1
        have f2 := HK2.out.froz 2
        simp only [List.getElem?_toArray, List.getElem?_cons_zero, List.getElem?_cons_succ] at c0 c1 c2
        have HF := Lib.hid (show Below w.heap.size w (((w2.setCell ⟨w.heap.size, 0, none⟩ (.int .i64 2)).setCell ⟨w.heap.size, 1, none⟩ (.int .i64 0)).setCell ⟨w.heap.size, 2, none⟩ (.string (bs x))) ∧ Blk (((w2.setCell ⟨w.heap.size, 0, none⟩ (.int .i64 2)).setCell ⟨w.heap.size, 1, none⟩ (.int .i64 0)).setCell ⟨w.heap.size, 2, none⟩ (.string (bs x))) w.heap.size 40 #[.int .i64 2, .int .i64 0, .string (bs x)] from
          ⟨((HB2.out.setCell (p := ⟨w.heap.size, 0, none⟩) (Nat.le_refl _) _).setCell (p := ⟨w.heap.size, 1, none⟩) (Nat.le_refl _) _).setCell (p := ⟨w.heap.size, 2, none⟩) (Nat.le_refl _) _, ((HK2.out.setG 0 _).setG 1 _).setG 2 _⟩)
        go_wp2_with fail
        have r0 := HF.out.2.cell 0
        have r1 := HF.out.2.cell 1
        have r2 := HF.out.2.cell 2
        simp only [List.getElem?_toArray, List.getElem?_cons_zero, List.getElem?_cons_succ] at r0 r1 r2
        refine bodyPost_ret (v := .tuple #[.agg #[.int .i64 2, .int .i64 0, .string (bs x)], .int .i64 j]) (by simp [results, Tryz.f47, go_sem, r0, r1, r2]) rfl ?_
        refine ⟨2, 0, bs x, j, rfl, HF.out.1, ?_⟩
        rcases HC.out with ⟨hj, hn⟩ | ⟨k, hj, h1, h2, h3⟩
        · exact .inl ⟨hj, fun y0 y1 y2 r hv _ h => hn _ _ (at_quote HD.out hv h).2.2⟩
        · refine .inr ⟨k, hj, h1, h2, by rw [h3]; rfl, fun y0 y1 y2 r hv _ h => ?_⟩
          obtain ⟨rfl, rfl, hq⟩ := at_quote HD.out hv h
          rw [h3] at hq
          obtain ⟨rfl, rfl⟩ := quoted_same hq
          exact ⟨by rw [bs_back], rfl⟩
      · have e34 : ((s[i].toNat : Int) == 34) = false := by rw [beq_eq_false_iff_ne]; omega
        have HH := Lib.hid (show (s.data.toList.drop i).head? ≠ some 126 ∧ (s.data.toList.drop i).head? ≠ some 34 from ⟨by rw [head_drop hlt]; intro h; exact h126 (by rw [Option.some.inj h]; rfl), by rw [head_drop hlt]; intro h; exact h34 (by rw [Option.some.inj h]; rfl)⟩)
        clear hc256 h126 h34
        have HI := Lib.hid (show i ≤ s.size ∧ s.size ≤ 70000 from ⟨hi, hs⟩)
        generalize hw1 : w.alloc (.cells #[.int .i64 0, .int .i64 0, .string ⟨#[]⟩] 40) = w1 at HK1 HB1 HT1 HSZ
        go_enter Tryz.func47, Tryz.ntmps47
        go_wp2_with fail
        go_loop [8] (fun t => ∃ k : Nat, t = .int .i64 k ∧ i ≤ k ∧ k ≤ s.size ∧ Hid (∀ c ∈ (s.data.toList.drop i).take (k - i), c ≠ 44)) (fun t => s.size - (RowKit.intOf t).toNat)
        case atStart => exact ⟨i, rfl, Nat.le_refl _, HI.out.1, by rw [Nat.sub_self, List.take_zero]; exact fun c h => by cases h⟩
        case round =>
          obtain ⟨k, rfl, hik, hks, HN⟩ := hrel
          have k0 : (0 : Int) ≤ (k : Int) := by omega
          have hex : (k < s.size ∧ ∃ h : k < s.size, s[k].toNat ≠ 44) ∨ (Tail (s.data.toList.drop k) ∧ ((¬ k < s.size) ∨ ∃ h : k < s.size, s[k].toNat = 44)) := by
            by_cases h : k < s.size
            · by_cases h44 : s[k].toNat = 44
              · exact .inr ⟨.inr ⟨s.data.toList.drop (k + 1), by rw [drop_at h, u8_of h44]; rfl⟩, .inr ⟨h, h44⟩⟩
              · exact .inl ⟨h, h, h44⟩
            · exact .inr ⟨.inl (List.drop_eq_nil_of_le (by simp; omega)), .inl h⟩
          rcases hex with ⟨hkl, _, h44⟩ | ⟨htl, hstop⟩
          · have k1 : (k : Int) < (s.size : Int) := by omega
            have e44 : ((s[k].toNat : Int) == 44) = false := by rw [beq_eq_false_iff_ne]; omega
            have n44 : ((s[k].toNat : Int) != 44) = true := by rw [bne_iff_ne]; omega
            have HNX := Lib.hid (show ∀ c ∈ (s.data.toList.drop i).take (k + 1 - i), c ≠ 44 from fun c hc => by
              have hlk : k - i < (s.data.toList.drop i).length := by rw [List.length_drop]; simp; omega
              rw [show k + 1 - i = k - i + 1 by omega, List.take_succ_eq_append_getElem hlk] at hc
              rcases List.mem_append.1 hc with h | h
              · exact HN.out c h
              · rw [List.mem_singleton] at h
                subst h
                intro e
                apply h44
                have e2 : (s.data.toList.drop i)[k - i]? = some s[k] := by
                  rw [List.getElem?_drop, show i + (k - i) = k by omega]
                  exact (List.getElem?_eq_getElem (by simpa using hkl)).trans rfl
                rw [List.getElem?_eq_getElem hlk] at e2
                have e3 := Option.some.inj e2
                rw [← e3, e]; rfl)
            have HKL := Lib.hid hkl
            clear HN h44
            go_wp2_with fail
            go_round
            case rel => exact ⟨k + 1, by have := HI.out.2; go_num, by omega, HKL.out, HNX.out⟩
            case measure => have := HKL.out; have := HI.out.2; simp [RowKit.intOf]; omega
          · obtain ⟨z, hz⟩ : ∃ z, z = (s.data.toList.drop i).take (k - i) := ⟨_, rfl⟩
            have hzl : z.length = k - i := by rw [hz, List.length_take, List.length_drop]; simp; omega
            have HZ := Lib.hid (show s.data.toList.drop i = z ++ s.data.toList.drop k by
              rw [hz]
              conv => lhs; rw [← List.take_append_drop (k - i) (s.data.toList.drop i)]
              rw [List.drop_drop, show i + (k - i) = k by omega])
            have HZN := Lib.hid (show ∀ c ∈ z, c ≠ 44 by rw [hz]; exact HN.out)
            have HTL := Lib.hid htl
            have p1 : (i : Int) ≤ (k : Int) := by omega
            have p2 : (k : Int) ≤ (s.size : Int) := by omega
            have hsl : ∀ W, (Instr.slice 9 (.string s) (some (.int .i64 (i : Int))) (some (.int .i64 (k : Int))) none).run Tryz.prog W = .ok (.string (bs z)) W := fun W => by
              rw [hz, ← ext_take]
              simp [Instr.slice, run_underlying Tryz.underlying9, Instr.sliceBounds, run_sliceBound, p1, p2, i0, k0]
            have hzs : (bs z).size ≤ 1000000 := by rw [bs_size]; have := HI.out.2; omega
            have HNUM := Lib.hid (fun W => refNumber_any (bs z) hzs W)
            rw [bs_data] at HNUM
            have HAT := Lib.hid (fun (y0 y1 : Int) (y2 : ByteArray) (r : List UInt8) (hv : validV y0 y1 y2 = true) (hr : Tail r) (h : s.data.toList.drop i = textV (y0, y1, y2) ++ r) => at_num HZ.out HZN.out htl HH.out.1 HH.out.2 hv hr h)
            have HR := Lib.hid (numVal_range z)
            obtain ⟨n, hn⟩ : ∃ n, n = (numVal z).1 := ⟨_, rfl⟩
            obtain ⟨ok, hok⟩ : ∃ ok, ok = (numVal z).2 := ⟨_, rfl⟩
            have HV := Lib.hid (show numVal z = (n, ok) by rw [hn, hok])
            rw [← hn] at HNUM HR
            rw [← hok] at HNUM
            have HLK := Lib.hid (And.intro hik (And.intro hks hzl))
            have hs1 : k < s.size → ∃ h : k < s.size, ((s[k].toNat : Int) == 44) = true ∧ ((s[k].toNat : Int) != 44) = false := fun h => by
              rcases hstop with h1 | ⟨h1, h2⟩
              · exact absurd h h1
              · exact ⟨h1, by rw [h2]; exact ⟨rfl, rfl⟩⟩
            clear hstop HN hz hzl hzs hn hok HH htl
            by_cases hkl : k < s.size
            · obtain ⟨_, e44, n44⟩ := hs1 hkl
              have k1 : (k : Int) < (s.size : Int) := by omega
              clear hs1
              go_wp2_with fail
              refine (HNUM.out _).mono ?_
              rintro e w9 ⟨rfl, rfl⟩
              go_wp2_with fail
              cases ok with
              | false =>
                have HX := Lib.hid (fun y0 y1 y2 r hv hr h => (by
                  have h1 := (HAT.out y0 y1 y2 r hv hr h).2.2.2.1
                  rw [HV.out] at h1
                  exact absurd (congrArg Prod.snd h1) (by simp) : False))
                go_quiet (fail)
                have HK2 := Lib.hid (HK1.out.belowV (below_drewN (Below.refl w1.heap.size w1) nq) HSZ.out)
                have HB2 := Lib.hid (below_drewN HB1.out nq)
                generalize w1.drewN nq = w2 at HK2 HB2 ⊢
                have c0 := HK2.out.cell 0
                have c1 := HK2.out.cell 1
                have c2 := HK2.out.cell 2
                have f0 := HK2.out.froz 0
                have f1 := HK2.out.froz 1
                have f2 := HK2.out.froz 2
                simp only [List.getElem?_toArray, List.getElem?_cons_zero, List.getElem?_cons_succ] at c0 c1 c2
                have HF := Lib.hid (show Below w.heap.size w (((w2.setCell ⟨w.heap.size, 0, none⟩ (.int .i64 0)).setCell ⟨w.heap.size, 1, none⟩ (.int .i64 0)).setCell ⟨w.heap.size, 2, none⟩ (.string ⟨#[]⟩)) ∧ Blk (((w2.setCell ⟨w.heap.size, 0, none⟩ (.int .i64 0)).setCell ⟨w.heap.size, 1, none⟩ (.int .i64 0)).setCell ⟨w.heap.size, 2, none⟩ (.string ⟨#[]⟩)) w.heap.size 40 #[.int .i64 0, .int .i64 0, .string ⟨#[]⟩] from
                  ⟨((HB2.out.setCell (p := ⟨w.heap.size, 0, none⟩) (Nat.le_refl _) _).setCell (p := ⟨w.heap.size, 1, none⟩) (Nat.le_refl _) _).setCell (p := ⟨w.heap.size, 2, none⟩) (Nat.le_refl _) _, ((HK2.out.setG 0 _).setG 1 _).setG 2 _⟩)
                go_wp2_with fail
                have r0 := HF.out.2.cell 0
                have r1 := HF.out.2.cell 1
                have r2 := HF.out.2.cell 2
                simp only [List.getElem?_toArray, List.getElem?_cons_zero, List.getElem?_cons_succ] at r0 r1 r2
                refine bodyPost_ret (v := .tuple #[.agg #[.int .i64 0, .int .i64 0, .string ⟨#[]⟩], .int .i64 (-1)]) (by simp [results, Tryz.f47, go_sem, r0, r1, r2]) rfl ?_
                exact ⟨0, 0, ⟨#[]⟩, -1, rfl, HF.out.1, .inl ⟨rfl, fun y0 y1 y2 r hv hr h => HX.out y0 y1 y2 r hv hr h⟩⟩
              | true =>
                have HIT := Lib.hid (fun W (hb : Below w1.heap.size w1 W) => itoa_any n HR.out.1 HR.out.2 w.heap.size W (HT1.out.onT (hb.mono HB1.out.size)))
                rw [show (⟨(itoa n).toArray⟩ : ByteArray) = bs (itoa n) from rfl] at HIT
                by_cases hq : itoa n = z
                · have HX := Lib.hid (fun y0 y1 y2 r hv hr h => (by
                    obtain ⟨rfl, rfl, h3, h4, h5⟩ := HAT.out y0 y1 y2 r hv hr h
                    rw [HV.out] at h4
                    have : n = y1 := congrArg Prod.fst h4
                    exact ⟨by rw [this], h5⟩ : (y0, y1, y2) = ((1 : Int), n, (⟨#[]⟩ : ByteArray)) ∧ r = s.data.toList.drop k))
                  have HPOS := Lib.hid (show i < k by
                    have h1 : z ≠ [] := fun e => by
                      have := HV.out
                      rw [e, numVal_nil] at this
                      exact absurd (congrArg Prod.snd this) (by simp)
                    have := List.length_pos_iff.2 h1
                    have := HLK.out.2.2
                    omega)
                  subst hq
                  clear HAT HNUM HV
                  generalize hy : bs (itoa n) = y at hsl HIT
                  clear hy
                  refine wp_region_held_drew (S := fun W' : World => Below w1.heap.size w1 W') (by kernel_rfl) ((Below.refl _ _).drew) (fun hHeld => ?_)
                  refine wpAnyH_take (i := 0) (oi := _) (v := ?_) rfl (by kernel_rfl) (by kernel_rfl) (by kernel_rfl) (fun _ _ _ h => h) (Or.inl ⟨by rfl, ?_⟩) (by assumption) ?_
                  rotate_left
                  · intro w hSw
                    try dsimp only at hSw
                    go_simp
                    all_goals with_reducible rfl
                  simp only [List.getElem_toArray, List.getElem_cons_succ, List.getElem_cons_zero, Act.put, List.setIfInBounds_toArray, List.set_cons_zero, List.set_cons_succ]
                  refine wpAnyH_take (i := 1) (oi := _) (v := ?_) rfl (by kernel_rfl) (by kernel_rfl) (by kernel_rfl) (fun _ _ _ h => h) (Or.inl ⟨by rfl, ?_⟩) (by assumption) ?_
                  rotate_left
                  · intro w hSw
                    try dsimp only at hSw
                    go_simp
                    all_goals with_reducible rfl
                  simp only [List.getElem_toArray, List.getElem_cons_succ, List.getElem_cons_zero, Act.put, List.setIfInBounds_toArray, List.set_cons_zero, List.set_cons_succ]
                  refine wpAnyH_take (i := 2) (oi := _) (v := ?_) rfl (by kernel_rfl) (by kernel_rfl) (by kernel_rfl) (fun _ _ _ h => h) (Or.inl ⟨by rfl, ?_⟩) (by assumption) ?_
                  rotate_left
                  · intro w hSw
                    try dsimp only at hSw
                    go_simp
                    all_goals with_reducible rfl
                  simp only [List.getElem_toArray, List.getElem_cons_succ, List.getElem_cons_zero, Act.put, List.setIfInBounds_toArray, List.set_cons_zero, List.set_cons_succ]
                  refine wpAnyH_take (i := 3) (oi := _) (v := ?_) rfl (by kernel_rfl) (by kernel_rfl) (by kernel_rfl) (fun _ _ _ h => h) (Or.inl ⟨by rfl, ?_⟩) (by assumption) ?_
                  rotate_left
                  · intro w hSw
                    try dsimp only at hSw
                    go_simp
                    all_goals with_reducible rfl
                  simp only [List.getElem_toArray, List.getElem_cons_succ, List.getElem_cons_zero, Act.put, List.setIfInBounds_toArray, List.set_cons_zero, List.set_cons_succ]
                  refine wpAnyH_take (i := 5) (oi := _) (v := ?_) rfl (by kernel_rfl) (by kernel_rfl) (by kernel_rfl) (fun _ _ _ h => h) (Or.inl ⟨by rfl, ?_⟩) (by assumption) ?_
                  rotate_left
                  · intro w hSw
                    try dsimp only at hSw
                    go_simp
                    all_goals with_reducible rfl
                  simp only [List.getElem_toArray, List.getElem_cons_succ, List.getElem_cons_zero, Act.put, List.setIfInBounds_toArray, List.set_cons_zero, List.set_cons_succ]
                  refine wpAnyH_take (i := 6) (oi := _) (v := ?_) rfl (by kernel_rfl) (by kernel_rfl) (by kernel_rfl) (fun _ _ _ h => h) (Or.inl ⟨by rfl, ?_⟩) (by assumption) ?_
                  rotate_left
                  · intro w hSw
                    try dsimp only at hSw
                    go_simp
                    all_goals with_reducible rfl
                  simp only [List.getElem_toArray, List.getElem_cons_succ, List.getElem_cons_zero, Act.put, List.setIfInBounds_toArray, List.set_cons_zero, List.set_cons_succ]
                  refine wpAnyH_take (i := 7) (oi := _) (v := ?_) rfl (by kernel_rfl) (by kernel_rfl) (by kernel_rfl) (fun _ _ _ h => h) (Or.inl ⟨by rfl, ?_⟩) (by assumption) ?_
                  rotate_left
                  · intro w hSw
                    try dsimp only at hSw
                    go_simp
                    all_goals with_reducible rfl
                  simp only [List.getElem_toArray, List.getElem_cons_succ, List.getElem_cons_zero, Act.put, List.setIfInBounds_toArray, List.set_cons_zero, List.set_cons_succ]
                  refine wpAnyH_take (i := 8) (oi := _) (v := ?_) rfl (by kernel_rfl) (by kernel_rfl) (by kernel_rfl) (fun _ _ _ h => h) (Or.inl ⟨by rfl, ?_⟩) (by assumption) ?_
                  rotate_left
                  · intro w hSw
                    try dsimp only at hSw
                    go_simp
                    all_goals with_reducible rfl
                  simp only [List.getElem_toArray, List.getElem_cons_succ, List.getElem_cons_zero, Act.put, List.setIfInBounds_toArray, List.set_cons_zero, List.set_cons_succ]
                  refine wpAnyH_ready (rs := [4]) (by kernel_rfl) (by simp) ?_
                  refine AllReadyH.cons (o := _) rfl (fun K hK => ?_) AllReadyH.nil
                  go_simp
                  refine (HIT.out _ hHeld).mono ?_
                  rintro e w9 ⟨rfl, k9⟩
                  have HB9 := Lib.hid (hHeld.trans (k9.mono hHeld.size))
                  refine hK.out _ _ HB9.out (fun hHeld1 => ?_)
                  clear hHeld k9 hK K
                  try simp only [List.getElem_toArray, List.getElem_cons_succ, List.getElem_cons_zero, Act.put, List.setIfInBounds_toArray, List.set_cons_zero, List.set_cons_succ]
                  refine wpAnyH_take (i := 9) (oi := _) (v := ?_) rfl (by kernel_rfl) (by kernel_rfl) (by kernel_rfl) (fun _ _ _ h => h) (Or.inl ⟨by rfl, ?_⟩) (by assumption) ?_
                  rotate_left
                  · intro w hSw
                    try dsimp only at hSw
                    go_simp
                    all_goals with_reducible rfl
                  simp only [List.getElem_toArray, List.getElem_cons_succ, List.getElem_cons_zero, Act.put, List.setIfInBounds_toArray, List.set_cons_zero, List.set_cons_succ]
                  refine wpAnyH_take (i := 10) (oi := _) (v := ?_) rfl (by kernel_rfl) (by kernel_rfl) (by kernel_rfl) (fun _ _ _ h => h) (Or.inl ⟨by rfl, ?_⟩) (by assumption) ?_
                  rotate_left
                  · intro w hSw
                    try dsimp only at hSw
                    go_simp
                    all_goals with_reducible rfl
                  simp only [List.getElem_toArray, List.getElem_cons_succ, List.getElem_cons_zero, Act.put, List.setIfInBounds_toArray, List.set_cons_zero, List.set_cons_succ]
                  refine wpAnyH_done (by kernel_rfl) ?_ _
                  clear hHeld1
                  have HK2 := Lib.hid (HK1.out.belowV HB9.out HSZ.out)
                  have HB2 := Lib.hid (HB1.out.trans (HB9.out.mono HB1.out.size))
                  have c0 := HK2.out.cell 0
                  have c1 := HK2.out.cell 1
                  have c2 := HK2.out.cell 2
                  have f0 := HK2.out.froz 0
                  have f1 := HK2.out.froz 1
                  have f2 := HK2.out.froz 2
                  simp only [List.getElem?_toArray, List.getElem?_cons_zero, List.getElem?_cons_succ] at c0 c1 c2
                  have HF := Lib.hid (show Below w.heap.size w (((w9.setCell ⟨w.heap.size, 0, none⟩ (.int .i64 1)).setCell ⟨w.heap.size, 1, none⟩ (.int .i64 n)).setCell ⟨w.heap.size, 2, none⟩ (.string ⟨#[]⟩)) ∧ Blk (((w9.setCell ⟨w.heap.size, 0, none⟩ (.int .i64 1)).setCell ⟨w.heap.size, 1, none⟩ (.int .i64 n)).setCell ⟨w.heap.size, 2, none⟩ (.string ⟨#[]⟩)) w.heap.size 40 #[.int .i64 1, .int .i64 n, .string ⟨#[]⟩] from
                    ⟨((HB2.out.setCell (p := ⟨w.heap.size, 0, none⟩) (Nat.le_refl _) _).setCell (p := ⟨w.heap.size, 1, none⟩) (Nat.le_refl _) _).setCell (p := ⟨w.heap.size, 2, none⟩) (Nat.le_refl _) _, ((HK2.out.setG 0 _).setG 1 _).setG 2 _⟩)
                  go_wp2_with fail
                  have r0 := HF.out.2.cell 0
                  have r1 := HF.out.2.cell 1
                  have r2 := HF.out.2.cell 2
                  simp only [List.getElem?_toArray, List.getElem?_cons_zero, List.getElem?_cons_succ] at r0 r1 r2
                  refine bodyPost_ret (v := .tuple #[.agg #[.int .i64 1, .int .i64 n, .string ⟨#[]⟩], .int .i64 (k : Int)]) (by simp [results, Tryz.f47, go_sem, r0, r1, r2]) rfl ?_
                  exact ⟨1, n, ⟨#[]⟩, (k : Int), rfl, HF.out.1, .inr ⟨k, rfl, HPOS.out, HLK.out.2.1, HZ.out, HX.out⟩⟩
                · have hne := bs_ne hq
                  have HX := Lib.hid (fun y0 y1 y2 r hv hr h => (by
                    obtain ⟨rfl, rfl, h3, h4, h5⟩ := HAT.out y0 y1 y2 r hv hr h
                    rw [HV.out] at h4
                    have : n = y1 := congrArg Prod.fst h4
                    exact hq (by rw [this, h3]) : False))
                  clear hq HAT HNUM HV
                  generalize bs (itoa n) = y at HIT hne
                  generalize bs z = y2 at hsl hne
                  have hzy : (y.toList == y2.toList) = false := by simpa using hne
                  refine wp_region_held_drew (S := fun W' : World => Below w1.heap.size w1 W') (by kernel_rfl) ((Below.refl _ _).drew) (fun hHeld => ?_)
                  refine wpAnyH_take (i := 0) (oi := _) (v := ?_) rfl (by kernel_rfl) (by kernel_rfl) (by kernel_rfl) (fun _ _ _ h => h) (Or.inl ⟨by rfl, ?_⟩) (by assumption) ?_
                  rotate_left
                  · intro w hSw
                    try dsimp only at hSw
                    go_simp
                    all_goals with_reducible rfl
                  simp only [List.getElem_toArray, List.getElem_cons_succ, List.getElem_cons_zero, Act.put, List.setIfInBounds_toArray, List.set_cons_zero, List.set_cons_succ]
                  refine wpAnyH_take (i := 1) (oi := _) (v := ?_) rfl (by kernel_rfl) (by kernel_rfl) (by kernel_rfl) (fun _ _ _ h => h) (Or.inl ⟨by rfl, ?_⟩) (by assumption) ?_
                  rotate_left
                  · intro w hSw
                    try dsimp only at hSw
                    go_simp
                    all_goals with_reducible rfl
                  simp only [List.getElem_toArray, List.getElem_cons_succ, List.getElem_cons_zero, Act.put, List.setIfInBounds_toArray, List.set_cons_zero, List.set_cons_succ]
                  refine wpAnyH_take (i := 2) (oi := _) (v := ?_) rfl (by kernel_rfl) (by kernel_rfl) (by kernel_rfl) (fun _ _ _ h => h) (Or.inl ⟨by rfl, ?_⟩) (by assumption) ?_
                  rotate_left
                  · intro w hSw
                    try dsimp only at hSw
                    go_simp
                    all_goals with_reducible rfl
                  simp only [List.getElem_toArray, List.getElem_cons_succ, List.getElem_cons_zero, Act.put, List.setIfInBounds_toArray, List.set_cons_zero, List.set_cons_succ]
                  refine wpAnyH_take (i := 3) (oi := _) (v := ?_) rfl (by kernel_rfl) (by kernel_rfl) (by kernel_rfl) (fun _ _ _ h => h) (Or.inl ⟨by rfl, ?_⟩) (by assumption) ?_
                  rotate_left
                  · intro w hSw
                    try dsimp only at hSw
                    go_simp
                    all_goals with_reducible rfl
                  simp only [List.getElem_toArray, List.getElem_cons_succ, List.getElem_cons_zero, Act.put, List.setIfInBounds_toArray, List.set_cons_zero, List.set_cons_succ]
                  refine wpAnyH_take (i := 5) (oi := _) (v := ?_) rfl (by kernel_rfl) (by kernel_rfl) (by kernel_rfl) (fun _ _ _ h => h) (Or.inl ⟨by rfl, ?_⟩) (by assumption) ?_
                  rotate_left
                  · intro w hSw
                    try dsimp only at hSw
                    go_simp
                    all_goals with_reducible rfl
                  simp only [List.getElem_toArray, List.getElem_cons_succ, List.getElem_cons_zero, Act.put, List.setIfInBounds_toArray, List.set_cons_zero, List.set_cons_succ]
                  refine wpAnyH_take (i := 6) (oi := _) (v := ?_) rfl (by kernel_rfl) (by kernel_rfl) (by kernel_rfl) (fun _ _ _ h => h) (Or.inl ⟨by rfl, ?_⟩) (by assumption) ?_
                  rotate_left
                  · intro w hSw
                    try dsimp only at hSw
                    go_simp
                    all_goals with_reducible rfl
                  simp only [List.getElem_toArray, List.getElem_cons_succ, List.getElem_cons_zero, Act.put, List.setIfInBounds_toArray, List.set_cons_zero, List.set_cons_succ]
                  refine wpAnyH_take (i := 7) (oi := _) (v := ?_) rfl (by kernel_rfl) (by kernel_rfl) (by kernel_rfl) (fun _ _ _ h => h) (Or.inl ⟨by rfl, ?_⟩) (by assumption) ?_
                  rotate_left
                  · intro w hSw
                    try dsimp only at hSw
                    go_simp
                    all_goals with_reducible rfl
                  simp only [List.getElem_toArray, List.getElem_cons_succ, List.getElem_cons_zero, Act.put, List.setIfInBounds_toArray, List.set_cons_zero, List.set_cons_succ]
                  refine wpAnyH_take (i := 8) (oi := _) (v := ?_) rfl (by kernel_rfl) (by kernel_rfl) (by kernel_rfl) (fun _ _ _ h => h) (Or.inl ⟨by rfl, ?_⟩) (by assumption) ?_
                  rotate_left
                  · intro w hSw
                    try dsimp only at hSw
                    go_simp
                    all_goals with_reducible rfl
                  simp only [List.getElem_toArray, List.getElem_cons_succ, List.getElem_cons_zero, Act.put, List.setIfInBounds_toArray, List.set_cons_zero, List.set_cons_succ]
                  refine wpAnyH_ready (rs := [4]) (by kernel_rfl) (by simp) ?_
                  refine AllReadyH.cons (o := _) rfl (fun K hK => ?_) AllReadyH.nil
                  go_simp
                  refine (HIT.out _ hHeld).mono ?_
                  rintro e w9 ⟨rfl, k9⟩
                  have HB9 := Lib.hid (hHeld.trans (k9.mono hHeld.size))
                  refine hK.out _ _ HB9.out (fun hHeld1 => ?_)
                  clear hHeld k9 hK K
                  try simp only [List.getElem_toArray, List.getElem_cons_succ, List.getElem_cons_zero, Act.put, List.setIfInBounds_toArray, List.set_cons_zero, List.set_cons_succ]
                  refine wpAnyH_take (i := 9) (oi := _) (v := ?_) rfl (by kernel_rfl) (by kernel_rfl) (by kernel_rfl) (fun _ _ _ h => h) (Or.inl ⟨by rfl, ?_⟩) (by assumption) ?_
                  rotate_left
                  · intro w hSw
                    try dsimp only at hSw
                    go_simp
                    all_goals with_reducible rfl
                  simp only [List.getElem_toArray, List.getElem_cons_succ, List.getElem_cons_zero, Act.put, List.setIfInBounds_toArray, List.set_cons_zero, List.set_cons_succ]
                  refine wpAnyH_take (i := 10) (oi := _) (v := ?_) rfl (by kernel_rfl) (by kernel_rfl) (by kernel_rfl) (fun _ _ _ h => h) (Or.inl ⟨by rfl, ?_⟩) (by assumption) ?_
                  rotate_left
                  · intro w hSw
                    try dsimp only at hSw
                    go_simp
                    all_goals with_reducible rfl
                  simp only [List.getElem_toArray, List.getElem_cons_succ, List.getElem_cons_zero, Act.put, List.setIfInBounds_toArray, List.set_cons_zero, List.set_cons_succ]
                  refine wpAnyH_done (by kernel_rfl) ?_ _
                  clear hHeld1
                  have HK2 := Lib.hid (HK1.out.belowV HB9.out HSZ.out)
                  have HB2 := Lib.hid (HB1.out.trans (HB9.out.mono HB1.out.size))
                  have c0 := HK2.out.cell 0
                  have c1 := HK2.out.cell 1
                  have c2 := HK2.out.cell 2
                  have f0 := HK2.out.froz 0
                  have f1 := HK2.out.froz 1
                  have f2 := HK2.out.froz 2
                  simp only [List.getElem?_toArray, List.getElem?_cons_zero, List.getElem?_cons_succ] at c0 c1 c2
                  have HF := Lib.hid (show Below w.heap.size w (((w9.setCell ⟨w.heap.size, 0, none⟩ (.int .i64 0)).setCell ⟨w.heap.size, 1, none⟩ (.int .i64 0)).setCell ⟨w.heap.size, 2, none⟩ (.string ⟨#[]⟩)) ∧ Blk (((w9.setCell ⟨w.heap.size, 0, none⟩ (.int .i64 0)).setCell ⟨w.heap.size, 1, none⟩ (.int .i64 0)).setCell ⟨w.heap.size, 2, none⟩ (.string ⟨#[]⟩)) w.heap.size 40 #[.int .i64 0, .int .i64 0, .string ⟨#[]⟩] from
                    ⟨((HB2.out.setCell (p := ⟨w.heap.size, 0, none⟩) (Nat.le_refl _) _).setCell (p := ⟨w.heap.size, 1, none⟩) (Nat.le_refl _) _).setCell (p := ⟨w.heap.size, 2, none⟩) (Nat.le_refl _) _, ((HK2.out.setG 0 _).setG 1 _).setG 2 _⟩)
                  go_wp2_with fail
                  have r0 := HF.out.2.cell 0
                  have r1 := HF.out.2.cell 1
                  have r2 := HF.out.2.cell 2
                  simp only [List.getElem?_toArray, List.getElem?_cons_zero, List.getElem?_cons_succ] at r0 r1 r2
                  refine bodyPost_ret (v := .tuple #[.agg #[.int .i64 0, .int .i64 0, .string ⟨#[]⟩], .int .i64 (-1)]) (by simp [results, Tryz.f47, go_sem, r0, r1, r2]) rfl ?_
                  exact ⟨0, 0, ⟨#[]⟩, -1, rfl, HF.out.1, .inl ⟨rfl, fun y0 y1 y2 r hv hr h => HX.out y0 y1 y2 r hv hr h⟩⟩
            · have k1 : ¬ (k : Int) < (s.size : Int) := by omega
              clear hs1
              go_wp2_with fail
              refine (HNUM.out _).mono ?_
              rintro e w9 ⟨rfl, rfl⟩
              go_wp2_with fail
              cases ok with
              | false =>
                have HX := Lib.hid (fun y0 y1 y2 r hv hr h => (by
                  have h1 := (HAT.out y0 y1 y2 r hv hr h).2.2.2.1
                  rw [HV.out] at h1
                  exact absurd (congrArg Prod.snd h1) (by simp) : False))
                go_quiet (fail)
                have HK2 := Lib.hid (HK1.out.belowV (below_drewN (Below.refl w1.heap.size w1) nq) HSZ.out)
                have HB2 := Lib.hid (below_drewN HB1.out nq)
                generalize w1.drewN nq = w2 at HK2 HB2 ⊢
                have c0 := HK2.out.cell 0
                have c1 := HK2.out.cell 1
                have c2 := HK2.out.cell 2
                have f0 := HK2.out.froz 0
                have f1 := HK2.out.froz 1
                have f2 := HK2.out.froz 2
                simp only [List.getElem?_toArray, List.getElem?_cons_zero, List.getElem?_cons_succ] at c0 c1 c2
                have HF := Lib.hid (show Below w.heap.size w (((w2.setCell ⟨w.heap.size, 0, none⟩ (.int .i64 0)).setCell ⟨w.heap.size, 1, none⟩ (.int .i64 0)).setCell ⟨w.heap.size, 2, none⟩ (.string ⟨#[]⟩)) ∧ Blk (((w2.setCell ⟨w.heap.size, 0, none⟩ (.int .i64 0)).setCell ⟨w.heap.size, 1, none⟩ (.int .i64 0)).setCell ⟨w.heap.size, 2, none⟩ (.string ⟨#[]⟩)) w.heap.size 40 #[.int .i64 0, .int .i64 0, .string ⟨#[]⟩] from
                  ⟨((HB2.out.setCell (p := ⟨w.heap.size, 0, none⟩) (Nat.le_refl _) _).setCell (p := ⟨w.heap.size, 1, none⟩) (Nat.le_refl _) _).setCell (p := ⟨w.heap.size, 2, none⟩) (Nat.le_refl _) _, ((HK2.out.setG 0 _).setG 1 _).setG 2 _⟩)
                go_wp2_with fail
                have r0 := HF.out.2.cell 0
                have r1 := HF.out.2.cell 1
                have r2 := HF.out.2.cell 2
                simp only [List.getElem?_toArray, List.getElem?_cons_zero, List.getElem?_cons_succ] at r0 r1 r2
                refine bodyPost_ret (v := .tuple #[.agg #[.int .i64 0, .int .i64 0, .string ⟨#[]⟩], .int .i64 (-1)]) (by simp [results, Tryz.f47, go_sem, r0, r1, r2]) rfl ?_
                exact ⟨0, 0, ⟨#[]⟩, -1, rfl, HF.out.1, .inl ⟨rfl, fun y0 y1 y2 r hv hr h => HX.out y0 y1 y2 r hv hr h⟩⟩
              | true =>
                have HIT := Lib.hid (fun W (hb : Below w1.heap.size w1 W) => itoa_any n HR.out.1 HR.out.2 w.heap.size W (HT1.out.onT (hb.mono HB1.out.size)))
                rw [show (⟨(itoa n).toArray⟩ : ByteArray) = bs (itoa n) from rfl] at HIT
                by_cases hq : itoa n = z
                · have HX := Lib.hid (fun y0 y1 y2 r hv hr h => (by
                    obtain ⟨rfl, rfl, h3, h4, h5⟩ := HAT.out y0 y1 y2 r hv hr h
                    rw [HV.out] at h4
                    have : n = y1 := congrArg Prod.fst h4
                    exact ⟨by rw [this], h5⟩ : (y0, y1, y2) = ((1 : Int), n, (⟨#[]⟩ : ByteArray)) ∧ r = s.data.toList.drop k))
                  have HPOS := Lib.hid (show i < k by
                    have h1 : z ≠ [] := fun e => by
                      have := HV.out
                      rw [e, numVal_nil] at this
                      exact absurd (congrArg Prod.snd this) (by simp)
                    have := List.length_pos_iff.2 h1
                    have := HLK.out.2.2
                    omega)
                  subst hq
                  clear HAT HNUM HV
                  generalize hy : bs (itoa n) = y at hsl HIT
                  clear hy
                  refine wp_region_held_drew (S := fun W' : World => Below w1.heap.size w1 W') (by kernel_rfl) ((Below.refl _ _).drew) (fun hHeld => ?_)
                  refine wpAnyH_take (i := 0) (oi := _) (v := ?_) rfl (by kernel_rfl) (by kernel_rfl) (by kernel_rfl) (fun _ _ _ h => h) (Or.inl ⟨by rfl, ?_⟩) (by assumption) ?_
                  rotate_left
                  · intro w hSw
                    try dsimp only at hSw
                    go_simp
                    all_goals with_reducible rfl
                  simp only [List.getElem_toArray, List.getElem_cons_succ, List.getElem_cons_zero, Act.put, List.setIfInBounds_toArray, List.set_cons_zero, List.set_cons_succ]
                  refine wpAnyH_take (i := 1) (oi := _) (v := ?_) rfl (by kernel_rfl) (by kernel_rfl) (by kernel_rfl) (fun _ _ _ h => h) (Or.inl ⟨by rfl, ?_⟩) (by assumption) ?_
                  rotate_left
                  · intro w hSw
                    try dsimp only at hSw
                    go_simp
                    all_goals with_reducible rfl
                  simp only [List.getElem_toArray, List.getElem_cons_succ, List.getElem_cons_zero, Act.put, List.setIfInBounds_toArray, List.set_cons_zero, List.set_cons_succ]
                  refine wpAnyH_take (i := 2) (oi := _) (v := ?_) rfl (by kernel_rfl) (by kernel_rfl) (by kernel_rfl) (fun _ _ _ h => h) (Or.inl ⟨by rfl, ?_⟩) (by assumption) ?_
                  rotate_left
                  · intro w hSw
                    try dsimp only at hSw
                    go_simp
                    all_goals with_reducible rfl
                  simp only [List.getElem_toArray, List.getElem_cons_succ, List.getElem_cons_zero, Act.put, List.setIfInBounds_toArray, List.set_cons_zero, List.set_cons_succ]
                  refine wpAnyH_take (i := 3) (oi := _) (v := ?_) rfl (by kernel_rfl) (by kernel_rfl) (by kernel_rfl) (fun _ _ _ h => h) (Or.inl ⟨by rfl, ?_⟩) (by assumption) ?_
                  rotate_left
                  · intro w hSw
                    try dsimp only at hSw
                    go_simp
                    all_goals with_reducible rfl
                  simp only [List.getElem_toArray, List.getElem_cons_succ, List.getElem_cons_zero, Act.put, List.setIfInBounds_toArray, List.set_cons_zero, List.set_cons_succ]
                  refine wpAnyH_take (i := 5) (oi := _) (v := ?_) rfl (by kernel_rfl) (by kernel_rfl) (by kernel_rfl) (fun _ _ _ h => h) (Or.inl ⟨by rfl, ?_⟩) (by assumption) ?_
                  rotate_left
                  · intro w hSw
                    try dsimp only at hSw
                    go_simp
                    all_goals with_reducible rfl
                  simp only [List.getElem_toArray, List.getElem_cons_succ, List.getElem_cons_zero, Act.put, List.setIfInBounds_toArray, List.set_cons_zero, List.set_cons_succ]
                  refine wpAnyH_take (i := 6) (oi := _) (v := ?_) rfl (by kernel_rfl) (by kernel_rfl) (by kernel_rfl) (fun _ _ _ h => h) (Or.inl ⟨by rfl, ?_⟩) (by assumption) ?_
                  rotate_left
                  · intro w hSw
                    try dsimp only at hSw
                    go_simp
                    all_goals with_reducible rfl
                  simp only [List.getElem_toArray, List.getElem_cons_succ, List.getElem_cons_zero, Act.put, List.setIfInBounds_toArray, List.set_cons_zero, List.set_cons_succ]
                  refine wpAnyH_take (i := 7) (oi := _) (v := ?_) rfl (by kernel_rfl) (by kernel_rfl) (by kernel_rfl) (fun _ _ _ h => h) (Or.inl ⟨by rfl, ?_⟩) (by assumption) ?_
                  rotate_left
                  · intro w hSw
                    try dsimp only at hSw
                    go_simp
                    all_goals with_reducible rfl
                  simp only [List.getElem_toArray, List.getElem_cons_succ, List.getElem_cons_zero, Act.put, List.setIfInBounds_toArray, List.set_cons_zero, List.set_cons_succ]
                  refine wpAnyH_take (i := 8) (oi := _) (v := ?_) rfl (by kernel_rfl) (by kernel_rfl) (by kernel_rfl) (fun _ _ _ h => h) (Or.inl ⟨by rfl, ?_⟩) (by assumption) ?_
                  rotate_left
                  · intro w hSw
                    try dsimp only at hSw
                    go_simp
                    all_goals with_reducible rfl
                  simp only [List.getElem_toArray, List.getElem_cons_succ, List.getElem_cons_zero, Act.put, List.setIfInBounds_toArray, List.set_cons_zero, List.set_cons_succ]
                  refine wpAnyH_ready (rs := [4]) (by kernel_rfl) (by simp) ?_
                  refine AllReadyH.cons (o := _) rfl (fun K hK => ?_) AllReadyH.nil
                  go_simp
                  refine (HIT.out _ hHeld).mono ?_
                  rintro e w9 ⟨rfl, k9⟩
                  have HB9 := Lib.hid (hHeld.trans (k9.mono hHeld.size))
                  refine hK.out _ _ HB9.out (fun hHeld1 => ?_)
                  clear hHeld k9 hK K
                  try simp only [List.getElem_toArray, List.getElem_cons_succ, List.getElem_cons_zero, Act.put, List.setIfInBounds_toArray, List.set_cons_zero, List.set_cons_succ]
                  refine wpAnyH_take (i := 9) (oi := _) (v := ?_) rfl (by kernel_rfl) (by kernel_rfl) (by kernel_rfl) (fun _ _ _ h => h) (Or.inl ⟨by rfl, ?_⟩) (by assumption) ?_
                  rotate_left
                  · intro w hSw
                    try dsimp only at hSw
                    go_simp
                    all_goals with_reducible rfl
                  simp only [List.getElem_toArray, List.getElem_cons_succ, List.getElem_cons_zero, Act.put, List.setIfInBounds_toArray, List.set_cons_zero, List.set_cons_succ]
                  refine wpAnyH_take (i := 10) (oi := _) (v := ?_) rfl (by kernel_rfl) (by kernel_rfl) (by kernel_rfl) (fun _ _ _ h => h) (Or.inl ⟨by rfl, ?_⟩) (by assumption) ?_
                  rotate_left
                  · intro w hSw
                    try dsimp only at hSw
                    go_simp
                    all_goals with_reducible rfl
                  simp only [List.getElem_toArray, List.getElem_cons_succ, List.getElem_cons_zero, Act.put, List.setIfInBounds_toArray, List.set_cons_zero, List.set_cons_succ]
                  refine wpAnyH_done (by kernel_rfl) ?_ _
                  clear hHeld1
                  have HK2 := Lib.hid (HK1.out.belowV HB9.out HSZ.out)
                  have HB2 := Lib.hid (HB1.out.trans (HB9.out.mono HB1.out.size))
                  have c0 := HK2.out.cell 0
                  have c1 := HK2.out.cell 1
                  have c2 := HK2.out.cell 2
                  have f0 := HK2.out.froz 0
                  have f1 := HK2.out.froz 1
                  have f2 := HK2.out.froz 2
                  simp only [List.getElem?_toArray, List.getElem?_cons_zero, List.getElem?_cons_succ] at c0 c1 c2
                  have HF := Lib.hid (show Below w.heap.size w (((w9.setCell ⟨w.heap.size, 0, none⟩ (.int .i64 1)).setCell ⟨w.heap.size, 1, none⟩ (.int .i64 n)).setCell ⟨w.heap.size, 2, none⟩ (.string ⟨#[]⟩)) ∧ Blk (((w9.setCell ⟨w.heap.size, 0, none⟩ (.int .i64 1)).setCell ⟨w.heap.size, 1, none⟩ (.int .i64 n)).setCell ⟨w.heap.size, 2, none⟩ (.string ⟨#[]⟩)) w.heap.size 40 #[.int .i64 1, .int .i64 n, .string ⟨#[]⟩] from
                    ⟨((HB2.out.setCell (p := ⟨w.heap.size, 0, none⟩) (Nat.le_refl _) _).setCell (p := ⟨w.heap.size, 1, none⟩) (Nat.le_refl _) _).setCell (p := ⟨w.heap.size, 2, none⟩) (Nat.le_refl _) _, ((HK2.out.setG 0 _).setG 1 _).setG 2 _⟩)
                  go_wp2_with fail
                  have r0 := HF.out.2.cell 0
                  have r1 := HF.out.2.cell 1
                  have r2 := HF.out.2.cell 2
                  simp only [List.getElem?_toArray, List.getElem?_cons_zero, List.getElem?_cons_succ] at r0 r1 r2
                  refine bodyPost_ret (v := .tuple #[.agg #[.int .i64 1, .int .i64 n, .string ⟨#[]⟩], .int .i64 (k : Int)]) (by simp [results, Tryz.f47, go_sem, r0, r1, r2]) rfl ?_
                  exact ⟨1, n, ⟨#[]⟩, (k : Int), rfl, HF.out.1, .inr ⟨k, rfl, HPOS.out, HLK.out.2.1, HZ.out, HX.out⟩⟩
                · have hne := bs_ne hq
                  have HX := Lib.hid (fun y0 y1 y2 r hv hr h => (by
                    obtain ⟨rfl, rfl, h3, h4, h5⟩ := HAT.out y0 y1 y2 r hv hr h
                    rw [HV.out] at h4
                    have : n = y1 := congrArg Prod.fst h4
                    exact hq (by rw [this, h3]) : False))
                  clear hq HAT HNUM HV
                  generalize bs (itoa n) = y at HIT hne
                  generalize bs z = y2 at hsl hne
                  have hzy : (y.toList == y2.toList) = false := by simpa using hne
                  refine wp_region_held_drew (S := fun W' : World => Below w1.heap.size w1 W') (by kernel_rfl) ((Below.refl _ _).drew) (fun hHeld => ?_)
                  refine wpAnyH_take (i := 0) (oi := _) (v := ?_) rfl (by kernel_rfl) (by kernel_rfl) (by kernel_rfl) (fun _ _ _ h => h) (Or.inl ⟨by rfl, ?_⟩) (by assumption) ?_
                  rotate_left
                  · intro w hSw
                    try dsimp only at hSw
                    go_simp
                    all_goals with_reducible rfl
                  simp only [List.getElem_toArray, List.getElem_cons_succ, List.getElem_cons_zero, Act.put, List.setIfInBounds_toArray, List.set_cons_zero, List.set_cons_succ]
                  refine wpAnyH_take (i := 1) (oi := _) (v := ?_) rfl (by kernel_rfl) (by kernel_rfl) (by kernel_rfl) (fun _ _ _ h => h) (Or.inl ⟨by rfl, ?_⟩) (by assumption) ?_
                  rotate_left
                  · intro w hSw
                    try dsimp only at hSw
                    go_simp
                    all_goals with_reducible rfl
                  simp only [List.getElem_toArray, List.getElem_cons_succ, List.getElem_cons_zero, Act.put, List.setIfInBounds_toArray, List.set_cons_zero, List.set_cons_succ]
                  refine wpAnyH_take (i := 2) (oi := _) (v := ?_) rfl (by kernel_rfl) (by kernel_rfl) (by kernel_rfl) (fun _ _ _ h => h) (Or.inl ⟨by rfl, ?_⟩) (by assumption) ?_
                  rotate_left
                  · intro w hSw
                    try dsimp only at hSw
                    go_simp
                    all_goals with_reducible rfl
                  simp only [List.getElem_toArray, List.getElem_cons_succ, List.getElem_cons_zero, Act.put, List.setIfInBounds_toArray, List.set_cons_zero, List.set_cons_succ]
                  refine wpAnyH_take (i := 3) (oi := _) (v := ?_) rfl (by kernel_rfl) (by kernel_rfl) (by kernel_rfl) (fun _ _ _ h => h) (Or.inl ⟨by rfl, ?_⟩) (by assumption) ?_
                  rotate_left
                  · intro w hSw
                    try dsimp only at hSw
                    go_simp
                    all_goals with_reducible rfl
                  simp only [List.getElem_toArray, List.getElem_cons_succ, List.getElem_cons_zero, Act.put, List.setIfInBounds_toArray, List.set_cons_zero, List.set_cons_succ]
                  refine wpAnyH_take (i := 5) (oi := _) (v := ?_) rfl (by kernel_rfl) (by kernel_rfl) (by kernel_rfl) (fun _ _ _ h => h) (Or.inl ⟨by rfl, ?_⟩) (by assumption) ?_
                  rotate_left
                  · intro w hSw
                    try dsimp only at hSw
                    go_simp
                    all_goals with_reducible rfl
                  simp only [List.getElem_toArray, List.getElem_cons_succ, List.getElem_cons_zero, Act.put, List.setIfInBounds_toArray, List.set_cons_zero, List.set_cons_succ]
                  refine wpAnyH_take (i := 6) (oi := _) (v := ?_) rfl (by kernel_rfl) (by kernel_rfl) (by kernel_rfl) (fun _ _ _ h => h) (Or.inl ⟨by rfl, ?_⟩) (by assumption) ?_
                  rotate_left
                  · intro w hSw
                    try dsimp only at hSw
                    go_simp
                    all_goals with_reducible rfl
                  simp only [List.getElem_toArray, List.getElem_cons_succ, List.getElem_cons_zero, Act.put, List.setIfInBounds_toArray, List.set_cons_zero, List.set_cons_succ]
                  refine wpAnyH_take (i := 7) (oi := _) (v := ?_) rfl (by kernel_rfl) (by kernel_rfl) (by kernel_rfl) (fun _ _ _ h => h) (Or.inl ⟨by rfl, ?_⟩) (by assumption) ?_
                  rotate_left
                  · intro w hSw
                    try dsimp only at hSw
                    go_simp
                    all_goals with_reducible rfl
                  simp only [List.getElem_toArray, List.getElem_cons_succ, List.getElem_cons_zero, Act.put, List.setIfInBounds_toArray, List.set_cons_zero, List.set_cons_succ]
                  refine wpAnyH_take (i := 8) (oi := _) (v := ?_) rfl (by kernel_rfl) (by kernel_rfl) (by kernel_rfl) (fun _ _ _ h => h) (Or.inl ⟨by rfl, ?_⟩) (by assumption) ?_
                  rotate_left
                  · intro w hSw
                    try dsimp only at hSw
                    go_simp
                    all_goals with_reducible rfl
                  simp only [List.getElem_toArray, List.getElem_cons_succ, List.getElem_cons_zero, Act.put, List.setIfInBounds_toArray, List.set_cons_zero, List.set_cons_succ]
                  refine wpAnyH_ready (rs := [4]) (by kernel_rfl) (by simp) ?_
                  refine AllReadyH.cons (o := _) rfl (fun K hK => ?_) AllReadyH.nil
                  go_simp
                  refine (HIT.out _ hHeld).mono ?_
                  rintro e w9 ⟨rfl, k9⟩
                  have HB9 := Lib.hid (hHeld.trans (k9.mono hHeld.size))
                  refine hK.out _ _ HB9.out (fun hHeld1 => ?_)
                  clear hHeld k9 hK K
                  try simp only [List.getElem_toArray, List.getElem_cons_succ, List.getElem_cons_zero, Act.put, List.setIfInBounds_toArray, List.set_cons_zero, List.set_cons_succ]
                  refine wpAnyH_take (i := 9) (oi := _) (v := ?_) rfl (by kernel_rfl) (by kernel_rfl) (by kernel_rfl) (fun _ _ _ h => h) (Or.inl ⟨by rfl, ?_⟩) (by assumption) ?_
                  rotate_left
                  · intro w hSw
                    try dsimp only at hSw
                    go_simp
                    all_goals with_reducible rfl
                  simp only [List.getElem_toArray, List.getElem_cons_succ, List.getElem_cons_zero, Act.put, List.setIfInBounds_toArray, List.set_cons_zero, List.set_cons_succ]
                  refine wpAnyH_take (i := 10) (oi := _) (v := ?_) rfl (by kernel_rfl) (by kernel_rfl) (by kernel_rfl) (fun _ _ _ h => h) (Or.inl ⟨by rfl, ?_⟩) (by assumption) ?_
                  rotate_left
                  · intro w hSw
                    try dsimp only at hSw
                    go_simp
                    all_goals with_reducible rfl
                  simp only [List.getElem_toArray, List.getElem_cons_succ, List.getElem_cons_zero, Act.put, List.setIfInBounds_toArray, List.set_cons_zero, List.set_cons_succ]
                  refine wpAnyH_done (by kernel_rfl) ?_ _
                  clear hHeld1
                  have HK2 := Lib.hid (HK1.out.belowV HB9.out HSZ.out)
                  have HB2 := Lib.hid (HB1.out.trans (HB9.out.mono HB1.out.size))
                  have c0 := HK2.out.cell 0
                  have c1 := HK2.out.cell 1
                  have c2 := HK2.out.cell 2
                  have f0 := HK2.out.froz 0
                  have f1 := HK2.out.froz 1
                  have f2 := HK2.out.froz 2
                  simp only [List.getElem?_toArray, List.getElem?_cons_zero, List.getElem?_cons_succ] at c0 c1 c2
                  have HF := Lib.hid (show Below w.heap.size w (((w9.setCell ⟨w.heap.size, 0, none⟩ (.int .i64 0)).setCell ⟨w.heap.size, 1, none⟩ (.int .i64 0)).setCell ⟨w.heap.size, 2, none⟩ (.string ⟨#[]⟩)) ∧ Blk (((w9.setCell ⟨w.heap.size, 0, none⟩ (.int .i64 0)).setCell ⟨w.heap.size, 1, none⟩ (.int .i64 0)).setCell ⟨w.heap.size, 2, none⟩ (.string ⟨#[]⟩)) w.heap.size 40 #[.int .i64 0, .int .i64 0, .string ⟨#[]⟩] from
                    ⟨((HB2.out.setCell (p := ⟨w.heap.size, 0, none⟩) (Nat.le_refl _) _).setCell (p := ⟨w.heap.size, 1, none⟩) (Nat.le_refl _) _).setCell (p := ⟨w.heap.size, 2, none⟩) (Nat.le_refl _) _, ((HK2.out.setG 0 _).setG 1 _).setG 2 _⟩)
                  go_wp2_with fail
                  have r0 := HF.out.2.cell 0
                  have r1 := HF.out.2.cell 1
                  have r2 := HF.out.2.cell 2
                  simp only [List.getElem?_toArray, List.getElem?_cons_zero, List.getElem?_cons_succ] at r0 r1 r2
                  refine bodyPost_ret (v := .tuple #[.agg #[.int .i64 0, .int .i64 0, .string ⟨#[]⟩], .int .i64 (-1)]) (by simp [results, Tryz.f47, go_sem, r0, r1, r2]) rfl ?_
                  exact ⟨0, 0, ⟨#[]⟩, -1, rfl, HF.out.1, .inl ⟨rfl, fun y0 y1 y2 r hv hr h => HX.out y0 y1 y2 r hv hr h⟩⟩
  · have i1 : ¬ (i : Int) < (s.size : Int) := by omega
    have HH := Lib.hid (show (s.data.toList.drop i).head? ≠ some 126 ∧ (s.data.toList.drop i).head? ≠ some 34 from by
      rw [List.drop_eq_nil_of_le (by simp; omega)]
      exact ⟨by simp, by simp⟩)
    have HI := Lib.hid (show i ≤ s.size ∧ s.size ≤ 70000 from ⟨hi, hs⟩)
    generalize hw1 : w.alloc (.cells #[.int .i64 0, .int .i64 0, .string ⟨#[]⟩] 40) = w1 at HK1 HB1 HT1 HSZ
    go_enter Tryz.func47, Tryz.ntmps47
    go_wp2_with fail
    go_loop [8] (fun t => ∃ k : Nat, t = .int .i64 k ∧ i ≤ k ∧ k ≤ s.size ∧ Hid (∀ c ∈ (s.data.toList.drop i).take (k - i), c ≠ 44)) (fun t => s.size - (RowKit.intOf t).toNat)
    case atStart => exact ⟨i, rfl, Nat.le_refl _, HI.out.1, by rw [Nat.sub_self, List.take_zero]; exact fun c h => by cases h⟩
    case round =>
      obtain ⟨k, rfl, hik, hks, HN⟩ := hrel
      have k0 : (0 : Int) ≤ (k : Int) := by omega
      have hex : (k < s.size ∧ ∃ h : k < s.size, s[k].toNat ≠ 44) ∨ (Tail (s.data.toList.drop k) ∧ ((¬ k < s.size) ∨ ∃ h : k < s.size, s[k].toNat = 44)) := by
        by_cases h : k < s.size
        · by_cases h44 : s[k].toNat = 44
          · exact .inr ⟨.inr ⟨s.data.toList.drop (k + 1), by rw [drop_at h, u8_of h44]; rfl⟩, .inr ⟨h, h44⟩⟩
          · exact .inl ⟨h, h, h44⟩
        · exact .inr ⟨.inl (List.drop_eq_nil_of_le (by simp; omega)), .inl h⟩
      rcases hex with ⟨hkl, _, h44⟩ | ⟨htl, hstop⟩
      · have k1 : (k : Int) < (s.size : Int) := by omega
        have e44 : ((s[k].toNat : Int) == 44) = false := by rw [beq_eq_false_iff_ne]; omega
        have n44 : ((s[k].toNat : Int) != 44) = true := by rw [bne_iff_ne]; omega
        have HNX := Lib.hid (show ∀ c ∈ (s.data.toList.drop i).take (k + 1 - i), c ≠ 44 from fun c hc => by
          have hlk : k - i < (s.data.toList.drop i).length := by rw [List.length_drop]; simp; omega
          rw [show k + 1 - i = k - i + 1 by omega, List.take_succ_eq_append_getElem hlk] at hc
          rcases List.mem_append.1 hc with h | h
          · exact HN.out c h
          · rw [List.mem_singleton] at h
            subst h
            intro e
            apply h44
            have e2 : (s.data.toList.drop i)[k - i]? = some s[k] := by
              rw [List.getElem?_drop, show i + (k - i) = k by omega]
              exact (List.getElem?_eq_getElem (by simpa using hkl)).trans rfl
            rw [List.getElem?_eq_getElem hlk] at e2
            have e3 := Option.some.inj e2
            rw [← e3, e]; rfl)
        have HKL := Lib.hid hkl
        clear HN h44
        go_wp2_with fail
        go_round
        case rel => exact ⟨k + 1, by have := HI.out.2; go_num, by omega, HKL.out, HNX.out⟩
        case measure => have := HKL.out; have := HI.out.2; simp [RowKit.intOf]; omega
      · obtain ⟨z, hz⟩ : ∃ z, z = (s.data.toList.drop i).take (k - i) := ⟨_, rfl⟩
        have hzl : z.length = k - i := by rw [hz, List.length_take, List.length_drop]; simp; omega
        have HZ := Lib.hid (show s.data.toList.drop i = z ++ s.data.toList.drop k by
          rw [hz]
          conv => lhs; rw [← List.take_append_drop (k - i) (s.data.toList.drop i)]
          rw [List.drop_drop, show i + (k - i) = k by omega])
        have HZN := Lib.hid (show ∀ c ∈ z, c ≠ 44 by rw [hz]; exact HN.out)
        have HTL := Lib.hid htl
        have p1 : (i : Int) ≤ (k : Int) := by omega
        have p2 : (k : Int) ≤ (s.size : Int) := by omega
        have hsl : ∀ W, (Instr.slice 9 (.string s) (some (.int .i64 (i : Int))) (some (.int .i64 (k : Int))) none).run Tryz.prog W = .ok (.string (bs z)) W := fun W => by
          rw [hz, ← ext_take]
          simp [Instr.slice, run_underlying Tryz.underlying9, Instr.sliceBounds, run_sliceBound, p1, p2, i0, k0]
        have hzs : (bs z).size ≤ 1000000 := by rw [bs_size]; have := HI.out.2; omega
        have HNUM := Lib.hid (fun W => refNumber_any (bs z) hzs W)
        rw [bs_data] at HNUM
        have HAT := Lib.hid (fun (y0 y1 : Int) (y2 : ByteArray) (r : List UInt8) (hv : validV y0 y1 y2 = true) (hr : Tail r) (h : s.data.toList.drop i = textV (y0, y1, y2) ++ r) => at_num HZ.out HZN.out htl HH.out.1 HH.out.2 hv hr h)
        have HR := Lib.hid (numVal_range z)
        obtain ⟨n, hn⟩ : ∃ n, n = (numVal z).1 := ⟨_, rfl⟩
        obtain ⟨ok, hok⟩ : ∃ ok, ok = (numVal z).2 := ⟨_, rfl⟩
        have HV := Lib.hid (show numVal z = (n, ok) by rw [hn, hok])
        rw [← hn] at HNUM HR
        rw [← hok] at HNUM
        have HLK := Lib.hid (And.intro hik (And.intro hks hzl))
        have hs1 : k < s.size → ∃ h : k < s.size, ((s[k].toNat : Int) == 44) = true ∧ ((s[k].toNat : Int) != 44) = false := fun h => by
          rcases hstop with h1 | ⟨h1, h2⟩
          · exact absurd h h1
          · exact ⟨h1, by rw [h2]; exact ⟨rfl, rfl⟩⟩
        clear hstop HN hz hzl hzs hn hok HH htl
        by_cases hkl : k < s.size
        · exact absurd hkl (by omega)
        · have k1 : ¬ (k : Int) < (s.size : Int) := by omega
          clear hs1
          go_wp2_with fail
          refine (HNUM.out _).mono ?_
          rintro e w9 ⟨rfl, rfl⟩
          go_wp2_with fail
          cases ok with
          | false =>
            have HX := Lib.hid (fun y0 y1 y2 r hv hr h => (by
              have h1 := (HAT.out y0 y1 y2 r hv hr h).2.2.2.1
              rw [HV.out] at h1
              exact absurd (congrArg Prod.snd h1) (by simp) : False))
            go_quiet (fail)
            have HK2 := Lib.hid (HK1.out.belowV (below_drewN (Below.refl w1.heap.size w1) nq) HSZ.out)
            have HB2 := Lib.hid (below_drewN HB1.out nq)
            generalize w1.drewN nq = w2 at HK2 HB2 ⊢
            have c0 := HK2.out.cell 0
            have c1 := HK2.out.cell 1
            have c2 := HK2.out.cell 2
            have f0 := HK2.out.froz 0
            have f1 := HK2.out.froz 1
            have f2 := HK2.out.froz 2
            simp only [List.getElem?_toArray, List.getElem?_cons_zero, List.getElem?_cons_succ] at c0 c1 c2
            have HF := Lib.hid (show Below w.heap.size w (((w2.setCell ⟨w.heap.size, 0, none⟩ (.int .i64 0)).setCell ⟨w.heap.size, 1, none⟩ (.int .i64 0)).setCell ⟨w.heap.size, 2, none⟩ (.string ⟨#[]⟩)) ∧ Blk (((w2.setCell ⟨w.heap.size, 0, none⟩ (.int .i64 0)).setCell ⟨w.heap.size, 1, none⟩ (.int .i64 0)).setCell ⟨w.heap.size, 2, none⟩ (.string ⟨#[]⟩)) w.heap.size 40 #[.int .i64 0, .int .i64 0, .string ⟨#[]⟩] from
              ⟨((HB2.out.setCell (p := ⟨w.heap.size, 0, none⟩) (Nat.le_refl _) _).setCell (p := ⟨w.heap.size, 1, none⟩) (Nat.le_refl _) _).setCell (p := ⟨w.heap.size, 2, none⟩) (Nat.le_refl _) _, ((HK2.out.setG 0 _).setG 1 _).setG 2 _⟩)
            go_wp2_with fail
            have r0 := HF.out.2.cell 0
            have r1 := HF.out.2.cell 1
            have r2 := HF.out.2.cell 2
            simp only [List.getElem?_toArray, List.getElem?_cons_zero, List.getElem?_cons_succ] at r0 r1 r2
            refine bodyPost_ret (v := .tuple #[.agg #[.int .i64 0, .int .i64 0, .string ⟨#[]⟩], .int .i64 (-1)]) (by simp [results, Tryz.f47, go_sem, r0, r1, r2]) rfl ?_
            exact ⟨0, 0, ⟨#[]⟩, -1, rfl, HF.out.1, .inl ⟨rfl, fun y0 y1 y2 r hv hr h => HX.out y0 y1 y2 r hv hr h⟩⟩
          | true =>
            have HIT := Lib.hid (fun W (hb : Below w1.heap.size w1 W) => itoa_any n HR.out.1 HR.out.2 w.heap.size W (HT1.out.onT (hb.mono HB1.out.size)))
            rw [show (⟨(itoa n).toArray⟩ : ByteArray) = bs (itoa n) from rfl] at HIT
            by_cases hq : itoa n = z
            · have HX := Lib.hid (fun y0 y1 y2 r hv hr h => (by
                obtain ⟨rfl, rfl, h3, h4, h5⟩ := HAT.out y0 y1 y2 r hv hr h
                rw [HV.out] at h4
                have : n = y1 := congrArg Prod.fst h4
                exact ⟨by rw [this], h5⟩ : (y0, y1, y2) = ((1 : Int), n, (⟨#[]⟩ : ByteArray)) ∧ r = s.data.toList.drop k))
              have HPOS := Lib.hid (show i < k by
                have h1 : z ≠ [] := fun e => by
                  have := HV.out
                  rw [e, numVal_nil] at this
                  exact absurd (congrArg Prod.snd this) (by simp)
                have := List.length_pos_iff.2 h1
                have := HLK.out.2.2
                omega)
              subst hq
              clear HAT HNUM HV
              generalize hy : bs (itoa n) = y at hsl HIT
              clear hy
              refine wp_region_held_drew (S := fun W' : World => Below w1.heap.size w1 W') (by kernel_rfl) ((Below.refl _ _).drew) (fun hHeld => ?_)
              refine wpAnyH_take (i := 0) (oi := _) (v := ?_) rfl (by kernel_rfl) (by kernel_rfl) (by kernel_rfl) (fun _ _ _ h => h) (Or.inl ⟨by rfl, ?_⟩) (by assumption) ?_
              rotate_left
              · intro w hSw
                try dsimp only at hSw
                go_simp
                all_goals with_reducible rfl
              simp only [List.getElem_toArray, List.getElem_cons_succ, List.getElem_cons_zero, Act.put, List.setIfInBounds_toArray, List.set_cons_zero, List.set_cons_succ]
              refine wpAnyH_take (i := 1) (oi := _) (v := ?_) rfl (by kernel_rfl) (by kernel_rfl) (by kernel_rfl) (fun _ _ _ h => h) (Or.inl ⟨by rfl, ?_⟩) (by assumption) ?_
              rotate_left
              · intro w hSw
                try dsimp only at hSw
                go_simp
                all_goals with_reducible rfl
              simp only [List.getElem_toArray, List.getElem_cons_succ, List.getElem_cons_zero, Act.put, List.setIfInBounds_toArray, List.set_cons_zero, List.set_cons_succ]
              refine wpAnyH_take (i := 2) (oi := _) (v := ?_) rfl (by kernel_rfl) (by kernel_rfl) (by kernel_rfl) (fun _ _ _ h => h) (Or.inl ⟨by rfl, ?_⟩) (by assumption) ?_
              rotate_left
              · intro w hSw
                try dsimp only at hSw
                go_simp
                all_goals with_reducible rfl
              simp only [List.getElem_toArray, List.getElem_cons_succ, List.getElem_cons_zero, Act.put, List.setIfInBounds_toArray, List.set_cons_zero, List.set_cons_succ]
              refine wpAnyH_take (i := 3) (oi := _) (v := ?_) rfl (by kernel_rfl) (by kernel_rfl) (by kernel_rfl) (fun _ _ _ h => h) (Or.inl ⟨by rfl, ?_⟩) (by assumption) ?_
              rotate_left
              · intro w hSw
                try dsimp only at hSw
                go_simp
                all_goals with_reducible rfl
              simp only [List.getElem_toArray, List.getElem_cons_succ, List.getElem_cons_zero, Act.put, List.setIfInBounds_toArray, List.set_cons_zero, List.set_cons_succ]
              refine wpAnyH_take (i := 5) (oi := _) (v := ?_) rfl (by kernel_rfl) (by kernel_rfl) (by kernel_rfl) (fun _ _ _ h => h) (Or.inl ⟨by rfl, ?_⟩) (by assumption) ?_
              rotate_left
              · intro w hSw
                try dsimp only at hSw
                go_simp
                all_goals with_reducible rfl
              simp only [List.getElem_toArray, List.getElem_cons_succ, List.getElem_cons_zero, Act.put, List.setIfInBounds_toArray, List.set_cons_zero, List.set_cons_succ]
              refine wpAnyH_take (i := 6) (oi := _) (v := ?_) rfl (by kernel_rfl) (by kernel_rfl) (by kernel_rfl) (fun _ _ _ h => h) (Or.inl ⟨by rfl, ?_⟩) (by assumption) ?_
              rotate_left
              · intro w hSw
                try dsimp only at hSw
                go_simp
                all_goals with_reducible rfl
              simp only [List.getElem_toArray, List.getElem_cons_succ, List.getElem_cons_zero, Act.put, List.setIfInBounds_toArray, List.set_cons_zero, List.set_cons_succ]
              refine wpAnyH_take (i := 7) (oi := _) (v := ?_) rfl (by kernel_rfl) (by kernel_rfl) (by kernel_rfl) (fun _ _ _ h => h) (Or.inl ⟨by rfl, ?_⟩) (by assumption) ?_
              rotate_left
              · intro w hSw
                try dsimp only at hSw
                go_simp
                all_goals with_reducible rfl
              simp only [List.getElem_toArray, List.getElem_cons_succ, List.getElem_cons_zero, Act.put, List.setIfInBounds_toArray, List.set_cons_zero, List.set_cons_succ]
              refine wpAnyH_take (i := 8) (oi := _) (v := ?_) rfl (by kernel_rfl) (by kernel_rfl) (by kernel_rfl) (fun _ _ _ h => h) (Or.inl ⟨by rfl, ?_⟩) (by assumption) ?_
              rotate_left
              · intro w hSw
                try dsimp only at hSw
                go_simp
                all_goals with_reducible rfl
              simp only [List.getElem_toArray, List.getElem_cons_succ, List.getElem_cons_zero, Act.put, List.setIfInBounds_toArray, List.set_cons_zero, List.set_cons_succ]
              refine wpAnyH_ready (rs := [4]) (by kernel_rfl) (by simp) ?_
              refine AllReadyH.cons (o := _) rfl (fun K hK => ?_) AllReadyH.nil
              go_simp
              refine (HIT.out _ hHeld).mono ?_
              rintro e w9 ⟨rfl, k9⟩
              have HB9 := Lib.hid (hHeld.trans (k9.mono hHeld.size))
              refine hK.out _ _ HB9.out (fun hHeld1 => ?_)
              clear hHeld k9 hK K
              try simp only [List.getElem_toArray, List.getElem_cons_succ, List.getElem_cons_zero, Act.put, List.setIfInBounds_toArray, List.set_cons_zero, List.set_cons_succ]
              refine wpAnyH_take (i := 9) (oi := _) (v := ?_) rfl (by kernel_rfl) (by kernel_rfl) (by kernel_rfl) (fun _ _ _ h => h) (Or.inl ⟨by rfl, ?_⟩) (by assumption) ?_
              rotate_left
              · intro w hSw
                try dsimp only at hSw
                go_simp
                all_goals with_reducible rfl
              simp only [List.getElem_toArray, List.getElem_cons_succ, List.getElem_cons_zero, Act.put, List.setIfInBounds_toArray, List.set_cons_zero, List.set_cons_succ]
              refine wpAnyH_take (i := 10) (oi := _) (v := ?_) rfl (by kernel_rfl) (by kernel_rfl) (by kernel_rfl) (fun _ _ _ h => h) (Or.inl ⟨by rfl, ?_⟩) (by assumption) ?_
              rotate_left
              · intro w hSw
                try dsimp only at hSw
                go_simp
                all_goals with_reducible rfl
              simp only [List.getElem_toArray, List.getElem_cons_succ, List.getElem_cons_zero, Act.put, List.setIfInBounds_toArray, List.set_cons_zero, List.set_cons_succ]
              refine wpAnyH_done (by kernel_rfl) ?_ _
              clear hHeld1
              have HK2 := Lib.hid (HK1.out.belowV HB9.out HSZ.out)
              have HB2 := Lib.hid (HB1.out.trans (HB9.out.mono HB1.out.size))
              have c0 := HK2.out.cell 0
              have c1 := HK2.out.cell 1
              have c2 := HK2.out.cell 2
              have f0 := HK2.out.froz 0
              have f1 := HK2.out.froz 1
              have f2 := HK2.out.froz 2
              simp only [List.getElem?_toArray, List.getElem?_cons_zero, List.getElem?_cons_succ] at c0 c1 c2
              have HF := Lib.hid (show Below w.heap.size w (((w9.setCell ⟨w.heap.size, 0, none⟩ (.int .i64 1)).setCell ⟨w.heap.size, 1, none⟩ (.int .i64 n)).setCell ⟨w.heap.size, 2, none⟩ (.string ⟨#[]⟩)) ∧ Blk (((w9.setCell ⟨w.heap.size, 0, none⟩ (.int .i64 1)).setCell ⟨w.heap.size, 1, none⟩ (.int .i64 n)).setCell ⟨w.heap.size, 2, none⟩ (.string ⟨#[]⟩)) w.heap.size 40 #[.int .i64 1, .int .i64 n, .string ⟨#[]⟩] from
                ⟨((HB2.out.setCell (p := ⟨w.heap.size, 0, none⟩) (Nat.le_refl _) _).setCell (p := ⟨w.heap.size, 1, none⟩) (Nat.le_refl _) _).setCell (p := ⟨w.heap.size, 2, none⟩) (Nat.le_refl _) _, ((HK2.out.setG 0 _).setG 1 _).setG 2 _⟩)
              go_wp2_with fail
              have r0 := HF.out.2.cell 0
              have r1 := HF.out.2.cell 1
              have r2 := HF.out.2.cell 2
              simp only [List.getElem?_toArray, List.getElem?_cons_zero, List.getElem?_cons_succ] at r0 r1 r2
              refine bodyPost_ret (v := .tuple #[.agg #[.int .i64 1, .int .i64 n, .string ⟨#[]⟩], .int .i64 (k : Int)]) (by simp [results, Tryz.f47, go_sem, r0, r1, r2]) rfl ?_
              exact ⟨1, n, ⟨#[]⟩, (k : Int), rfl, HF.out.1, .inr ⟨k, rfl, HPOS.out, HLK.out.2.1, HZ.out, HX.out⟩⟩
            · have hne := bs_ne hq
              have HX := Lib.hid (fun y0 y1 y2 r hv hr h => (by
                obtain ⟨rfl, rfl, h3, h4, h5⟩ := HAT.out y0 y1 y2 r hv hr h
                rw [HV.out] at h4
                have : n = y1 := congrArg Prod.fst h4
                exact hq (by rw [this, h3]) : False))
              clear hq HAT HNUM HV
              generalize bs (itoa n) = y at HIT hne
              generalize bs z = y2 at hsl hne
              have hzy : (y.toList == y2.toList) = false := by simpa using hne
              refine wp_region_held_drew (S := fun W' : World => Below w1.heap.size w1 W') (by kernel_rfl) ((Below.refl _ _).drew) (fun hHeld => ?_)
              refine wpAnyH_take (i := 0) (oi := _) (v := ?_) rfl (by kernel_rfl) (by kernel_rfl) (by kernel_rfl) (fun _ _ _ h => h) (Or.inl ⟨by rfl, ?_⟩) (by assumption) ?_
              rotate_left
              · intro w hSw
                try dsimp only at hSw
                go_simp
                all_goals with_reducible rfl
              simp only [List.getElem_toArray, List.getElem_cons_succ, List.getElem_cons_zero, Act.put, List.setIfInBounds_toArray, List.set_cons_zero, List.set_cons_succ]
              refine wpAnyH_take (i := 1) (oi := _) (v := ?_) rfl (by kernel_rfl) (by kernel_rfl) (by kernel_rfl) (fun _ _ _ h => h) (Or.inl ⟨by rfl, ?_⟩) (by assumption) ?_
              rotate_left
              · intro w hSw
                try dsimp only at hSw
                go_simp
                all_goals with_reducible rfl
              simp only [List.getElem_toArray, List.getElem_cons_succ, List.getElem_cons_zero, Act.put, List.setIfInBounds_toArray, List.set_cons_zero, List.set_cons_succ]
              refine wpAnyH_take (i := 2) (oi := _) (v := ?_) rfl (by kernel_rfl) (by kernel_rfl) (by kernel_rfl) (fun _ _ _ h => h) (Or.inl ⟨by rfl, ?_⟩) (by assumption) ?_
              rotate_left
              · intro w hSw
                try dsimp only at hSw
                go_simp
                all_goals with_reducible rfl
              simp only [List.getElem_toArray, List.getElem_cons_succ, List.getElem_cons_zero, Act.put, List.setIfInBounds_toArray, List.set_cons_zero, List.set_cons_succ]
              refine wpAnyH_take (i := 3) (oi := _) (v := ?_) rfl (by kernel_rfl) (by kernel_rfl) (by kernel_rfl) (fun _ _ _ h => h) (Or.inl ⟨by rfl, ?_⟩) (by assumption) ?_
              rotate_left
              · intro w hSw
                try dsimp only at hSw
                go_simp
                all_goals with_reducible rfl
              simp only [List.getElem_toArray, List.getElem_cons_succ, List.getElem_cons_zero, Act.put, List.setIfInBounds_toArray, List.set_cons_zero, List.set_cons_succ]
              refine wpAnyH_take (i := 5) (oi := _) (v := ?_) rfl (by kernel_rfl) (by kernel_rfl) (by kernel_rfl) (fun _ _ _ h => h) (Or.inl ⟨by rfl, ?_⟩) (by assumption) ?_
              rotate_left
              · intro w hSw
                try dsimp only at hSw
                go_simp
                all_goals with_reducible rfl
              simp only [List.getElem_toArray, List.getElem_cons_succ, List.getElem_cons_zero, Act.put, List.setIfInBounds_toArray, List.set_cons_zero, List.set_cons_succ]
              refine wpAnyH_take (i := 6) (oi := _) (v := ?_) rfl (by kernel_rfl) (by kernel_rfl) (by kernel_rfl) (fun _ _ _ h => h) (Or.inl ⟨by rfl, ?_⟩) (by assumption) ?_
              rotate_left
              · intro w hSw
                try dsimp only at hSw
                go_simp
                all_goals with_reducible rfl
              simp only [List.getElem_toArray, List.getElem_cons_succ, List.getElem_cons_zero, Act.put, List.setIfInBounds_toArray, List.set_cons_zero, List.set_cons_succ]
              refine wpAnyH_take (i := 7) (oi := _) (v := ?_) rfl (by kernel_rfl) (by kernel_rfl) (by kernel_rfl) (fun _ _ _ h => h) (Or.inl ⟨by rfl, ?_⟩) (by assumption) ?_
              rotate_left
              · intro w hSw
                try dsimp only at hSw
                go_simp
                all_goals with_reducible rfl
              simp only [List.getElem_toArray, List.getElem_cons_succ, List.getElem_cons_zero, Act.put, List.setIfInBounds_toArray, List.set_cons_zero, List.set_cons_succ]
              refine wpAnyH_take (i := 8) (oi := _) (v := ?_) rfl (by kernel_rfl) (by kernel_rfl) (by kernel_rfl) (fun _ _ _ h => h) (Or.inl ⟨by rfl, ?_⟩) (by assumption) ?_
              rotate_left
              · intro w hSw
                try dsimp only at hSw
                go_simp
                all_goals with_reducible rfl
              simp only [List.getElem_toArray, List.getElem_cons_succ, List.getElem_cons_zero, Act.put, List.setIfInBounds_toArray, List.set_cons_zero, List.set_cons_succ]
              refine wpAnyH_ready (rs := [4]) (by kernel_rfl) (by simp) ?_
              refine AllReadyH.cons (o := _) rfl (fun K hK => ?_) AllReadyH.nil
              go_simp
              refine (HIT.out _ hHeld).mono ?_
              rintro e w9 ⟨rfl, k9⟩
              have HB9 := Lib.hid (hHeld.trans (k9.mono hHeld.size))
              refine hK.out _ _ HB9.out (fun hHeld1 => ?_)
              clear hHeld k9 hK K
              try simp only [List.getElem_toArray, List.getElem_cons_succ, List.getElem_cons_zero, Act.put, List.setIfInBounds_toArray, List.set_cons_zero, List.set_cons_succ]
              refine wpAnyH_take (i := 9) (oi := _) (v := ?_) rfl (by kernel_rfl) (by kernel_rfl) (by kernel_rfl) (fun _ _ _ h => h) (Or.inl ⟨by rfl, ?_⟩) (by assumption) ?_
              rotate_left
              · intro w hSw
                try dsimp only at hSw
                go_simp
                all_goals with_reducible rfl
              simp only [List.getElem_toArray, List.getElem_cons_succ, List.getElem_cons_zero, Act.put, List.setIfInBounds_toArray, List.set_cons_zero, List.set_cons_succ]
              refine wpAnyH_take (i := 10) (oi := _) (v := ?_) rfl (by kernel_rfl) (by kernel_rfl) (by kernel_rfl) (fun _ _ _ h => h) (Or.inl ⟨by rfl, ?_⟩) (by assumption) ?_
              rotate_left
              · intro w hSw
                try dsimp only at hSw
                go_simp
                all_goals with_reducible rfl
              simp only [List.getElem_toArray, List.getElem_cons_succ, List.getElem_cons_zero, Act.put, List.setIfInBounds_toArray, List.set_cons_zero, List.set_cons_succ]
              refine wpAnyH_done (by kernel_rfl) ?_ _
              clear hHeld1
              have HK2 := Lib.hid (HK1.out.belowV HB9.out HSZ.out)
              have HB2 := Lib.hid (HB1.out.trans (HB9.out.mono HB1.out.size))
              have c0 := HK2.out.cell 0
              have c1 := HK2.out.cell 1
              have c2 := HK2.out.cell 2
              have f0 := HK2.out.froz 0
              have f1 := HK2.out.froz 1
              have f2 := HK2.out.froz 2
              simp only [List.getElem?_toArray, List.getElem?_cons_zero, List.getElem?_cons_succ] at c0 c1 c2
              have HF := Lib.hid (show Below w.heap.size w (((w9.setCell ⟨w.heap.size, 0, none⟩ (.int .i64 0)).setCell ⟨w.heap.size, 1, none⟩ (.int .i64 0)).setCell ⟨w.heap.size, 2, none⟩ (.string ⟨#[]⟩)) ∧ Blk (((w9.setCell ⟨w.heap.size, 0, none⟩ (.int .i64 0)).setCell ⟨w.heap.size, 1, none⟩ (.int .i64 0)).setCell ⟨w.heap.size, 2, none⟩ (.string ⟨#[]⟩)) w.heap.size 40 #[.int .i64 0, .int .i64 0, .string ⟨#[]⟩] from
                ⟨((HB2.out.setCell (p := ⟨w.heap.size, 0, none⟩) (Nat.le_refl _) _).setCell (p := ⟨w.heap.size, 1, none⟩) (Nat.le_refl _) _).setCell (p := ⟨w.heap.size, 2, none⟩) (Nat.le_refl _) _, ((HK2.out.setG 0 _).setG 1 _).setG 2 _⟩)
              go_wp2_with fail
              have r0 := HF.out.2.cell 0
              have r1 := HF.out.2.cell 1
              have r2 := HF.out.2.cell 2
              simp only [List.getElem?_toArray, List.getElem?_cons_zero, List.getElem?_cons_succ] at r0 r1 r2
              refine bodyPost_ret (v := .tuple #[.agg #[.int .i64 0, .int .i64 0, .string ⟨#[]⟩], .int .i64 (-1)]) (by simp [results, Tryz.f47, go_sem, r0, r1, r2]) rfl ?_
              exact ⟨0, 0, ⟨#[]⟩, -1, rfl, HF.out.1, .inl ⟨rfl, fun y0 y1 y2 r hv hr h => HX.out y0 y1 y2 r hv hr h⟩⟩
end Go.Proofs.YtledgnolmiecfaaGreatDoor
