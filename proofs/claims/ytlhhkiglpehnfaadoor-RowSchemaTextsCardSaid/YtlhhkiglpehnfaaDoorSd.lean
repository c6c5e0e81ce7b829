/-
  ParseSchema of the document's own rows, as a contract.
-/
import Derived.Test.YtlhhkiglpehnfaaDoorSc
import Derived.Laws.AppendOwn
namespace Go.Proofs.YtlhhkiglpehnfaaDoor
open Go.RowKit
set_option linter.unusedSimpArgs false
set_option linter.unusedVariables false

def ParseP (w : World) (l : List Col) (er : Int) (e : Ending) (w' : World) : Prop := ∃ v, e = .returned (.tuple #[v, .int .i64 er]) ∧ OwnsC w' w.heap.size v l ∧ Below w.heap.size w w'
def stateD (s : List UInt8) (i : Nat) : List Col × List UInt8 := if i ≤ s.length then scanD (s.take i) else (docCols s, [])
theorem stateD_next {s : ByteArray} {i : Nat} (h : i < s.size) : stateD s.data.toList (i + 1) = stepD (stateD s.data.toList i) s[i] := by
  have hl : s.data.toList.length = s.size := by simp
  unfold stateD
  rw [if_pos (by omega), if_pos (by omega), List.take_succ_eq_append_getElem (by simpa using h), scanD_snoc]
  rfl
theorem stateD_last {s : ByteArray} : stateD s.data.toList (s.size + 1) = (flushD (stateD s.data.toList s.size).1 (stateD s.data.toList s.size).2, []) := by
  have hl : s.data.toList.length = s.size := by simp
  unfold stateD
  rw [if_neg (by omega), if_pos (by omega), ← hl, List.take_length]
  rfl
theorem drop_size (t : ByteArray) (k : Nat) : (t.extract (t.size - k) t.size).toList = t.data.toList.drop (t.data.toList.length - k) := by
  have hl : t.data.toList.length = t.size := by simp
  rw [ByteArray.toList_eq, ByteArray.data_extract, Array.toList_extract, List.extract_eq_take_drop, hl]
  exact List.take_of_length_le (by rw [List.length_drop]; omega)
theorem take_size (t : ByteArray) (k : Nat) : (⟨(t.data.toList.take k).toArray⟩ : ByteArray) = t.extract 0 k := by
  have : (t.extract 0 k).data = (t.data.toList.take k).toArray := by
    apply Array.toList_inj.1
    rw [ByteArray.data_extract, Array.toList_extract, List.extract_eq_take_drop]
    simp
  cases h : t.extract 0 k with
  | mk d => rw [h] at this; rw [ByteArray.mk.injEq]; exact this.symm
theorem piece_atS {s : ByteArray} {i : Nat} (h : i < s.size) : (s.extract i (i + 1)).data.toList = [s[i]] := by
  have hl : i < s.data.toList.length := by simpa using h
  rw [ByteArray.data_extract, Array.toList_extract, List.extract_eq_take_drop, List.drop_eq_getElem_cons hl, show i + 1 - i = 1 by omega]
  rfl
theorem glue_atS {s x : ByteArray} {i : Nat} (h : i < s.size) : (x ++ s.extract i (i + 1)).data.toList = x.data.toList ++ [s[i]] := by
  rw [ByteArray.data_append, Array.toList_append, piece_atS h]
theorem cells_newS (w : World) (cs : Array Value) (t : TypeId) : ∀ (j : Nat) (u : Value), cs.toList[j]? = some u → (w.alloc (.cells cs t)).cell? ((⟨w.heap.size, 0, none⟩ : Addr).add j) = some u := fun j u h => by
  have hb : (w.alloc (.cells cs t)).heap[w.heap.size]? = some (.cells cs t (0, 0)) := heap_alloc_new w _
  rw [Go.WideShapes.add_plain]
  simp only [World.cell?, hb, Nat.zero_add]
  simpa using h
theorem slice_of_ownsC {W : World} {lo n : Nat} {v : Value} {xs : List Value} (h : W.ownsRow lo 39 2 v n xs) : ∃ q cap, v = .slice q n cap ∧ n ≤ cap ∧ cap ≤ maxLen := by
  rcases h.2 with ⟨h0, hn⟩ | ⟨g, cap, cur, he, _, _, h1, h2, _⟩
  · exact ⟨none, 0, by rw [h0, hn], by omega, Nat.zero_le _⟩
  · exact ⟨_, cap, he, h1, h2⟩
def Short (ls : List Col) : Prop := ∀ j, (colAt ls j).1.size ≤ 300
theorem short_nil : Short [] := fun j => by simp [colAt, c0, ByteArray.size]
theorem short_app {ls : List Col} {x : Col} (h : Short ls) (hx : x.1.size ≤ 300) : Short (ls ++ [x]) := fun j => by
  unfold colAt
  by_cases hj : j < ls.length
  · rw [List.getElem?_append_left hj]; exact h j
  · rw [List.getElem?_append_right (by omega)]
    by_cases h2 : j - ls.length = 0
    · rw [h2]; exact hx
    · rw [List.getElem?_eq_none (by simp; omega)]; simp [c0, ByteArray.size]

set_option maxRecDepth 100000 in
set_option maxHeartbeats 4000000 in
theorem refParseS_any (s : ByteArray) (hs : s.size < 300) (w : World) (er : Int) (out : List Col) (hfin : (¬ s.toList = [] ∧ fmtS (docCols s.data.toList) = s.data.toList ∧ er = 0 ∧ out = docCols s.data.toList) ∨ ((s.toList = [] ∨ fmtS (docCols s.data.toList) ≠ s.data.toList) ∧ er = 2 ∧ out = [])) :
    Calls Tryd.prog 10 #[.string s] w (ParseP w out er) := by
  obtain ⟨i0, hii, hz0, hz1, hz2⟩ := info_parts infoC
  have h1 : (s.size : Int) ≤ 65536 := by omega
  have h2 : (s.size : Int) < 300 := by omega
  have HFI := Lib.hid hfin
  have HSZ := Lib.hid hs
  clear hfin
  go_enter Tryd.func10, Tryd.ntmps10
  go_wp2_with fail
  go_loopw [4, 5, 6] (fun o tt c wr => ∃ (i cap : Nat) (q : Option Addr) (ls : List Col) (t : ByteArray), o = .slice q ls.length cap ∧ tt = .string t ∧ c = .int .i64 i ∧ i ≤ s.size + 1 ∧ t.size ≤ i ∧ ls.length ≤ i ∧ Hid (stateD s.data.toList i = (ls, t.data.toList)) ∧ Hid (Short ls) ∧ Hid (OwnsC wr w.heap.size (.slice q ls.length cap) ls) ∧ Hid (Below w.heap.size w wr)) (fun _ _ c _ => s.size + 1 - (intOf c).toNat)
  case atStart => exact ⟨0, 0, none, [], ⟨#[]⟩, rfl, rfl, rfl, Nat.zero_le _, Nat.le_refl _, Nat.le_refl _, rfl, short_nil, World.ownsRow_nil _ _ _ _, Below.refl _ _⟩
  case round =>
    obtain ⟨i, cap, q, ls, t, rfl, rfl, rfl, hin, ht, hll, HST, HSH, HO, HB⟩ := hrel
    have ht3 : t.size ≤ 300 := by have := HSZ.out; omega
    have hl3 : ls.length ≤ 301 := by have := HSZ.out; omega
    by_cases hlt : i < s.size
    · have hi0 : (0 : Int) ≤ (i : Int) := by omega
      have hi1 : (i : Int) < (s.size : Int) := by omega
      have hi2 : (i : Int) ≤ (s.size : Int) := by omega
      have hnx := stateD_next hlt
      rw [HST.out] at hnx
      by_cases hc : s[i].toNat = 44
      · have e1 : ((s[i].toNat : Int) == 44) = true := by rw [hc]; rfl
        have e2 : ((s[i].toNat : Int) != 44) = false := by rw [hc]; rfl
        have HNX := Lib.hid (show stateD s.data.toList (i + 1) = (flushD ls t.data.toList, []) by
          rw [hnx, show s[i] = 44 from UInt8.toNat_inj.1 hc]; rfl)
        clear hnx HST hc
        have hl0 : t.data.toList.length = t.size := by simp
        have take_len := fun k => take_size t k
        by_cases h4 : 4 < t.size ∧ t.data.toList.drop (t.data.toList.length - 4) = [32, 105, 110, 116]
        · have g4 : (4 : Int) < (t.size : Int) := by omega
          have g40 : 4 < t.size := h4.1
          have q4 : IntKind.i64.wrap ((t.size : Int) - 4) = (t.size : Int) - 4 := by rw [IntKind.wrap_i64]; omega
          have q5 : (0 : Int) ≤ (t.size : Int) - 4 := by omega
          have q6 : (t.size : Int) - 4 ≤ (t.size : Int) := by omega
          have e4 : ((t.extract (t.size - 4) t.size).toList == [32, 105, 110, 116]) = true := by rw [drop_size, h4.2]; rfl
          have HNL := Lib.hid (show stateD s.data.toList (i + 1) = (ls ++ [(t.extract 0 (t.size - 4), 1)], []) by
            rw [HNX.out]; unfold flushD
            rw [if_pos ⟨by simpa using h4.1, h4.2⟩, take_len, hl0])
          have HSN := Lib.hid (short_app (x := (t.extract 0 (t.size - 4), (1 : Int))) HSH.out (by rw [ByteArray.size_extract]; omega))
          have hO2 := HO.out
          have hB2 := HB.out
          have hbsz := hB2.size
          have hcp := owns_cap hO2
          have HLL := Lib.hid hll
          have HINH := Lib.hid (show i ≤ s.size from by omega)
          clear HNX HO HB HSH
          go_wp2_with (at_builtin; refine wpList_append_own _ rfl _ _ 23 rfl w.heap.size 39 i0 (.agg #[.string ⟨#[]⟩, .int .i64 0]) 2 24 Tryd.underlying23 hii hz0 hz1 hz2 rfl (by decide) _ _ _ rfl (hO2.alloc _) ⟨wr.heap.size, 0, none⟩ 1 1 [.string (t.extract 0 (t.size - 4)), .int .i64 1] rfl rfl (cells_newS _ _ _) (by simp [Value.oneCell']) (by unfold maxLen; omega) (by omega) (by simp <;> omega) ?_; intro v' w5 hown' hgrow _; have HF := Lib.hid (show w5.ownsRow w.heap.size 39 2 v' (ls.length + 1) (flatC (ls ++ [(t.extract 0 (t.size - 4), 1)])) ∧ Below w.heap.size w w5 from ⟨by rw [flatC_app]; simpa [flatC, cellsC] using hown', (hB2.alloc hB2.size (.cells #[.string (t.extract 0 (t.size - 4)), .int .i64 1] 39)).grown hgrow (by have := hB2.size; simp; omega) (fun k e => (hO2.lt k e).1)⟩); clear hown' hgrow)
          obtain ⟨q', cap', hv', _⟩ := slice_of_ownsC HF.out.1
          subst hv'
          go_roundw
          case rel => exact ⟨i + 1, cap', q', ls ++ [(t.extract 0 (t.size - 4), 1)], ⟨#[]⟩, by rw [List.length_append]; rfl, rfl, by go_num, by have := HINH.out; omega, Nat.zero_le _, by rw [List.length_append]; have := HLL.out; simp only [List.length_cons, List.length_nil]; omega, HNL.out, HSN.out, Lib.hid (show w5.ownsRow w.heap.size 39 2 (.slice q' (ls ++ [(t.extract 0 (t.size - 4), (1 : Int))]).length cap') (ls ++ [(t.extract 0 (t.size - 4), (1 : Int))]).length (flatC (ls ++ [(t.extract 0 (t.size - 4), 1)])) from by rw [List.length_append]; exact HF.out.1), HF.out.2⟩
          case measure => have := HINH.out; simp [intOf]; omega
        · by_cases h5 : 5 < t.size ∧ t.data.toList.drop (t.data.toList.length - 5) = [32, 116, 101, 120, 116]
          · have g4 : (4 : Int) < (t.size : Int) := by omega
            have g5 : (5 : Int) < (t.size : Int) := by omega
            have g40 : 4 < t.size := by omega
            have g50 : 5 < t.size := h5.1
            have h4n := h4
            have q4 : IntKind.i64.wrap ((t.size : Int) - 4) = (t.size : Int) - 4 := by rw [IntKind.wrap_i64]; omega
            have q5 : (0 : Int) ≤ (t.size : Int) - 4 := by omega
            have q6 : (t.size : Int) - 4 ≤ (t.size : Int) := by omega
            have q7 : IntKind.i64.wrap ((t.size : Int) - 5) = (t.size : Int) - 5 := by rw [IntKind.wrap_i64]; omega
            have q8 : (0 : Int) ≤ (t.size : Int) - 5 := by omega
            have q9 : (t.size : Int) - 5 ≤ (t.size : Int) := by omega
            have e4 : ((t.extract (t.size - 4) t.size).toList == [32, 105, 110, 116]) = false := by
              rw [drop_size, beq_eq_false_iff_ne]; exact fun e => h4 ⟨g40, e⟩
            have e5 : ((t.extract (t.size - 5) t.size).toList == [32, 116, 101, 120, 116]) = true := by rw [drop_size, h5.2]; rfl
            have HNL := Lib.hid (show stateD s.data.toList (i + 1) = (ls ++ [(t.extract 0 (t.size - 5), 2)], []) by
              rw [HNX.out]; unfold flushD
              rw [if_neg (by simpa using h4n), if_pos ⟨by simpa using h5.1, h5.2⟩, take_len, hl0])
            have HSN := Lib.hid (short_app (x := (t.extract 0 (t.size - 5), (2 : Int))) HSH.out (by rw [ByteArray.size_extract]; omega))
            have hO2 := HO.out
            have hB2 := HB.out
            have hbsz := hB2.size
            have hcp := owns_cap hO2
            have HLL := Lib.hid hll
            have HINH := Lib.hid (show i ≤ s.size from by omega)
            clear HNX HO HB HSH
            go_wp2_with (at_builtin; refine wpList_append_own _ rfl _ _ 23 rfl w.heap.size 39 i0 (.agg #[.string ⟨#[]⟩, .int .i64 0]) 2 24 Tryd.underlying23 hii hz0 hz1 hz2 rfl (by decide) _ _ _ rfl (hO2.alloc _) ⟨wr.heap.size, 0, none⟩ 1 1 [.string (t.extract 0 (t.size - 5)), .int .i64 2] rfl rfl (cells_newS _ _ _) (by simp [Value.oneCell']) (by unfold maxLen; omega) (by omega) (by simp <;> omega) ?_; intro v' w5 hown' hgrow _; have HF := Lib.hid (show w5.ownsRow w.heap.size 39 2 v' (ls.length + 1) (flatC (ls ++ [(t.extract 0 (t.size - 5), 2)])) ∧ Below w.heap.size w w5 from ⟨by rw [flatC_app]; simpa [flatC, cellsC] using hown', (hB2.alloc hB2.size (.cells #[.string (t.extract 0 (t.size - 5)), .int .i64 2] 39)).grown hgrow (by have := hB2.size; simp; omega) (fun k e => (hO2.lt k e).1)⟩); clear hown' hgrow)
            obtain ⟨q', cap', hv', _⟩ := slice_of_ownsC HF.out.1
            subst hv'
            go_roundw
            case rel => exact ⟨i + 1, cap', q', ls ++ [(t.extract 0 (t.size - 5), 2)], ⟨#[]⟩, by rw [List.length_append]; rfl, rfl, by go_num, by have := HINH.out; omega, Nat.zero_le _, by rw [List.length_append]; have := HLL.out; simp only [List.length_cons, List.length_nil]; omega, HNL.out, HSN.out, Lib.hid (show w5.ownsRow w.heap.size 39 2 (.slice q' (ls ++ [(t.extract 0 (t.size - 5), (2 : Int))]).length cap') (ls ++ [(t.extract 0 (t.size - 5), (2 : Int))]).length (flatC (ls ++ [(t.extract 0 (t.size - 5), 2)])) from by rw [List.length_append]; exact HF.out.1), HF.out.2⟩
            case measure => have := HINH.out; simp [intOf]; omega
          · have HNL := Lib.hid (show stateD s.data.toList (i + 1) = (ls, []) by
              rw [HNX.out]; unfold flushD
              rw [if_neg (by simpa using h4), if_neg (by simpa using h5)])
            clear HNX take_len
            by_cases g40 : 4 < t.size
            · have g4 : (4 : Int) < (t.size : Int) := by omega
              have q4 : IntKind.i64.wrap ((t.size : Int) - 4) = (t.size : Int) - 4 := by rw [IntKind.wrap_i64]; omega
              have q5 : (0 : Int) ≤ (t.size : Int) - 4 := by omega
              have q6 : (t.size : Int) - 4 ≤ (t.size : Int) := by omega
              have e4 : ((t.extract (t.size - 4) t.size).toList == [32, 105, 110, 116]) = false := by
                rw [drop_size, beq_eq_false_iff_ne]; exact fun e => h4 ⟨g40, e⟩
              by_cases g50 : 5 < t.size
              · have g5 : (5 : Int) < (t.size : Int) := by omega
                have q7 : IntKind.i64.wrap ((t.size : Int) - 5) = (t.size : Int) - 5 := by rw [IntKind.wrap_i64]; omega
                have q8 : (0 : Int) ≤ (t.size : Int) - 5 := by omega
                have q9 : (t.size : Int) - 5 ≤ (t.size : Int) := by omega
                have e5 : ((t.extract (t.size - 5) t.size).toList == [32, 116, 101, 120, 116]) = false := by
                  rw [drop_size, beq_eq_false_iff_ne]; exact fun e => h5 ⟨g50, e⟩
                clear h4 h5 hl0
                go_wp2_with fail
                go_roundw
                case rel => exact ⟨i + 1, cap, q, ls, ⟨#[]⟩, rfl, rfl, by go_num, by omega, Nat.zero_le _, by omega, HNL.out, HSH.out, HO.out, HB.out⟩
                case measure => simp [intOf]; omega
              · have g5 : ¬ ((5 : Int) < (t.size : Int)) := by omega
                clear h4 h5 hl0
                go_wp2_with fail
                go_roundw
                case rel => exact ⟨i + 1, cap, q, ls, ⟨#[]⟩, rfl, rfl, by go_num, by omega, Nat.zero_le _, by omega, HNL.out, HSH.out, HO.out, HB.out⟩
                case measure => simp [intOf]; omega
            · have g4 : ¬ ((4 : Int) < (t.size : Int)) := by omega
              have g5 : ¬ ((5 : Int) < (t.size : Int)) := by omega
              clear h4 h5 hl0
              go_wp2_with fail
              go_roundw
              case rel => exact ⟨i + 1, cap, q, ls, ⟨#[]⟩, rfl, rfl, by go_num, by omega, Nat.zero_le _, by omega, HNL.out, HSH.out, HO.out, HB.out⟩
              case measure => simp [intOf]; omega
      · have e1 : ((s[i].toNat : Int) == 44) = false := by rw [beq_eq_false_iff_ne]; omega
        have e2 : ((s[i].toNat : Int) != 44) = true := by rw [bne, e1]; rfl
        have hne : s[i] ≠ 44 := fun e => hc (by rw [e]; rfl)
        have qc : IntKind.i64.wrap ((i : Int) + 1) = (i : Int) + 1 := by rw [IntKind.wrap_i64]; omega
        have hi3 : (i : Int) + 1 ≤ (s.size : Int) := by omega
        have hi4 : (0 : Int) ≤ (i : Int) + 1 := by omega
        have hi5 : (i : Int) ≤ (i : Int) + 1 := by omega
        have hgl := glue_atS (x := t) hlt
        have hgz : (t ++ s.extract i (i + 1)).size ≤ i + 1 := by
          have := congrArg List.length hgl
          simp only [List.length_append, List.length_singleton, Array.length_toList] at this
          have e3 : (t ++ s.extract i (i + 1)).data.size = (t ++ s.extract i (i + 1)).size := rfl
          have e4 : t.data.size = t.size := rfl
          omega
        by_cases hb : s[i].toNat = 32
        · have f1 : ((s[i].toNat : Int) == 32) = true := by rw [hb]; rfl
          have f2 : ((s[i].toNat : Int) != 32) = false := by rw [hb]; rfl
          by_cases h0 : t.toList = []
          · have h00 : t.toList.isEmpty = true := by simpa using h0
            have HNX := Lib.hid (show stateD s.data.toList (i + 1) = (ls, t.data.toList) by
              rw [hnx]; unfold stepD
              rw [if_neg hne, if_neg]
              rintro (h | h)
              · exact h (UInt8.toNat_inj.1 hb)
              · rw [← ByteArray.toList_eq] at h; exact h h0)
            clear hnx HST hgl hgz hc hne
            go_wp2_with fail
            go_roundw
            case rel => exact ⟨i + 1, cap, q, ls, t, rfl, rfl, by go_num, by omega, by omega, by omega, HNX.out, HSH.out, HO.out, HB.out⟩
            case measure => simp [intOf]; omega
          · have h00 : t.toList.isEmpty = false := by simpa using h0
            have HNX := Lib.hid (show stateD s.data.toList (i + 1) = (ls, (t ++ s.extract i (i + 1)).data.toList) by
              rw [hnx, hgl]; unfold stepD
              rw [if_neg hne, if_pos (.inr (by rw [← ByteArray.toList_eq]; exact h0))])
            have HGZ := Lib.hid hgz
            clear hnx HST hgl hgz hc hne
            go_wp2_with fail
            go_roundw
            case rel => exact ⟨i + 1, cap, q, ls, _, rfl, rfl, by go_num, by omega, HGZ.out, by omega, HNX.out, HSH.out, HO.out, HB.out⟩
            case measure => simp [intOf]; omega
        · have f1 : ((s[i].toNat : Int) == 32) = false := by rw [beq_eq_false_iff_ne]; omega
          have f2 : ((s[i].toNat : Int) != 32) = true := by rw [bne, f1]; rfl
          have HNX := Lib.hid (show stateD s.data.toList (i + 1) = (ls, (t ++ s.extract i (i + 1)).data.toList) by
            rw [hnx, hgl]; unfold stepD
            rw [if_neg hne, if_pos (.inl fun e => hb (by rw [e]; rfl))])
          have HGZ := Lib.hid hgz
          clear hnx HST hgl hgz hc hne
          go_wp2_with fail
          go_roundw
          case rel => exact ⟨i + 1, cap, q, ls, _, rfl, rfl, by go_num, by omega, HGZ.out, by omega, HNX.out, HSH.out, HO.out, HB.out⟩
          case measure => simp [intOf]; omega
    · by_cases hle : i = s.size
      · have hi2 : (i : Int) ≤ (s.size : Int) := by omega
        have hi3 : ¬ ((i : Int) < (s.size : Int)) := by omega
        have HNX := Lib.hid (show stateD s.data.toList (i + 1) = (flushD ls t.data.toList, []) by
          rw [hle, stateD_last, ← hle, HST.out])
        clear HST
        have hl0 : t.data.toList.length = t.size := by simp
        have take_len := fun k => take_size t k
        by_cases h4 : 4 < t.size ∧ t.data.toList.drop (t.data.toList.length - 4) = [32, 105, 110, 116]
        · have g4 : (4 : Int) < (t.size : Int) := by omega
          have g40 : 4 < t.size := h4.1
          have q4 : IntKind.i64.wrap ((t.size : Int) - 4) = (t.size : Int) - 4 := by rw [IntKind.wrap_i64]; omega
          have q5 : (0 : Int) ≤ (t.size : Int) - 4 := by omega
          have q6 : (t.size : Int) - 4 ≤ (t.size : Int) := by omega
          have e4 : ((t.extract (t.size - 4) t.size).toList == [32, 105, 110, 116]) = true := by rw [drop_size, h4.2]; rfl
          have HNL := Lib.hid (show stateD s.data.toList (i + 1) = (ls ++ [(t.extract 0 (t.size - 4), 1)], []) by
            rw [HNX.out]; unfold flushD
            rw [if_pos ⟨by simpa using h4.1, h4.2⟩, take_len, hl0])
          have HSN := Lib.hid (short_app (x := (t.extract 0 (t.size - 4), (1 : Int))) HSH.out (by rw [ByteArray.size_extract]; omega))
          have hO2 := HO.out
          have hB2 := HB.out
          have hbsz := hB2.size
          have hcp := owns_cap hO2
          have HLL := Lib.hid hll
          have HINH := Lib.hid (show i ≤ s.size from by omega)
          clear HNX HO HB HSH
          go_wp2_with (at_builtin; refine wpList_append_own _ rfl _ _ 23 rfl w.heap.size 39 i0 (.agg #[.string ⟨#[]⟩, .int .i64 0]) 2 24 Tryd.underlying23 hii hz0 hz1 hz2 rfl (by decide) _ _ _ rfl (hO2.alloc _) ⟨wr.heap.size, 0, none⟩ 1 1 [.string (t.extract 0 (t.size - 4)), .int .i64 1] rfl rfl (cells_newS _ _ _) (by simp [Value.oneCell']) (by unfold maxLen; omega) (by omega) (by simp <;> omega) ?_; intro v' w5 hown' hgrow _; have HF := Lib.hid (show w5.ownsRow w.heap.size 39 2 v' (ls.length + 1) (flatC (ls ++ [(t.extract 0 (t.size - 4), 1)])) ∧ Below w.heap.size w w5 from ⟨by rw [flatC_app]; simpa [flatC, cellsC] using hown', (hB2.alloc hB2.size (.cells #[.string (t.extract 0 (t.size - 4)), .int .i64 1] 39)).grown hgrow (by have := hB2.size; simp; omega) (fun k e => (hO2.lt k e).1)⟩); clear hown' hgrow)
          obtain ⟨q', cap', hv', _⟩ := slice_of_ownsC HF.out.1
          subst hv'
          go_roundw
          case rel => exact ⟨i + 1, cap', q', ls ++ [(t.extract 0 (t.size - 4), 1)], ⟨#[]⟩, by rw [List.length_append]; rfl, rfl, by go_num, by have := HINH.out; omega, Nat.zero_le _, by rw [List.length_append]; have := HLL.out; simp only [List.length_cons, List.length_nil]; omega, HNL.out, HSN.out, Lib.hid (show w5.ownsRow w.heap.size 39 2 (.slice q' (ls ++ [(t.extract 0 (t.size - 4), (1 : Int))]).length cap') (ls ++ [(t.extract 0 (t.size - 4), (1 : Int))]).length (flatC (ls ++ [(t.extract 0 (t.size - 4), 1)])) from by rw [List.length_append]; exact HF.out.1), HF.out.2⟩
          case measure => have := HINH.out; simp [intOf]; omega
        · by_cases h5 : 5 < t.size ∧ t.data.toList.drop (t.data.toList.length - 5) = [32, 116, 101, 120, 116]
          · have g4 : (4 : Int) < (t.size : Int) := by omega
            have g5 : (5 : Int) < (t.size : Int) := by omega
            have g40 : 4 < t.size := by omega
            have g50 : 5 < t.size := h5.1
            have h4n := h4
            have q4 : IntKind.i64.wrap ((t.size : Int) - 4) = (t.size : Int) - 4 := by rw [IntKind.wrap_i64]; omega
            have q5 : (0 : Int) ≤ (t.size : Int) - 4 := by omega
            have q6 : (t.size : Int) - 4 ≤ (t.size : Int) := by omega
            have q7 : IntKind.i64.wrap ((t.size : Int) - 5) = (t.size : Int) - 5 := by rw [IntKind.wrap_i64]; omega
            have q8 : (0 : Int) ≤ (t.size : Int) - 5 := by omega
            have q9 : (t.size : Int) - 5 ≤ (t.size : Int) := by omega
            have e4 : ((t.extract (t.size - 4) t.size).toList == [32, 105, 110, 116]) = false := by
              rw [drop_size, beq_eq_false_iff_ne]; exact fun e => h4 ⟨g40, e⟩
            have e5 : ((t.extract (t.size - 5) t.size).toList == [32, 116, 101, 120, 116]) = true := by rw [drop_size, h5.2]; rfl
            have HNL := Lib.hid (show stateD s.data.toList (i + 1) = (ls ++ [(t.extract 0 (t.size - 5), 2)], []) by
              rw [HNX.out]; unfold flushD
              rw [if_neg (by simpa using h4n), if_pos ⟨by simpa using h5.1, h5.2⟩, take_len, hl0])
            have HSN := Lib.hid (short_app (x := (t.extract 0 (t.size - 5), (2 : Int))) HSH.out (by rw [ByteArray.size_extract]; omega))
            have hO2 := HO.out
            have hB2 := HB.out
            have hbsz := hB2.size
            have hcp := owns_cap hO2
            have HLL := Lib.hid hll
            have HINH := Lib.hid (show i ≤ s.size from by omega)
            clear HNX HO HB HSH
            go_wp2_with (at_builtin; refine wpList_append_own _ rfl _ _ 23 rfl w.heap.size 39 i0 (.agg #[.string ⟨#[]⟩, .int .i64 0]) 2 24 Tryd.underlying23 hii hz0 hz1 hz2 rfl (by decide) _ _ _ rfl (hO2.alloc _) ⟨wr.heap.size, 0, none⟩ 1 1 [.string (t.extract 0 (t.size - 5)), .int .i64 2] rfl rfl (cells_newS _ _ _) (by simp [Value.oneCell']) (by unfold maxLen; omega) (by omega) (by simp <;> omega) ?_; intro v' w5 hown' hgrow _; have HF := Lib.hid (show w5.ownsRow w.heap.size 39 2 v' (ls.length + 1) (flatC (ls ++ [(t.extract 0 (t.size - 5), 2)])) ∧ Below w.heap.size w w5 from ⟨by rw [flatC_app]; simpa [flatC, cellsC] using hown', (hB2.alloc hB2.size (.cells #[.string (t.extract 0 (t.size - 5)), .int .i64 2] 39)).grown hgrow (by have := hB2.size; simp; omega) (fun k e => (hO2.lt k e).1)⟩); clear hown' hgrow)
            obtain ⟨q', cap', hv', _⟩ := slice_of_ownsC HF.out.1
            subst hv'
            go_roundw
            case rel => exact ⟨i + 1, cap', q', ls ++ [(t.extract 0 (t.size - 5), 2)], ⟨#[]⟩, by rw [List.length_append]; rfl, rfl, by go_num, by have := HINH.out; omega, Nat.zero_le _, by rw [List.length_append]; have := HLL.out; simp only [List.length_cons, List.length_nil]; omega, HNL.out, HSN.out, Lib.hid (show w5.ownsRow w.heap.size 39 2 (.slice q' (ls ++ [(t.extract 0 (t.size - 5), (2 : Int))]).length cap') (ls ++ [(t.extract 0 (t.size - 5), (2 : Int))]).length (flatC (ls ++ [(t.extract 0 (t.size - 5), 2)])) from by rw [List.length_append]; exact HF.out.1), HF.out.2⟩
            case measure => have := HINH.out; simp [intOf]; omega
          · have HNL := Lib.hid (show stateD s.data.toList (i + 1) = (ls, []) by
              rw [HNX.out]; unfold flushD
              rw [if_neg (by simpa using h4), if_neg (by simpa using h5)])
            clear HNX take_len
            by_cases g40 : 4 < t.size
            · have g4 : (4 : Int) < (t.size : Int) := by omega
              have q4 : IntKind.i64.wrap ((t.size : Int) - 4) = (t.size : Int) - 4 := by rw [IntKind.wrap_i64]; omega
              have q5 : (0 : Int) ≤ (t.size : Int) - 4 := by omega
              have q6 : (t.size : Int) - 4 ≤ (t.size : Int) := by omega
              have e4 : ((t.extract (t.size - 4) t.size).toList == [32, 105, 110, 116]) = false := by
                rw [drop_size, beq_eq_false_iff_ne]; exact fun e => h4 ⟨g40, e⟩
              by_cases g50 : 5 < t.size
              · have g5 : (5 : Int) < (t.size : Int) := by omega
                have q7 : IntKind.i64.wrap ((t.size : Int) - 5) = (t.size : Int) - 5 := by rw [IntKind.wrap_i64]; omega
                have q8 : (0 : Int) ≤ (t.size : Int) - 5 := by omega
                have q9 : (t.size : Int) - 5 ≤ (t.size : Int) := by omega
                have e5 : ((t.extract (t.size - 5) t.size).toList == [32, 116, 101, 120, 116]) = false := by
                  rw [drop_size, beq_eq_false_iff_ne]; exact fun e => h5 ⟨g50, e⟩
                clear h4 h5 hl0
                go_wp2_with fail
                go_roundw
                case rel => exact ⟨i + 1, cap, q, ls, ⟨#[]⟩, rfl, rfl, by go_num, by omega, Nat.zero_le _, by omega, HNL.out, HSH.out, HO.out, HB.out⟩
                case measure => simp [intOf]; omega
              · have g5 : ¬ ((5 : Int) < (t.size : Int)) := by omega
                clear h4 h5 hl0
                go_wp2_with fail
                go_roundw
                case rel => exact ⟨i + 1, cap, q, ls, ⟨#[]⟩, rfl, rfl, by go_num, by omega, Nat.zero_le _, by omega, HNL.out, HSH.out, HO.out, HB.out⟩
                case measure => simp [intOf]; omega
            · have g4 : ¬ ((4 : Int) < (t.size : Int)) := by omega
              have g5 : ¬ ((5 : Int) < (t.size : Int)) := by omega
              clear h4 h5 hl0
              go_wp2_with fail
              go_roundw
              case rel => exact ⟨i + 1, cap, q, ls, ⟨#[]⟩, rfl, rfl, by go_num, by omega, Nat.zero_le _, by omega, HNL.out, HSH.out, HO.out, HB.out⟩
              case measure => simp [intOf]; omega
      · have hi2 : ¬ ((i : Int) ≤ (s.size : Int)) := by omega
        have hdc : docCols s.data.toList = ls := by
          have := HST.out
          unfold stateD at this
          rw [if_neg (by have hl : s.data.toList.length = s.size := by simp
                         omega)] at this
          exact (Prod.mk.inj this).1
        rw [hdc] at HFI
        clear HST hle hdc
        have hcp := owns_cap HO.out
        have hcap2 : cap ≤ 9223372036854775807 := by have := hcp.2; unfold maxLen at this; omega
        have HT := Lib.hid (refFormat_any q ls cap hcp.1 hcap2 (fun j => by have := HSH.out j; unfold maxLen; omega) wr (colsIn_of_owns HO.out))
        unfold FmtPost at HT
        rcases HFI.out with ⟨g1, g2, rfl, ho⟩ | ⟨g1, rfl, rfl⟩
        · have g3 : s.toList.isEmpty = false := by simpa using g1
          rw [g2, bytes_back] at HT
          have ho' := ho.symm
          subst ho'
          clear HFI g2
          go_wp2_with fail
          refine HT.out.mono ?_
          rintro e w5 ⟨rfl, k5⟩
          have HF := Lib.hid (show OwnsC w5 w.heap.size (.slice q ls.length cap) ls ∧ Below w.heap.size w w5 from ⟨owns_below HO.out k5, HB.out.trans (k5.mono HB.out.size)⟩)
          clear k5
          go_wp2_with fail
          go_ret2
          exact ⟨_, rfl, HF.out.1, HF.out.2⟩
        · by_cases g0 : s.toList = []
          · have g3 : s.toList.isEmpty = true := by simpa using g0
            clear HT HFI g1
            go_wp2_with fail
            go_ret2
            exact ⟨_, rfl, World.ownsRow_nil _ _ _ _, HB.out⟩
          · have g3 : s.toList.isEmpty = false := by simpa using g0
            have hne : ((⟨(fmtS ls).toArray⟩ : ByteArray).toList == s.toList) = false := by
              rw [ByteArray.toList_eq, ByteArray.toList_eq, beq_eq_false_iff_ne]
              exact (g1.resolve_left g0)
            clear HFI g1
            generalize (⟨(fmtS ls).toArray⟩ : ByteArray) = x at hne HT
            go_wp2_with fail
            refine HT.out.mono ?_
            rintro e w5 ⟨rfl, k5⟩
            have HF := Lib.hid (HB.out.trans (k5.mono HB.out.size))
            clear k5
            go_wp2_with fail
            go_ret2
            exact ⟨_, rfl, World.ownsRow_nil _ _ _ _, HF.out⟩
end Go.Proofs.YtlhhkiglpehnfaaDoor
