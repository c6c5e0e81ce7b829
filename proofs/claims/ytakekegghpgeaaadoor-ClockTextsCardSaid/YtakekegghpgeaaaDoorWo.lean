/-
  Words of the document's own clock, as a contract: the text cut at its blanks.
-/
import Derived.Test.YtakekegghpgeaaaDoorNu
namespace Go.Proofs.YtakekegghpgeaaaDoor
open Go.RowKit Go.Lib
set_option linter.unusedSimpArgs false

theorem below_new (w : World) (o : Obj) : Below w.heap.size w (w.alloc o) := (Below.refl _ _).alloc (Nat.le_refl _) _
theorem cells_new (w : World) (cs : Array Value) (t : TypeId) : ∀ (j : Nat) (u : Value), cs.toList[j]? = some u → (w.alloc (.cells cs t)).cell? ((⟨w.heap.size, 0, none⟩ : Addr).add j) = some u := fun j u h => by
  have hb : (w.alloc (.cells cs t)).heap[w.heap.size]? = some (.cells cs t (0, 0)) := heap_alloc_new w _
  rw [Go.WideShapes.add_plain]
  simp only [World.cell?, hb, Nat.zero_add]
  simpa using h
theorem infoS : (Tryd.prog.info? 9).map (fun i => (i.zero, i.size, i.bytes)) = some (some (.string ⟨#[]⟩), 1, 16) := by kernel_rfl
abbrev strs (ws : List ByteArray) : List Value := ws.map Value.string
def bytesOf (ws : List ByteArray) : List (List UInt8) := ws.map (·.data.toList)
def WordsPost (w : World) (l : List (List UInt8)) (e : Ending) (w' : World) : Prop := ∃ (g cap : Nat) (ws : List ByteArray), e = .returned (.slice (some ⟨g, 0, none⟩) ws.length cap) ∧ bytesOf ws = l ∧ (∀ x ∈ ws, x.size ≤ 100) ∧ w'.ownsRow w.heap.size 9 1 (.slice (some ⟨g, 0, none⟩) ws.length cap) ws.length (strs ws) ∧ Below w.heap.size w w'
theorem step_blank (ws : List ByteArray) : bytesOf (ws ++ [⟨#[]⟩]) = stepW (bytesOf ws) 32 := by simp [bytesOf, stepW]
theorem step_byte (ws : List ByteArray) (n : Nat) (hn : ws.length = n + 1) (c : UInt8) (hc : c ≠ 32) (t : ByteArray) (ht : t.data.toList = (ws[n]?.getD ⟨#[]⟩).data.toList ++ [c]) : bytesOf (ws.set n t) = stepW (bytesOf ws) c := by
  unfold stepW bytesOf
  rw [if_neg hc]
  have hl : n < ws.length := by omega
  simp only [List.length_map, hn, Nat.add_sub_cancel, List.getElem?_map, List.getElem?_eq_getElem hl, Option.map_some, Option.getD_some, List.map_set]
  rw [ht, List.getElem?_eq_getElem hl]
  rfl
theorem piece_at {s : ByteArray} {i : Nat} (h : i < s.size) : (s.extract i (i + 1)).data.toList = [s[i]] := by
  have hl : i < s.data.toList.length := by simpa using h
  rw [ByteArray.data_extract, Array.toList_extract, List.extract_eq_take_drop, List.drop_eq_getElem_cons hl, show i + 1 - i = 1 by omega]
  rfl
theorem glue_at {s x : ByteArray} {i : Nat} (h : i < s.size) : (x ++ s.extract i (i + 1)).data.toList = x.data.toList ++ [s[i]] := by
  rw [ByteArray.data_append, Array.toList_append, piece_at h]
theorem own_slice {w : World} {lo n : Nat} {e : TypeId} {v : Value} {xs : List Value} (h : w.ownsRow lo e 1 v (n + 1) xs) : ∃ g cap, v = .slice (some ⟨g, 0, none⟩) (n + 1) cap ∧ lo ≤ g ∧ n + 1 ≤ cap ∧ cap ≤ maxLen ∧ g < w.heap.size := by
  rcases h.2 with ⟨_, h0⟩ | ⟨g, cap, cur, rfl, hg, hc, h1, h2, _⟩
  · omega
  · exact ⟨g, cap, rfl, hg, h1, h2, (Array.getElem?_eq_some_iff.1 hc).1⟩

theorem own_lt {w : World} {lo n g c : Nat} {e : TypeId} {xs : List Value} (h : w.ownsRow lo e 1 (.slice (some ⟨g, 0, none⟩) n c) n xs) : g < w.heap.size := by
  rcases h.2 with ⟨h', _⟩ | ⟨g', cap, cur, h', _, hc, _⟩
  · cases h'
  · simp only [Value.slice.injEq, Option.some.injEq, Addr.mk.injEq, and_true, true_and] at h'
    rw [h'.1]
    exact (Array.getElem?_eq_some_iff.1 hc).1

set_option maxRecDepth 100000 in
set_option maxHeartbeats 2000000 in
theorem words_any (s : ByteArray) (hs : s.size ≤ 100) (w : World) :
    Calls Tryd.prog 18 #[.string s] w (WordsPost w (wordsL s.data.toList)) := by
  obtain ⟨i0, hii, hz0, hz1, hz2⟩ := info_parts infoS
  have HO := Lib.hid (show (w.alloc (.cells #[.string ⟨#[]⟩] 9)).ownsRow w.heap.size 9 1 (.slice (some ⟨w.heap.size, 0, none⟩) 1 1) 1 (strs [⟨#[]⟩]) from
    World.ownsRow_lit w #[.string ⟨#[]⟩] 1 (e := 9) (size := 1) (Nat.le_refl w.heap.size) (by unfold maxLen; omega) (by simp))
  have HB := Lib.hid (below_new w (.cells #[.string ⟨#[]⟩] 9))
  have HS := Lib.hid hs
  go_enter Tryd.func18, Tryd.ntmps18
  go_wp2_with fail
  go_loopw [3, 4] (fun o t wr => ∃ (i n g cap : Nat) (ws : List ByteArray), o = .slice (some ⟨g, 0, none⟩) ((n + 1 : Nat)) cap ∧ t = .int .i64 i ∧ i ≤ s.size ∧ n ≤ i ∧ ws.length = n + 1 ∧ Hid (bytesOf ws = wordsL (s.data.toList.take i)) ∧ Hid (∀ x ∈ ws, x.size ≤ i) ∧ Hid (wr.ownsRow w.heap.size 9 1 o (n + 1) (strs ws)) ∧ Hid (Below w.heap.size w wr)) (fun _ t _ => s.size - (RowKit.intOf t).toNat)
  case atStart => exact ⟨0, 0, w.heap.size, 1, [⟨#[]⟩], rfl, rfl, Nat.zero_le _, Nat.le_refl _, rfl, rfl, (fun x hx => by rw [List.mem_singleton] at hx; subst hx; exact Nat.le_refl _), HO.out, HB.out⟩
  case round =>
    clear HO HB
    obtain ⟨i, n, g, cap, ws, rfl, rfl, hin, hni, hwn, HW, HZ, HO, HB⟩ := hrel
    by_cases hlt : i < s.size
    · have hi0 : (0 : Int) ≤ (i : Int) := by omega
      have hi1 : (i : Int) < (s.size : Int) := by omega
      have htk : s.data.toList.take (i + 1) = s.data.toList.take i ++ [s[i]] := by
        rw [List.take_succ_eq_append_getElem (by simpa using hlt)]
        rfl
      have hstep : wordsL (s.data.toList.take (i + 1)) = stepW (bytesOf ws) s[i] := by rw [htk, wordsL_snoc, HW.out]
      by_cases hc : s[i].toNat = 32
      · have e1 : ((s[i].toNat : Int) == 32) = true := by rw [hc]; rfl
        have HW2 := Lib.hid (show bytesOf (ws ++ [⟨#[]⟩]) = wordsL (s.data.toList.take (i + 1)) by
          rw [hstep, show s[i] = 32 from UInt8.toNat_inj.1 hc]; exact step_blank ws)
        have HZ2 := Lib.hid (show ∀ x ∈ ws ++ [(⟨#[]⟩ : ByteArray)], x.size ≤ i + 1 from fun x hx => by
          rcases List.mem_append.1 hx with h | h
          · have := HZ.out x h; omega
          · rw [List.mem_singleton] at h; subst h; exact Nat.zero_le _)
        have hO2 := HO.out
        have hB2 := HB.out
        have HWN := Lib.hid hwn
        have hsz := hB2.size
        have HIN := Lib.hid (show i < s.size ∧ n ≤ i ∧ s.size ≤ 100 from ⟨hlt, hni, HS.out⟩)
        clear htk hstep hc HO HB HW HZ
        go_wp2_with (at_builtin; refine wpList_append_own _ rfl _ _ 44 rfl w.heap.size 9 i0 (.string ⟨#[]⟩) 1 16 Tryd.underlying44 hii hz0 hz1 hz2 rfl (by decide) _ _ _ rfl (hO2.alloc _) ⟨wr.heap.size, 0, none⟩ 1 1 [.string ⟨#[]⟩] rfl rfl (cells_new _ _ _) (by simp [Value.oneCell']) (by unfold maxLen; omega) (by omega) (by simp <;> omega) ?_; intro v' w5 hown' hgrow _; have HF := Lib.hid (show w5.ownsRow w.heap.size 9 1 v' (n + 1 + 1) (strs (ws ++ [⟨#[]⟩])) ∧ Below w.heap.size w w5 from ⟨by simpa [strs] using hown', (hB2.alloc hB2.size (.cells #[.string ⟨#[]⟩] 9)).grown hgrow (by have := hB2.size; simp; omega) (fun k e => (hO2.lt k e).1)⟩); clear hown' hgrow)
        obtain ⟨g', cap', hv', _⟩ := own_slice HF.out.1
        subst hv'
        go_roundw
        case rel => exact ⟨i + 1, n + 1, g', cap', ws ++ [ByteArray.mk #[]], rfl, by go_num, by have := HIN.out; omega, by have := HIN.out; omega, by rw [List.length_append, HWN.out]; rfl, HW2.out, HZ2.out, HF.out.1, HF.out.2⟩
        case measure => have := HIN.out; simp [RowKit.intOf]; omega
      · have e1 : ((s[i].toNat : Int) == 32) = false := by rw [beq_eq_false_iff_ne]; omega
        have hO2 := HO.out
        have hl : n < ws.length := by omega
        have ec : wr.cell? ⟨g, n, none⟩ = some (.string ws[n]) := by rw [hO2.cellAt n (by omega), List.getElem?_map, List.getElem?_eq_getElem hl]; rfl
        have ef := hO2.frozenAt n
        have hz := HZ.out ws[n] (List.getElem_mem hl)
        have hs1 := HS.out
        have qa : IntKind.i64.wrap ((n : Int) + 1 - 1) = (n : Int) := by rw [IntKind.wrap_i64]; omega
        have qb : IntKind.i64.wrap (n : Int) = (n : Int) := by rw [IntKind.wrap_i64]; omega
        have qc : IntKind.i64.wrap ((i : Int) + 1) = (i : Int) + 1 := by rw [IntKind.wrap_i64]; omega
        have hn0 : (0 : Int) ≤ (n : Int) := by omega
        have hi2 : (i : Int) + 1 ≤ (s.size : Int) := by omega
        have hi3 : (0 : Int) ≤ (i : Int) + 1 := by omega
        have hi4 : (i : Int) ≤ (i : Int) + 1 := by omega
        have hn1 : (n : Int) < (n : Int) + 1 := by omega
        clear htk
        have hgl := glue_at (x := ws[n]) hlt
        have hne : s[i] ≠ 32 := fun e => hc (by rw [e]; rfl)
        have hset := step_byte ws n hwn s[i] hne (ws[n] ++ s.extract i (i + 1)) (by rw [hgl, List.getElem?_eq_getElem hl]; rfl)
        have hsz : (ws[n] ++ s.extract i (i + 1)).size ≤ i + 1 := by
          have := congrArg List.length hgl
          simp only [List.length_append, List.length_singleton, Array.length_toList] at this
          have e2 : ws[n].data.size = ws[n].size := rfl
          have e3 : (ws[n] ++ s.extract i (i + 1)).data.size = (ws[n] ++ s.extract i (i + 1)).size := rfl
          omega
        have HW2 := Lib.hid (show bytesOf (ws.set n (ws[n] ++ s.extract i (i + 1))) = wordsL (s.data.toList.take (i + 1)) from by rw [hset, hstep])
        have HZ2 := Lib.hid (show ∀ x ∈ ws.set n (ws[n] ++ s.extract i (i + 1)), x.size ≤ i + 1 from fun x hx => by
          rcases List.mem_or_eq_of_mem_set hx with h | h
          · have := HZ.out x h; omega
          · subst h; exact hsz)
        have HF := Lib.hid (show (wr.setCell ⟨g, n, none⟩ (.string (ws[n] ++ s.extract i (i + 1)))).drew.ownsRow w.heap.size 9 1 (.slice (some ⟨g, 0, none⟩) (n + 1) cap) (n + 1) (strs (ws.set n (ws[n] ++ s.extract i (i + 1)))) ∧ Below w.heap.size w (wr.setCell ⟨g, n, none⟩ (.string (ws[n] ++ s.extract i (i + 1)))).drew from
          ⟨by rw [strs, List.map_set]; exact (hO2.stored n _).1, (HB.out.setCell (p := ⟨g, n, none⟩) (hO2.lt g rfl).1 _).drew⟩)
        have HIN := Lib.hid (show i < s.size ∧ n ≤ i ∧ (ws.set n (ws[n] ++ s.extract i (i + 1))).length = n + 1 from ⟨hlt, hni, by rw [List.length_set]; exact hwn⟩)
        clear HW HZ HO hgl hne hset hsz hstep hO2 hc
        go_wp2_with fail
        go_region
        go_wp2_with fail
        go_roundw
        case rel => exact ⟨i + 1, n, g, cap, ws.set n (ws[n] ++ s.extract i (i + 1)), rfl, by go_num, by have := HIN.out; omega, by have := HIN.out; omega, HIN.out.2.2, HW2.out, HZ2.out, HF.out.1, HF.out.2⟩
        case measure => have := HIN.out; simp [RowKit.intOf]; omega
    · have hie : i = s.size := by omega
      have hW := HW.out
      rw [hie, List.take_of_length_le (by simp)] at hW
      have hO := HO.out
      rw [← hwn] at hO
      have HF := Lib.hid (show bytesOf ws = wordsL s.data.toList ∧ (∀ x ∈ ws, x.size ≤ 100) ∧ wr.ownsRow w.heap.size 9 1 (.slice (some ⟨g, 0, none⟩) ws.length cap) ws.length (strs ws) ∧ Below w.heap.size w wr from ⟨hW, (fun x hx => by have := HZ.out x hx; have := HS.out; omega), hO, HB.out⟩)
      have HWN := Lib.hid hwn
      clear hW hO HO HW hie HZ hwn
      go_wp2_with fail
      go_ret
      exact ⟨g, cap, ws, by rw [HWN.out]; rfl, HF.out.1, HF.out.2.1, HF.out.2.2.1, HF.out.2.2.2⟩
end Go.Proofs.YtakekegghpgeaaaDoor
