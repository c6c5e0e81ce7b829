/-
  Joined: package row.
-/
import Derived.Test.YtfkkdoodngldhaaDoorCatC
namespace Go.Proofs.YtfkkdoodngldhaaDoor
open Go.RowKit
set_option linter.unusedVariables false

def shortP (b : List Col) (pf : ByteArray) : Prop := ∀ j, j < b.length → (nameP pf (colAt b j).1).size ≤ 16
instance (b : List Col) (pf : ByteArray) : Decidable (shortP b pf) := by unfold shortP; infer_instance
def joinedErr (a b : List Col) (pf : ByteArray) : Int := if schemaOK a = false then 1 else if schemaOK b = false then 1 else if nameOK pf = false then 1 else if 8 < a.length + b.length then 4 else if ¬ shortP b pf then 4 else if distinctB (joinC a b pf) = false then 6 else 0
def joinedVal (a b : List Col) (pf : ByteArray) : List Col := if joinedErr a b pf = 0 then joinC a b pf else []
def mixC (a b : List Col) (pf : ByteArray) (k : Nat) : List Col := a ++ ((b.take k).map (preC pf) ++ b.drop k)
theorem mixC_len (a b : List Col) (pf : ByteArray) (k : Nat) : (mixC a b pf k).length = a.length + b.length := by
  unfold mixC
  rw [List.length_append, List.length_append, List.length_map, List.length_take, List.length_drop]
  omega
theorem mixC_zero (a b : List Col) (pf : ByteArray) : mixC a b pf 0 = a ++ b := by simp [mixC]
theorem mixC_all (a b : List Col) (pf : ByteArray) : mixC a b pf b.length = joinC a b pf := by simp [mixC, joinC]
theorem mixC_at {a b : List Col} {pf : ByteArray} {k : Nat} (h : k < b.length) : colAt (mixC a b pf k) (a.length + k) = colAt b k := by
  have hl : ((b.take k).map (preC pf)).length = k := by rw [List.length_map, List.length_take]; omega
  unfold colAt mixC
  rw [List.getElem?_append_right (by omega), List.getElem?_append_right (by omega), hl, List.getElem?_drop]
  congr 2
  omega
theorem mixC_next {a b : List Col} {pf : ByteArray} {k : Nat} (h : k < b.length) : (mixC a b pf k).set (a.length + k) (preC pf (colAt b k)) = mixC a b pf (k + 1) := by
  have hl : ((b.take k).map (preC pf)).length = k := by rw [List.length_map, List.length_take]; omega
  have hb : colAt b k = b[k] := by simp [colAt, h]
  unfold mixC
  rw [List.set_append_right _ _ (by omega), show a.length + k - a.length = k by omega, List.set_append_right _ _ (by omega), hl, Nat.sub_self, List.drop_eq_getElem_cons h, List.set_cons_zero, List.take_succ_eq_append_getElem h, List.map_append, hb]
  simp
theorem flatC_set : ∀ (xs : List Col) (i : Nat) (s : ByteArray), i < xs.length → (flatC xs).set (i * 2) (.string s) = flatC (xs.set i (s, (colAt xs i).2))
  | [], i, s, h => by simp at h
  | w :: ws, 0, s, _ => by simp [flatC, cellsC, colAt]
  | w :: ws, i + 1, s, h => by
    have h := flatC_set ws i s (by simpa using h)
    rw [show (i + 1) * 2 = i * 2 + 2 by omega]
    simp only [flatC, List.set_cons_succ, List.flatMap_cons, cellsC, List.cons_append, List.nil_append] at h ⊢
    rw [h]
    rfl

set_option maxRecDepth 100000 in
set_option maxHeartbeats 4000000 in
theorem rowJoined_any (p q : Option Addr) (a b : List Col) (pf : ByteArray) (c d : Nat) (hz : p = none → c = 0) (hy : q = none → d = 0) (hma : a.length ≤ 9223372036854775807) (hmb : b.length ≤ 9223372036854775807) (hpf : pf.size ≤ 9223372036854775807) (hsa : ∀ j, (colAt a j).1.size ≤ maxLen) (hsb : ∀ j, (colAt b j).1.size ≤ maxLen) (w : World) (hX : ColsIn w p a) (hY : ColsIn w q b) :
    Calls Tryd.prog 46 #[.slice p a.length c, .slice q b.length d, .string pf] w (TwoPostC w (joinedVal a b pf) (joinedErr a b pf)) := by
  have h1 := rowSchema_any p a c hma hsa w hX
  have h2 := fun W (h : Below w.heap.size w W) => rowSchema_any q b d hmb hsb W (hY.belowV h)
  have h3 := fun W => rowName_any pf hpf W
  cases qa : schemaOK a with
  | false =>
    have he : joinedErr a b pf = 1 := by unfold joinedErr; rw [qa]; rfl
    have hv : joinedVal a b pf = [] := by unfold joinedVal; rw [he]; rfl
    rw [he, hv]
    rw [qa] at h1
    have HV := Lib.hid h1
    clear h1 h2 h3 he hv hX hY qa hz hy hsa hsb
    go_enter Tryd.func46, Tryd.ntmps46
    go_wp2_with fail
    refine HV.out.mono ?_
    rintro e w1 ⟨rfl, hb1⟩
    go_wp2_with fail
    go_ret2
    exact ⟨_, rfl, World.ownsRow_nil _ _ _ _, hb1⟩
  | true =>
    rw [qa] at h1
    cases qb : schemaOK b with
    | false =>
      have he : joinedErr a b pf = 1 := by unfold joinedErr; rw [qa, qb]; rfl
      have hv : joinedVal a b pf = [] := by unfold joinedVal; rw [he]; rfl
      rw [he, hv]
      rw [qb] at h2
      have HV := Lib.hid h1
      have HV2 := Lib.hid h2
      clear h1 h2 h3 he hv hX hY qa qb hz hy hsa hsb
      go_enter Tryd.func46, Tryd.ntmps46
      go_wp2_with fail
      refine HV.out.mono ?_
      rintro e w1 ⟨rfl, hb1⟩
      go_wp2_with fail
      refine (HV2.out _ hb1).mono ?_
      rintro e w2 ⟨rfl, hb2⟩
      go_wp2_with fail
      go_ret2
      exact ⟨_, rfl, World.ownsRow_nil _ _ _ _, hb1.trans (hb2.mono hb1.size)⟩
    | true =>
      rw [qb] at h2
      cases qn : nameOK pf with
      | false =>
        have he : joinedErr a b pf = 1 := by unfold joinedErr; rw [qa, qb, qn]; rfl
        have hv : joinedVal a b pf = [] := by unfold joinedVal; rw [he]; rfl
        rw [he, hv]
        rw [qn] at h3
        have HV := Lib.hid h1
        have HV2 := Lib.hid h2
        have HV3 := Lib.hid h3
        clear h1 h2 h3 he hv hX hY qa qb qn hz hy hsa hsb
        go_enter Tryd.func46, Tryd.ntmps46
        go_wp2_with fail
        refine HV.out.mono ?_
        rintro e w1 ⟨rfl, hb1⟩
        go_wp2_with fail
        refine (HV2.out _ hb1).mono ?_
        rintro e w2 ⟨rfl, hb2⟩
        go_wp2_with fail
        refine (HV3.out _).mono ?_
        rintro e w3 ⟨rfl, rfl⟩
        go_wp2_with fail
        go_ret2
        exact ⟨_, rfl, World.ownsRow_nil _ _ _ _, hb1.trans (hb2.mono hb1.size)⟩
      | true =>
        rw [qn] at h3
        have ha8 := schemaOK_is qa
        have hb8 := schemaOK_is qb
        have hpf16 : pf.size ≤ 16 := by unfold nameOK at qn; rw [decide_eq_true_eq] at qn; exact qn.2.1
        by_cases h8 : 8 < a.length + b.length
        · have he : joinedErr a b pf = 4 := by unfold joinedErr; rw [qa, qb, qn, if_neg (by decide), if_neg (by decide), if_neg (by decide), if_pos h8]
          have hv : joinedVal a b pf = [] := by unfold joinedVal; rw [he]; rfl
          rw [he, hv]
          have h8' : (8 : Int) < (a.length : Int) + (b.length : Int) := by omega
          have hla : (a.length : Int) ≤ 8 := by have := ha8.2.1; omega
          have hlb : (b.length : Int) ≤ 8 := by have := hb8.2.1; omega
          have HV := Lib.hid h1
          have HV2 := Lib.hid h2
          have HV3 := Lib.hid h3
          clear h1 h2 h3 he hv hX hY qa qb qn hz hy hsa hsb ha8 hb8
          go_enter Tryd.func46, Tryd.ntmps46
          go_wp2_with fail
          refine HV.out.mono ?_
          rintro e w1 ⟨rfl, hb1⟩
          go_wp2_with fail
          refine (HV2.out _ hb1).mono ?_
          rintro e w2 ⟨rfl, hb2⟩
          go_wp2_with fail
          refine (HV3.out _).mono ?_
          rintro e w3 ⟨rfl, rfl⟩
          go_wp2_with fail
          go_ret2
          exact ⟨_, rfl, World.ownsRow_nil _ _ _ _, hb1.trans (hb2.mono hb1.size)⟩
        · have hlong : ∀ j, j < b.length → ¬ (nameP pf (colAt b j).1).size ≤ 16 → joinedErr a b pf = 4 ∧ joinedVal a b pf = [] := fun j hj h => by
            have he : joinedErr a b pf = 4 := by unfold joinedErr; rw [qa, qb, qn, if_neg (by decide), if_neg (by decide), if_neg (by decide), if_neg h8, if_pos (fun H => h (H j hj))]
            exact ⟨he, by unfold joinedVal; rw [he]; rfl⟩
          have hdup : shortP b pf → distinctB (joinC a b pf) = false → joinedErr a b pf = 6 ∧ joinedVal a b pf = [] := fun hs h => by
            have he : joinedErr a b pf = 6 := by unfold joinedErr; rw [qa, qb, qn, if_neg (by decide), if_neg (by decide), if_neg (by decide), if_neg h8, if_neg (fun H => H hs), h]; rfl
            exact ⟨he, by unfold joinedVal; rw [he]; rfl⟩
          have hok : shortP b pf → distinctB (joinC a b pf) = true → joinedErr a b pf = 0 ∧ joinedVal a b pf = joinC a b pf := fun hs h => by
            have he : joinedErr a b pf = 0 := by unfold joinedErr; rw [qa, qb, qn, if_neg (by decide), if_neg (by decide), if_neg (by decide), if_neg h8, if_neg (fun H => H hs), h]; rfl
            exact ⟨he, by unfold joinedVal; rw [he]; rfl⟩
          have hjl : (joinC a b pf).length = a.length + b.length := by rw [← mixC_all, mixC_len]
          have hjs : shortP b pf → ∀ j, (colAt (joinC a b pf) j).1.size ≤ maxLen := fun hs j => by
            unfold joinC
            by_cases c1 : j < a.length
            · have : colAt (a ++ b.map (preC pf)) j = colAt a j := by unfold colAt; rw [List.getElem?_append_left c1]
              rw [this]; exact hsa j
            · by_cases c2 : j - a.length < b.length
              · have : colAt (a ++ b.map (preC pf)) j = preC pf (colAt b (j - a.length)) := by
                  unfold colAt; rw [List.getElem?_append_right (by omega), List.getElem?_map, List.getElem?_eq_getElem c2]; rfl
                rw [this]
                have := hs (j - a.length) c2
                unfold preC maxLen
                dsimp only
                omega
              · have : colAt (a ++ b.map (preC pf)) j = c0 := by
                  unfold colAt; rw [List.getElem?_eq_none (by rw [List.length_append, List.length_map]; omega)]; rfl
                rw [this]; exact Nat.zero_le _
          have h8' : (a.length : Int) + (b.length : Int) ≤ 8 := by omega
          have hcat : ∀ W, Below w.heap.size w W → Calls Tryd.prog 77 #[.slice (some ⟨W.heap.size, 0, none⟩) 2 2] (W.alloc (.cells #[.slice p a.length c, .slice q b.length d] 23)) (OwnPostC (W.alloc (.cells #[.slice p a.length c, .slice q b.length d] 23)) (a ++ b)) := fun W h => by
            have hb : Below w.heap.size w (W.alloc (.cells #[.slice p a.length c, .slice q b.length d] 23)) := h.alloc h.size _
            have hk := Blk.new W 23 #[.slice p a.length c, .slice q b.length d]
            exact slicesConcatC_any W.heap.size p q a b c d hz hy (by omega) (by omega) _ (by simp) (hX.belowV hb) (hY.belowV hb) (hk.cell 0) (hk.cell 1)
          have hnum := fun (hs : shortP b pf) (p2 : Option Addr) (c2 : Nat) W (h : ColsIn W p2 (joinC a b pf)) => numbers_any p2 (joinC a b pf) c2 (by omega) (hjs hs) W h
          have hbb : ∀ j, j < b.length → (colAt b j).1.size ≤ 16 := fun j hj => by
            have := (hb8.2.2 j hj).1.1
            unfold nameOK at this; rw [decide_eq_true_eq] at this; exact this.2.1
          have ha1 : 1 ≤ a.length := ha8.1
          generalize joinedErr a b pf = er at hlong hdup hok ⊢
          generalize joinedVal a b pf = vl at hlong hdup hok ⊢
          have HV := Lib.hid h1
          have HV2 := Lib.hid h2
          have HV3 := Lib.hid h3
          have HCAT := Lib.hid hcat
          have HNUM := Lib.hid hnum
          have HLONG := Lib.hid hlong
          have HDUP := Lib.hid hdup
          have HOK := Lib.hid hok
          have HJL := Lib.hid hjl
          have HBB := Lib.hid hbb
          clear h1 h2 h3 hX hY qa qb qn hz hy hcat hnum hlong hdup hok hjl hjs hbb hsa hsb ha8 hb8
          go_enter Tryd.func46, Tryd.ntmps46
          go_wp2_with fail
          refine HV.out.mono ?_
          rintro e w1 ⟨rfl, hb1⟩
          go_wp2_with fail
          refine (HV2.out _ hb1).mono ?_
          rintro e w2 ⟨rfl, hb2⟩
          have hb12 := hb1.trans (hb2.mono hb1.size)
          go_wp2_with fail
          refine (HV3.out _).mono ?_
          rintro e w2 ⟨rfl, rfl⟩
          go_wp2_with fail
          refine (HCAT.out _ hb12).mono ?_
          rintro e w3 ⟨v3, rfl, hrow3, hb3⟩
          have hba : Below w.heap.size w (w2.alloc (.cells #[.slice p a.length c, .slice q b.length d] 23)) := hb12.alloc hb12.size _
          have hB3 := hba.trans (hb3.mono hba.size)
          have hrow4 := ownsRow_base hrow3 hba.size
          rw [show (a ++ b).length = a.length + b.length from List.length_append] at hrow4
          obtain ⟨n3, hn3⟩ : ∃ n3 : Nat, a.length + b.length = n3 := ⟨_, rfl⟩
          rw [hn3] at hrow4
          obtain ⟨p3, c3, rfl⟩ := slice_of_owns hrow4
          obtain ⟨g, rfl, hg⟩ : ∃ g, p3 = some ⟨g, 0, none⟩ ∧ w.heap.size ≤ g := by
            rcases hrow4.2 with ⟨h0, hn⟩ | ⟨g, cap, cur, he, hg, _⟩
            · omega
            · simp only [Value.slice.injEq] at he
              exact ⟨g, he.1, hg⟩
          have hrow5 : w3.ownsRow w.heap.size 67 2 (.slice (some ⟨g, 0, none⟩) n3 c3) n3 (flatC (mixC a b pf 0)) := by rw [mixC_zero]; exact hrow4
          clear hrow3 hrow4 hb1 hb2 hb3 hba hb12 HCAT HV HV2 HV3
          go_wp2_with fail
          go_loopw [9] (fun t wr => ∃ k : Nat, t = .int .i64 ((a.length + k : Nat) : Int) ∧ k ≤ b.length ∧ wr.ownsRow w.heap.size 67 2 (.slice (some ⟨g, 0, none⟩) n3 c3) n3 (flatC (mixC a b pf k)) ∧ Hid (∀ j, j < k → (nameP pf (colAt b j).1).size ≤ 16) ∧ Below w.heap.size w wr) (fun t _ => (a.length + b.length) - (intOf t).toNat)
          case atStart => exact ⟨0, rfl, Nat.zero_le _, hrow5, fun j h => absurd h (by omega), hB3⟩
          case round =>
            clear hrow5 hB3
            obtain ⟨k, rfl, hk, hrow, hv, hB⟩ := hrel
            by_cases hlt : k < b.length
            · have hlen : (mixC a b pf k).length = n3 := by rw [mixC_len, hn3]
              have hat := mixC_at (a := a) (pf := pf) hlt
              have hnx := mixC_next (a := a) (pf := pf) hlt
              have hb16 := HBB.out k hlt
              obtain ⟨m, hm⟩ : ∃ m : Nat, a.length + k = m := ⟨_, rfl⟩
              have hmn : m < n3 := by omega
              rw [hm] at hat hnx ⊢
              obtain ⟨g0, g1⟩ := flatC_get (mixC a b pf k) m (by omega)
              have e0 := (hrow.cellAt (m * 2) (by omega)).trans g0
              have f0 := hrow.frozenAt (m * 2)
              have hst := fun s' : ByteArray => (hrow.stored (m * 2) (.string s')).1
              have hse := fun s' : ByteArray => flatC_set (mixC a b pf k) m s' (by omega)
              rw [hat] at e0 hse
              have hnew : (wr.setCell ⟨g, m * 2, none⟩ (.string (nameP pf (colAt b k).1))).ownsRow w.heap.size 67 2 (.slice (some ⟨g, 0, none⟩) n3 c3) n3 (flatC (mixC a b pf (k + 1))) := by
                have h := hst (nameP pf (colAt b k).1)
                rw [hse] at h
                rw [← hnx]
                exact h
              have hBn : Below w.heap.size w (wr.setCell ⟨g, m * 2, none⟩ (.string (nameP pf (colAt b k).1))) := hB.setCell hg _
              have e1 : (wr.setCell ⟨g, m * 2, none⟩ (.string (nameP pf (colAt b k).1))).cell? ⟨g, m * 2, none⟩ = some (.string (nameP pf (colAt b k).1)) := by
                rw [hnew.cellAt (m * 2) (by omega), ← hnx]
                have h2 := (flatC_get ((mixC a b pf k).set m (preC pf (colAt b k))) m (by rw [List.length_set]; omega)).1
                rw [h2]
                unfold colAt preC
                rw [List.getElem?_set_self (by omega)]
                rfl
              have hm0 : (0 : Int) ≤ (m : Int) := by omega
              have hm1 : (m : Int) < (n3 : Int) := by omega
              have hps := nameP_size pf (colAt b k).1
              have hbad : ¬ (nameP pf (colAt b k).1).size ≤ 16 → er = 4 ∧ vl = [] := HLONG.out k hlt
              have hgood : (nameP pf (colAt b k).1).size ≤ 16 → ∀ j, j < k + 1 → (nameP pf (colAt b j).1).size ≤ 16 := fun h j hj => by
                by_cases e : j = k
                · subst e; exact h
                · exact hv.out j (by omega)
              clear g0 g1 hst hse hat hnx hv
              unfold nameP at hnew hBn e1 hps
              rw [show ∀ s', nameP pf s' = pf ++ ⟨#[95]⟩ ++ s' from fun _ => rfl] at hbad
              generalize (colAt b k).1 = nm at e0 hnew hBn e1 hps hbad hgood hb16
              by_cases h16 : (pf ++ ⟨#[95]⟩ ++ nm).size ≤ 16
              · have HG := Lib.hid (hgood h16)
                have HNW := Lib.hid hnew
                have HBN := Lib.hid hBn
                have h16' : ((pf ++ ⟨#[95]⟩ ++ nm).size : Int) ≤ 16 := by omega
                have h16n : pf.size + 1 + nm.size ≤ 16 := by omega
                have h16s : (pf.size : Int) + 1 + (nm.size : Int) ≤ 16 := by omega
                clear hgood hbad hnew hBn hps
                go_wp2_with fail
                go_roundw
                case rel => exact ⟨k + 1, by go_num, by omega, HNW.out, HG.out, HBN.out⟩
                case measure => simp [intOf]; omega
              · have HG := Lib.hid (hbad h16)
                have HBN := Lib.hid hBn
                have h16' : 16 < ((pf ++ ⟨#[95]⟩ ++ nm).size : Int) := by omega
                have h16n : 16 < pf.size + 1 + nm.size := by omega
                have h16s : 16 < (pf.size : Int) + 1 + (nm.size : Int) := by omega
                clear hgood hbad hnew hBn hps
                go_wp2_with fail
                go_ret2
                obtain ⟨rfl, rfl⟩ := HG.out
                exact ⟨_, rfl, World.ownsRow_nil _ _ _ _, HBN.out⟩
            · have hge : b.length ≤ k := by omega
              obtain rfl : k = b.length := by omega
              have hsh : shortP b pf := fun j hj => hv.out j hj
              have hown : OwnsC wr w.heap.size (.slice (some ⟨g, 0, none⟩) n3 c3) (joinC a b pf) := by
                unfold OwnsC
                rw [HJL.out, hn3, ← mixC_all]
                exact hrow
              have hnum := HNUM.out hsh (some ⟨g, 0, none⟩) c3 wr (by
                have h := hown
                unfold OwnsC at h
                have hl := HJL.out
                rw [hn3] at hl
                exact colsIn_of_owns (base := w.heap.size) (c := c3) (by unfold OwnsC; rw [hl]; rw [hl] at h; exact h))
              rw [HJL.out, hn3] at hnum
              have hd := HDUP.out hsh
              have ho := HOK.out hsh
              have hjl := HJL.out
              rw [hn3] at hjl
              generalize joinC a b pf = jn at hown hnum hd ho hjl
              have HN := Lib.hid hnum
              have HOWN := Lib.hid hown
              have HD := Lib.hid hd
              have HO := Lib.hid ho
              have HJ := Lib.hid hjl
              have hn3' : ((a.length + b.length : Nat) : Int) = (n3 : Int) := by rw [hn3]
              rw [hn3]
              clear hnum hown hd ho hjl hrow hsh hv HNUM HDUP HOK HJL HLONG HBB
              go_wp2_with fail
              refine HN.out.mono ?_
              rintro e w4 ⟨bm, D, rfl, hmap, hD, hB4⟩
              have HB4 := hB.trans (hB4.mono hB.size)
              have HR := Lib.hid (owns_below HOWN.out hB4)
              have hjl2 := HJ.out
              clear HN HOWN hB4
              cases hdist : distinctB jn with
              | true =>
                have hlt1 := size_ge hD hdist
                rw [hjl2] at hlt1
                have hlt2 : ¬ Maps.size D < n3 := Nat.not_lt.2 hlt1
                obtain ⟨rfl, rfl⟩ := HO.out hdist
                clear HO HD hdist HJ
                go_wp2_with (at_len; refine wpList_len_own _ rfl _ 69 rfl 9 3 mapT _ bm _ D rfl hmap ?_)
                go_ret2
                exact ⟨_, rfl, HR.out, HB4⟩
              | false =>
                have hlt1 := size_less hD hdist
                rw [hjl2] at hlt1
                obtain ⟨rfl, rfl⟩ := HD.out hdist
                clear HO HD hdist HJ
                go_wp2_with (at_len; refine wpList_len_own _ rfl _ 69 rfl 9 3 mapT _ bm _ D rfl hmap ?_)
                go_ret2
                exact ⟨_, rfl, World.ownsRow_nil _ _ _ _, HB4⟩
end Go.Proofs.YtfkkdoodngldhaaDoor
