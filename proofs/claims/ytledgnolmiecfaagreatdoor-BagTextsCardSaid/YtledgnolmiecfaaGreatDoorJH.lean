/-
  Several texts in one.
-/
import Derived.Test.YtledgnolmiecfaaGreatDoorSums
import Derived.Test.YtledgnolmiecfaaGreatDoorSameR
/-!
  Changes of package bag, as a contract; the document's SameChanges at two lists that read as one; the example that every statement asks.
-/
namespace Go.Proofs.YtledgnolmiecfaaGreatDoor
open Go.RowKit
set_option linter.unusedSimpArgs false

/-- A change: its time, its row's slice, its number. -/
abbrev ChR := Int × RowV × Int
abbrev cr0 : ChR := (0, r0, 0)
abbrev Ch := Int × List Val × Int
abbrev ch0 : Ch := (0, [], 0)
def chv (c : ChR) : Ch := (c.1, c.2.1.2.1, c.2.2)
def cvals (cs : List ChR) : List Ch := cs.map chv
theorem cvals_len (cs : List ChR) : (cvals cs).length = cs.length := by simp [cvals]
theorem cvals_get (cs : List ChR) (i : Nat) : (cvals cs)[i]?.getD ch0 = chv (cs[i]?.getD cr0) := by
  unfold cvals
  rw [List.getElem?_map]
  cases cs[i]? <;> rfl
def ChgAt (W : World) (b off : Nat) (cs : List ChR) : Prop :=
  ∀ i, i < cs.length → W.cell? ⟨b, off + i * 3, none⟩ = some (.int .i64 (cs[i]?.getD cr0).1) ∧ W.cell? ⟨b, off + i * 3 + 1, none⟩ = some (rowv (cs[i]?.getD cr0).2.1) ∧ W.cell? ⟨b, off + i * 3 + 2, none⟩ = some (.int .i64 (cs[i]?.getD cr0).2.2) ∧ RowOK W (cs[i]?.getD cr0).2.1 ∧ ((cs[i]?.getD cr0).2.1.1 = none → (cs[i]?.getD cr0).2.1.2.2 = 0)
theorem ChgAt.belowV {b off : Nat} {W W' : World} {cs : List ChR} (h : ChgAt W b off cs) (hb : Below W.heap.size W W') (hbk : b < W.heap.size) : ChgAt W' b off cs := fun i hi =>
  ⟨(hb.cell (p := ⟨b, off + i * 3, none⟩) hbk).trans (h i hi).1, (hb.cell (p := ⟨b, off + i * 3 + 1, none⟩) hbk).trans (h i hi).2.1, (hb.cell (p := ⟨b, off + i * 3 + 2, none⟩) hbk).trans (h i hi).2.2.1, (h i hi).2.2.2.1.belowV hb, (h i hi).2.2.2.2⟩
def ChgIn (W : World) (p : Option Addr) (cs : List ChR) : Prop :=
  0 < cs.length → ∃ b off, p = some ⟨b, off, none⟩ ∧ b < W.heap.size ∧ ChgAt W b off cs
theorem ChgIn.belowV {p : Option Addr} {W W' : World} {cs : List ChR} (h : ChgIn W p cs) (hb : Below W.heap.size W W') : ChgIn W' p cs := fun hp => by
  obtain ⟨b, off, e, hl, hr⟩ := h hp
  exact ⟨b, off, e, Nat.lt_of_lt_of_le hl hb.size, hr.belowV hb hl⟩
def cellsC (c : ChR) : List Value := [.int .i64 c.1, rowv c.2.1, .int .i64 c.2.2]
def flatC (cs : List ChR) : List Value := cs.flatMap cellsC
theorem flatC_app (cs ds : List ChR) : flatC (cs ++ ds) = flatC cs ++ flatC ds := by simp [flatC]
theorem flatC_get (cs : List ChR) : ∀ i, i < cs.length → (flatC cs)[i * 3]? = some (.int .i64 (cs[i]?.getD cr0).1) ∧ (flatC cs)[i * 3 + 1]? = some (rowv (cs[i]?.getD cr0).2.1) ∧ (flatC cs)[i * 3 + 2]? = some (.int .i64 (cs[i]?.getD cr0).2.2) := by
  induction cs with
  | nil => intro i h; simp at h
  | cons x xs ih =>
    intro i h
    cases i with
    | zero => simp [flatC, cellsC]
    | succ i =>
      have := ih i (by simpa using h)
      rw [show (i + 1) * 3 = i * 3 + 3 by omega]
      simpa [flatC, cellsC] using this
theorem infoC : (Tryz.prog.info? 46).map (fun i => (i.zero, i.size, i.bytes)) = some (some (.agg #[.int .i64 0, .slice none 0 0, .int .i64 0]), 3, 40) := by kernel_rfl
theorem take_set3c {L : List Value} {n i : Nat} (hl : L.length = n * 3) (hi : i < n) (a b c : Value) : (((L.set (i * 3) a).set (i * 3 + 1) b).set (i * 3 + 2) c).take ((i + 1) * 3) = L.take (i * 3) ++ [a, b, c] := by
  apply List.ext_getElem?
  intro j
  rw [List.getElem?_append]
  have hlen : (L.take (i * 3)).length = i * 3 := by rw [List.length_take]; omega
  rw [hlen]
  by_cases h1 : j < i * 3
  · rw [if_pos h1, List.getElem?_take_of_lt (by omega), List.getElem?_take_of_lt h1, List.getElem?_set_ne (by omega), List.getElem?_set_ne (by omega), List.getElem?_set_ne (by omega)]
  · rw [if_neg h1]
    have hj : j = i * 3 ∨ j = i * 3 + 1 ∨ j = i * 3 + 2 ∨ (i + 1) * 3 ≤ j := by omega
    rcases hj with rfl | rfl | rfl | hj
    · rw [List.getElem?_take_of_lt (by omega), List.getElem?_set_ne (by omega), List.getElem?_set_ne (by omega), List.getElem?_set_self (by omega)]; simp
    · rw [List.getElem?_take_of_lt (by omega), List.getElem?_set_ne (by omega), List.getElem?_set_self (by rw [List.length_set]; omega), show i * 3 + 1 - i * 3 = 1 by omega]; rfl
    · rw [List.getElem?_take_of_lt (by omega), List.getElem?_set_self (by rw [List.length_set, List.length_set]; omega), show i * 3 + 2 - i * 3 = 2 by omega]; rfl
    · rw [List.getElem?_take_eq_none (by omega), List.getElem?_eq_none (by simp; omega)]

def inT (t : Int) : Prop := -1000000000000 ≤ t ∧ t ≤ 1000000000000
instance (t : Int) : Decidable (inT t) := by unfold inT; infer_instance
theorem isTime_any (t : Int) (w : World) : Calls Tryz.prog 30 #[.int .i64 t] w fun e w' => e = .returned (.bool (decide (inT t))) ∧ w = w' := by
  by_cases h1 : -1000000000000 ≤ t
  · by_cases h2 : t ≤ 1000000000000
    · have e : decide (inT t) = true := decide_eq_true ⟨h1, h2⟩
      rw [e]
      clear e
      go_enter Tryz.func30, Tryz.ntmps30
      go_wp2
      go_ret
      exact ⟨rfl, rfl⟩
    · have e : decide (inT t) = false := decide_eq_false fun h => h2 h.2
      have h2' : decide (t ≤ 1000000000000) = false := by simpa using h2
      rw [e]
      clear e h2
      go_enter Tryz.func30, Tryz.ntmps30
      go_wp2
      go_ret
      exact ⟨rfl, rfl⟩
  · have e : decide (inT t) = false := decide_eq_false fun h => h1 h.1
    have h1' : decide (-1000000000000 ≤ t) = false := by simpa using h1
    rw [e]
    clear e h1
    go_enter Tryz.func30, Tryz.ntmps30
    go_wp2
    go_ret
    exact ⟨rfl, rfl⟩

def sub (x y : Int) : Int := x - y
def stamp (t : Int) (l : List It) : List Ch := l.map fun x => (t, x.1, x.2)
def chgErr (a b : List It) (t : Int) : Int := if validBag a = true ∧ validBag b = true then (if inT t then combErr (fun x y => x - y) b a else 7) else 1
def chgVal (a b : List It) (t : Int) : List Ch := if chgErr a b t = 0 then stamp t (combVal (fun x y => x - y) b a) else []
def ChgPost (w : World) (l : List Ch) (er : Int) (e : Ending) (w' : World) : Prop :=
  ∃ (p : Option Addr) (cs : List ChR) (cap : Nat), e = .returned (.tuple #[.slice p cs.length cap, .int .i64 er]) ∧ cvals cs = l ∧ cs.length ≤ cap ∧ cs.length ≤ 1000000 ∧ ChgIn w' p cs ∧ Below w.heap.size w w'
theorem chgPost_nil {w w' : World} {er : Int} (h : Below w.heap.size w w') : ChgPost w [] er (.returned (.tuple #[.slice none 0 0, .int .i64 er])) w' := ⟨none, [], 0, rfl, rfl, Nat.le_refl _, by simp, fun h => absurd h (by simp), h⟩
def stampR (t : Int) (s : List ItR) : List ChR := s.map fun x => (t, x.1, x.2)
theorem stampR_vals (t : Int) (s : List ItR) : cvals (stampR t s) = stamp t (vals s) := by unfold cvals stampR stamp vals; rw [List.map_map, List.map_map]; rfl
theorem stampR_next {t : Int} {s : List ItR} {i : Nat} (h : i < s.length) : stampR t (s.take (i + 1)) = stampR t (s.take i) ++ [(t, (s[i]?.getD ir0).1, (s[i]?.getD ir0).2)] := by
  rw [List.take_succ_eq_append_getElem h, List.getElem?_eq_getElem h]; unfold stampR; rw [List.map_append]; rfl
theorem chg_of_own {W : World} {B n cap g : Nat} {cs : List ChR} (hn : n = cs.length) (h : W.ownsRow B 46 3 (.slice (some ⟨g, 0, none⟩) n cap) n (flatC cs)) (hr : ∀ c ∈ cs, RowOK W c.2.1 ∧ (c.2.1.1 = none → c.2.1.2.2 = 0)) : ChgIn W (some ⟨g, 0, none⟩) cs := fun hp => by
  rcases h.2 with ⟨h', _⟩ | ⟨g', cap', cur, he, _, hg, _⟩
  · simp at h'
  · simp only [Value.slice.injEq, Option.some.injEq, Addr.mk.injEq, and_true, true_and] at he
    obtain ⟨rfl, rfl⟩ := he
    refine ⟨g, 0, rfl, (Array.getElem?_eq_some_iff.1 hg).1, fun i hi => ?_⟩
    obtain ⟨g0, g1, g2⟩ := flatC_get cs i hi
    have hm : cs[i]?.getD cr0 ∈ cs := by rw [List.getElem?_eq_getElem hi]; exact List.getElem_mem hi
    simp only [Nat.zero_add]
    exact ⟨(h.cellAt (i * 3) (by omega)).trans g0, (h.cellAt (i * 3 + 1) (by omega)).trans g1, (h.cellAt (i * 3 + 2) (by omega)).trans g2, (hr _ hm).1, (hr _ hm).2⟩

set_option maxRecDepth 100000 in
set_option maxHeartbeats 2000000 in
theorem Changes_any (p q : Option Addr) (rs ss : List ItR) (c d : Nat) (t : Int) (hm1 : rs.length ≤ 100000) (hm2 : ss.length ≤ 100000) (hc : rs.length ≤ c) (hd : ss.length ≤ d) (w : World) (hX : ItemsIn w p rs) (hZ : ItemsIn w q ss) :
    Calls Tryz.prog 13 #[.slice p rs.length c, .slice q ss.length d, .int .i64 t] w (ChgPost w (chgVal (vals rs) (vals ss) t) (chgErr (vals rs) (vals ss) t)) := by
  have h1 := bagValid_any p rs c (by omega) hc w hX
  have h2 := fun W (h : Below w.heap.size w W) => bagValid_any q ss d (by omega) hd W (hZ.belowV h)
  cases q1 : validBag (vals rs) with
  | false =>
    have e1 : chgErr (vals rs) (vals ss) t = 1 := by unfold chgErr; rw [q1]; rfl
    have e2 : chgVal (vals rs) (vals ss) t = [] := by unfold chgVal; rw [e1]; rfl
    rw [e1, e2]
    rw [q1] at h1
    have H1 := Lib.hid h1
    clear h1 h2 q1 hX hZ e1 e2
    go_enter Tryz.func13, Tryz.ntmps13
    go_wp2_with fail
    refine H1.out.mono ?_
    rintro e w1 ⟨rfl, hb1⟩
    go_wp2_with fail
    go_ret2
    exact chgPost_nil hb1
  | true =>
    cases q2 : validBag (vals ss) with
    | false =>
      have e1 : chgErr (vals rs) (vals ss) t = 1 := by unfold chgErr; rw [q1, q2]; rfl
      have e2 : chgVal (vals rs) (vals ss) t = [] := by unfold chgVal; rw [e1]; rfl
      rw [e1, e2]
      rw [q1] at h1
      rw [q2] at h2
      have H1 := Lib.hid h1
      have H2 := Lib.hid h2
      clear h1 h2 q1 q2 hX hZ e1 e2
      go_enter Tryz.func13, Tryz.ntmps13
      go_wp2_with fail
      refine H1.out.mono ?_
      rintro e w1 ⟨rfl, hb1⟩
      go_wp2_with fail
      refine (H2.out _ hb1).mono ?_
      rintro e w2 ⟨rfl, hb2⟩
      go_wp2_with fail
      go_ret2
      exact chgPost_nil (hb1.trans (hb2.mono hb1.size))
    | true =>
      rw [q1] at h1
      rw [q2] at h2
      have H1 := Lib.hid h1
      have H2 := Lib.hid h2
      have ht := fun W => isTime_any t W
      cases q3 : decide (inT t) with
      | false =>
        have e1 : chgErr (vals rs) (vals ss) t = 7 := by unfold chgErr; rw [if_pos ⟨q1, q2⟩, if_neg (of_decide_eq_false q3)]
        have e2 : chgVal (vals rs) (vals ss) t = [] := by unfold chgVal; rw [e1]; rfl
        rw [e1, e2]
        rw [q3] at ht
        have HT := Lib.hid ht
        clear h1 h2 q1 q2 hX hZ e1 e2 ht q3
        go_enter Tryz.func13, Tryz.ntmps13
        go_wp2_with fail
        refine H1.out.mono ?_
        rintro e w1 ⟨rfl, hb1⟩
        go_wp2_with fail
        refine (H2.out _ hb1).mono ?_
        rintro e w2 ⟨rfl, hb2⟩
        go_wp2_with fail
        refine (HT.out _).mono ?_
        rintro e w3 ⟨rfl, rfl⟩
        go_wp2_with fail
        go_ret2
        exact chgPost_nil (hb1.trans (hb2.mono hb1.size))
      | true =>
        have e1 : chgErr (vals rs) (vals ss) t = combErr (fun x y => x - y) (vals ss) (vals rs) := by unfold chgErr; rw [if_pos ⟨q1, q2⟩, if_pos (of_decide_eq_true q3)]
        have e2 : chgVal (vals rs) (vals ss) t = if combErr (fun x y => x - y) (vals ss) (vals rs) = 0 then stamp t (combVal (fun x y => x - y) (vals ss) (vals rs)) else [] := by unfold chgVal; rw [e1]
        rw [e1, e2]
        rw [q3] at ht
        have HT := Lib.hid ht
        have hmi := fun W (h : Below w.heap.size w W) => Minus_any q p ss rs d c hm2 hm1 hd hc W (hZ.belowV h) (hX.belowV h)
        generalize combErr (fun x y => x - y) (vals ss) (vals rs) = er at hmi ⊢
        generalize combVal (fun x y => x - y) (vals ss) (vals rs) = vl at hmi ⊢
        have HM := Lib.hid hmi
        obtain ⟨i0, hi, hz0, hz1, hz2⟩ := info_parts infoC
        clear h1 h2 q1 q2 hX hZ e1 e2 ht q3 hmi
        by_cases her : er = 0
        · subst her
          rw [if_pos rfl]
          go_enter Tryz.func13, Tryz.ntmps13
          go_wp2_with fail
          refine H1.out.mono ?_
          rintro e w1 ⟨rfl, hb1⟩
          go_wp2_with fail
          refine (H2.out _ hb1).mono ?_
          rintro e w2 ⟨rfl, hb2⟩
          have hB2 : Below w.heap.size w w2 := hb1.trans (hb2.mono hb1.size)
          clear hb1 hb2
          go_wp2_with fail
          refine (HT.out _).mono ?_
          rintro e w3 ⟨rfl, rfl⟩
          go_wp2_with fail
          refine (HM.out _ hB2).mono ?_
          rintro e w4 ⟨p4, s4, c4, rfl, hv4, hc4, hl4, hi4, hb4⟩
          have hB4 : Below w.heap.size w w4 := hB2.trans (hb4.mono hB2.size)
          have HI4 := Lib.hid hi4
          have HV4 := Lib.hid hv4
          clear hb4 hB2 hi4 hv4
          go_wp2_with (at_make; refine wpList_make_full _ rfl _ _ 41 rfl w4.heap.size 46 i0 (.agg #[.int .i64 0, .slice none 0 0, .int .i64 0]) 3 Tryz.underlying41 hi hz0 hz1 .i64 .i64 _ _ s4.length rfl rfl rfl rfl (by rw [hz2]; omega) (by unfold maxLen; omega) (Nat.le_refl _) ?_; intro w5 hrow5 hg5)
          have hB5 : Below w4.heap.size w4 w5 := (Below.refl _ _).grown hg5 (Nat.le_refl _) (fun k e => by cases e)
          go_loopw [11, 12, 38] (fun _ _ s wr => ∃ (i : Nat) (L : List Value), s = .int .i64 i ∧ i ≤ s4.length ∧ wr.ownsRow w4.heap.size 46 3 (.slice (some ⟨w4.heap.size, 0, none⟩) s4.length s4.length) s4.length L ∧ Hid (L.take (i * 3) = flatC (stampR t (s4.take i))) ∧ Below w4.heap.size w4 wr) (fun _ _ s _ => s4.length - (intOf s).toNat)
          case atStart => exact ⟨0, _, rfl, Nat.zero_le _, hrow5, by simp [Hid, stampR, flatC], hB5⟩
          case round =>
            clear hrow5 hg5 hB5
            obtain ⟨i, L, rfl, hin, hrow, hL, hB⟩ := hrel
            have hBs := hB.size
            by_cases hlt : i < s4.length
            · obtain ⟨b, off, rfl, hbl, hra⟩ := HI4.out (by omega)
              obtain ⟨d0, d1, _, _⟩ := (hra.belowV hB hbl) i hlt
              have hnx := stampR_next (t := t) hlt
              have hi0 : (0 : Int) ≤ (i : Int) := by omega
              have hi1 : (i : Int) < (s4.length : Int) := by omega
              clear hra
              generalize s4[i]?.getD ir0 = x at d0 d1 hnx
              obtain ⟨⟨xq, xs, xc⟩, xn⟩ := x
              dsimp only [rowv] at d0 d1
              have hLl : L.length = s4.length * 3 := hrow.1
              have hbA : Below wr.heap.size wr (wr.alloc (.cells #[.slice xq xs.length xc, .int .i64 xn] 38)) := (Below.refl _ _).alloc (Nat.le_refl _) _
              have hrA := hrow.alloc (.cells #[.slice xq xs.length xc, .int .i64 xn] 38)
              have k0 : (wr.alloc (.cells #[.slice xq xs.length xc, .int .i64 xn] 38)).cell? ⟨wr.heap.size, 0, none⟩ = some (.slice xq xs.length xc) := (Blk.new wr 38 #[.slice xq xs.length xc, .int .i64 xn]).cell 0
              have k1 : (wr.alloc (.cells #[.slice xq xs.length xc, .int .i64 xn] 38)).cell? ⟨wr.heap.size, 1, none⟩ = some (.int .i64 xn) := (Blk.new wr 38 #[.slice xq xs.length xc, .int .i64 xn]).cell 1
              obtain ⟨u0, e0⟩ : ∃ u, (wr.alloc (.cells #[.slice xq xs.length xc, .int .i64 xn] 38)).cell? ⟨w4.heap.size, i * 3, none⟩ = some u := ⟨_, (hrA.cellAt (i * 3) (by omega)).trans (List.getElem?_eq_getElem (by omega))⟩
              obtain ⟨u1, e1⟩ : ∃ u, (wr.alloc (.cells #[.slice xq xs.length xc, .int .i64 xn] 38)).cell? ⟨w4.heap.size, i * 3 + 1, none⟩ = some u := ⟨_, (hrA.cellAt (i * 3 + 1) (by omega)).trans (List.getElem?_eq_getElem (by omega))⟩
              obtain ⟨u2, e2⟩ : ∃ u, (wr.alloc (.cells #[.slice xq xs.length xc, .int .i64 xn] 38)).cell? ⟨w4.heap.size, i * 3 + 2, none⟩ = some u := ⟨_, (hrA.cellAt (i * 3 + 2) (by omega)).trans (List.getElem?_eq_getElem (by omega))⟩
              have f0 := hrA.frozenAt (i * 3)
              have f1 := hrA.frozenAt (i * 3 + 1)
              have f2 := hrA.frozenAt (i * 3 + 2)
              have hq := (((hrA.stored (i * 3) (.int .i64 t)).1.stored (i * 3 + 1) (.slice xq xs.length xc)).1.stored (i * 3 + 2) (.int .i64 xn)).1
              have hB6 : Below w4.heap.size w4 ((((wr.alloc (.cells #[.slice xq xs.length xc, .int .i64 xn] 38)).setCell ⟨w4.heap.size, i * 3, none⟩ (.int .i64 t)).setCell ⟨w4.heap.size, i * 3 + 1, none⟩ (.slice xq xs.length xc)).setCell ⟨w4.heap.size, i * 3 + 2, none⟩ (.int .i64 xn)) := (((hB.trans (hbA.mono hBs)).setCell (Nat.le_refl _) _).setCell (Nat.le_refl _) _).setCell (Nat.le_refl _) _
              have HT3 := Lib.hid (show (((L.set (i * 3) (.int .i64 t)).set (i * 3 + 1) (.slice xq xs.length xc)).set (i * 3 + 2) (.int .i64 xn)).take ((i + 1) * 3) = flatC (stampR t (s4.take (i + 1))) by
                rw [take_set3c hLl hlt, hL.out, hnx, flatC_app]; rfl)
              have HQ := Lib.hid hq
              have HB6 := Lib.hid hB6
              clear hnx hq hB6 hLl hrA hbA
              go_wp2_with fail
              go_roundw
              case rel => exact ⟨i + 1, _, by go_num, by omega, HQ.out, HT3.out, HB6.out⟩
              case measure => simp [intOf]; omega
            · have hge : (s4.length : Int) ≤ (i : Int) := by omega
              have hie : i = s4.length := by omega
              have HF := Lib.hid (show wr.ownsRow w4.heap.size 46 3 (.slice (some ⟨w4.heap.size, 0, none⟩) s4.length s4.length) s4.length (flatC (stampR t s4)) by
                have h := hrow
                have e : L = flatC (stampR t s4) := by
                  have hLl : L.length = s4.length * 3 := hrow.1
                  have := hL.out
                  rw [hie, List.take_length, List.take_of_length_le (by omega)] at this
                  exact this
                rw [e] at h
                exact h)
              have HRW := Lib.hid (show ∀ c ∈ stampR t s4, RowOK wr c.2.1 ∧ (c.2.1.1 = none → c.2.1.2.2 = 0) from fun c hc => by
                obtain ⟨x, hx, rfl⟩ := List.mem_map.1 hc
                obtain ⟨k, hk, rfl⟩ := List.getElem_of_mem hx
                obtain ⟨b, off, _, hbl, hra⟩ := HI4.out (by omega)
                have := ((hra.belowV hB hbl) k hk).2.2
                rw [List.getElem?_eq_getElem hk] at this
                exact this)
              clear hie hrow
              go_wp2_with fail
              go_ret2
              have hlen : (stampR t s4).length = s4.length := by simp [stampR]
              exact ⟨some ⟨w4.heap.size, 0, none⟩, stampR t s4, s4.length, by rw [hlen] <;> rfl, by rw [stampR_vals, HV4.out], by rw [hlen]; exact Nat.le_refl _, by rw [hlen]; exact hl4, chg_of_own hlen.symm HF.out HRW.out, hB4.trans (hB.mono hB4.size)⟩
        · rw [if_neg her]
          have hne : (er != 0) = true := by rw [bne_iff_ne]; exact her
          clear her
          go_enter Tryz.func13, Tryz.ntmps13
          go_wp2_with fail
          refine H1.out.mono ?_
          rintro e w1 ⟨rfl, hb1⟩
          go_wp2_with fail
          refine (H2.out _ hb1).mono ?_
          rintro e w2 ⟨rfl, hb2⟩
          have hB2 : Below w.heap.size w w2 := hb1.trans (hb2.mono hb1.size)
          clear hb1 hb2
          go_wp2_with fail
          refine (HT.out _).mono ?_
          rintro e w3 ⟨rfl, rfl⟩
          go_wp2_with fail
          refine (HM.out _ hB2).mono ?_
          rintro e w4 ⟨p4, s4, c4, rfl, _, _, _, _, hb4⟩
          go_wp2_with fail
          go_ret2
          exact chgPost_nil (hB2.trans (hb4.mono hB2.size))

set_option maxRecDepth 100000 in
set_option maxHeartbeats 1000000 in
theorem SameC_any (p q : Option Addr) (cs ds : List ChR) (c d : Nat) (hv : cvals cs = cvals ds) (hm : cs.length ≤ 9223372036854775807) (w : World) (hX : ChgIn w p cs) (hZ : ChgIn w q ds) :
    Calls Tryz.prog 14 #[.slice p cs.length c, .slice q ds.length d] w fun e w' => e = .returned (.bool true) ∧ Below w.heap.size w w' := by
  have hl : ds.length = cs.length := by rw [← cvals_len, ← hv, cvals_len]
  have HX := Lib.hid hX
  have HZ := Lib.hid hZ
  have HV := Lib.hid hv
  have HSS := Lib.hid hl
  rw [hl]
  clear hX hZ hv hl
  go_enter Tryz.func14, Tryz.ntmps14
  go_wp2_with fail
  go_loopw [5] (fun s wr => ∃ i : Nat, i ≤ cs.length ∧ s = .int .i64 i ∧ Below w.heap.size w wr) (fun s _ => cs.length - (intOf s).toNat)
  case atStart => exact ⟨0, Nat.zero_le _, rfl, Below.refl _ _⟩
  case round =>
    obtain ⟨i, hi, rfl, hB⟩ := hrel
    by_cases hlt : i < cs.length
    · obtain ⟨b, off, rfl, hbl, hra⟩ := HX.out (by omega)
      obtain ⟨b2, off2, rfl, hbl2, hra2⟩ := HZ.out (by rw [HSS.out]; omega)
      obtain ⟨c0, c1, c3, c2, _⟩ := (hra.belowV hB hbl) i hlt
      obtain ⟨d0, d1, d3, d2, _⟩ := (hra2.belowV hB hbl2) i (by rw [HSS.out]; exact hlt)
      have he : chv (cs[i]?.getD cr0) = chv (ds[i]?.getD cr0) := by rw [← cvals_get, ← cvals_get, HV.out]
      have hi0 : (0 : Int) ≤ (i : Int) := by omega
      have hi1 : (i : Int) < (cs.length : Int) := by omega
      clear hra hra2
      generalize (cs[i]?.getD cr0) = x at *
      generalize (ds[i]?.getD cr0) = y at *
      obtain ⟨xt, ⟨xq, xs, xc⟩, xn⟩ := x
      obtain ⟨yt, ⟨yq, ys, yc⟩, yn⟩ := y
      simp only [chv, Prod.mk.injEq] at he
      obtain ⟨rfl, rfl, rfl⟩ := he
      dsimp only [rowv] at *
      have HC := Lib.hid fun W (h : Below wr.heap.size wr W) => Same_any xq yq xs xc yc xs.length rfl c2.1 W (c2.belowV h).2 (d2.belowV h).2
      clear c2 d2
      go_wp2_with fail
      go_still_tail 35, (by kernel_rfl)
      have hB2 : Below w.heap.size w wr.drew := hB.drew
      have hB3 : Below wr.heap.size wr wr.drew := (Below.refl _ _).drew
      clear c0 c1 d0 d1 c3 d3
      change wpList _ _ _ _ _ wr.drew
      generalize wr.drew = W7 at hB2 hB3 ⊢
      go_wp2_with fail
      refine (HC.out _ hB3).mono ?_
      rintro e w3 ⟨rfl, hb3⟩
      go_wp2_with fail
      go_roundw
      case rel => exact ⟨i + 1, by omega, by go_num, hB2.trans (hb3.mono hB2.size)⟩
      case measure => simp [intOf]; omega
    · have hge : cs.length ≤ i := by omega
      go_wp2_with fail
      go_ret
      exact ⟨rfl, hB⟩
end Go.Proofs.YtledgnolmiecfaaGreatDoor

/-!
  The example that every statement of this layer asks.
-/
namespace Go.Proofs.YtledgnolmiecfaaGreatDoor
open Go.RowKit

abbrev one : List Val := [(1, 1, ⟨#[]⟩)]
theorem one_valid : validRow one = true := by
  unfold validRow validVs validV validP
  simp [Lib.toList_data]
theorem bag1_valid {n : Int} (h : inN n) : validBag [(one, n)] = true := validBag_iff.2 ⟨by simp, fun x hx => by
  rw [List.mem_singleton] at hx
  subst hx
  exact itOK_iff.2 ⟨one_valid, h⟩, List.pairwise_singleton _ _⟩
theorem comb_one : comb (fun x y => x - y) [(one, 1)] [(one, 2)] = [(one, -1)] := by
  unfold comb mapped
  rw [pairsL, if_neg (by rw [cmpRow_ok.refl]; decide), if_neg (by rw [cmpRow_ok.refl]; decide), pairsL]
  simp [nz, become]
theorem wake_err : chgErr [(one, 2)] [(one, 1)] 0 = 0 := by
  have h1 : validBag [(one, 2)] = true := bag1_valid ⟨by decide, by decide, by decide⟩
  have h2 : validBag [(one, 1)] = true := bag1_valid ⟨by decide, by decide, by decide⟩
  have h3 : validBag [(one, -1)] = true := bag1_valid ⟨by decide, by decide, by decide⟩
  unfold chgErr combErr toldErr
  rw [if_pos ⟨h1, h2⟩, if_pos ⟨by decide, by decide⟩, if_pos ⟨h2, h1⟩, comb_one, if_pos h3]
theorem wake_val : chgVal [(one, 2)] [(one, 1)] 0 = [(0, one, -1)] := by
  have h1 : validBag [(one, 2)] = true := bag1_valid ⟨by decide, by decide, by decide⟩
  have h2 : validBag [(one, 1)] = true := bag1_valid ⟨by decide, by decide, by decide⟩
  have h3 : validBag [(one, -1)] = true := bag1_valid ⟨by decide, by decide, by decide⟩
  unfold chgVal
  rw [wake_err, if_pos rfl]
  unfold combVal toldVal
  rw [if_pos ⟨h2, h1⟩, comb_one, if_pos h3]
  rfl

theorem ok_one {W : World} {B : Nat} (h : Blk W B 40 #[.int .i64 1, .int .i64 1, .string ⟨#[]⟩]) : RowOK W ((some ⟨B, 0, none⟩, one, 1) : RowV) :=
  ⟨by simp, fun _ => ⟨B, 0, rfl, h.lt, fun i hi => by
    have hi0 : i = 0 := by simp at hi; omega
    subst hi0
    exact ⟨h.cell 0, h.cell 1, h.cell 2⟩⟩⟩
theorem items_one {W : World} {A B : Nat} {n : Int} (ha : Blk W A 40 #[.int .i64 1, .int .i64 1, .string ⟨#[]⟩]) (hb : Blk W B 38 #[.slice (some ⟨A, 0, none⟩) 1 1, .int .i64 n]) :
    ItemsIn W (some ⟨B, 0, none⟩) [((some ⟨A, 0, none⟩, one, 1), n)] := fun _ => ⟨B, 0, rfl, hb.lt, fun i hi => by
    have hi0 : i = 0 := by simp at hi; omega
    subst hi0
    exact ⟨hb.cell 0, hb.cell 1, ok_one ha, fun e => by cases e⟩⟩

set_option maxRecDepth 100000 in
set_option maxHeartbeats 1000000 in
theorem awake_any (w : World) : Calls Tryz.prog 5 #[] w fun e w' => e = .returned (.bool true) ∧ Below w.heap.size w w' := by
  obtain ⟨b3, k1, k2, k3, ks⟩ := three_new w #[.int .i64 1, .int .i64 1, .string ⟨#[]⟩] #[.slice (some ⟨w.heap.size, 0, none⟩) 1 1, .int .i64 2] #[.slice (some ⟨w.heap.size, 0, none⟩) 1 1, .int .i64 1] 40 38 38
  have hc := Changes_any (some ⟨w.heap.size + 1, 0, none⟩) (some ⟨w.heap.size + 1 + 1, 0, none⟩) [((some ⟨w.heap.size, 0, none⟩, one, 1), 2)] [((some ⟨w.heap.size, 0, none⟩, one, 1), 1)] 1 1 0 (by simp) (by simp) (by simp) (by simp) _ (items_one k1 k2) (items_one k1 k3)
  have e1 : vals [((some ⟨w.heap.size, 0, none⟩, one, 1), (2 : Int))] = [(one, 2)] := rfl
  have e2 : vals [((some ⟨w.heap.size, 0, none⟩, one, 1), (1 : Int))] = [(one, 1)] := rfl
  rw [e1, e2, wake_err, wake_val] at hc
  have HC := Lib.hid hc
  have HK := Lib.hid k1
  clear hc e1 e2 k1 k2 k3
  go_enter Tryz.func5, Tryz.ntmps5
  go_wp2_with fail
  refine HC.out.mono ?_
  rintro e w4 ⟨p4, c4, cap4, rfl, hv4, _, hl4, hi4, hb4⟩
  have hB4 : Below w.heap.size w w4 := b3.trans (hb4.mono (by omega))
  have hk4 := HK.out.belowV hb4 (by omega)
  have hbA : Below w4.heap.size w4 (w4.alloc (.cells #[.int .i64 0, .slice (some ⟨w.heap.size, 0, none⟩) 1 1, .int .i64 (-1)] 46)) := (Below.refl _ _).alloc (Nat.le_refl _) _
  have hs := SameC_any p4 (some ⟨w4.heap.size, 0, none⟩) c4 [(0, (some ⟨w.heap.size, 0, none⟩, one, 1), -1)] cap4 1 hv4 (by omega) _ (hi4.belowV hbA) (fun _ => ⟨w4.heap.size, 0, rfl, by simp, fun i hi => by
    have hi0 : i = 0 := by simp at hi; omega
    subst hi0
    have hkk := Blk.new w4 46 #[.int .i64 0, .slice (some ⟨w.heap.size, 0, none⟩) 1 1, .int .i64 (-1)]
    exact ⟨hkk.cell 0, hkk.cell 1, hkk.cell 2, ok_one (hk4.belowV hbA hk4.lt), fun e => by cases e⟩⟩)
  have HS := Lib.hid hs
  have HBA := Lib.hid (hB4.trans (hbA.mono hB4.size))
  have HZ := HBA.out.size
  clear hs hbA hb4 hB4 hk4 hv4 hi4 hl4
  go_wp2_with fail
  refine HS.out.mono ?_
  rintro e w5 ⟨rfl, hb5⟩
  go_wp2_with fail
  go_ret
  exact ⟨rfl, HBA.out.trans (hb5.mono HZ)⟩
end Go.Proofs.YtledgnolmiecfaaGreatDoor

