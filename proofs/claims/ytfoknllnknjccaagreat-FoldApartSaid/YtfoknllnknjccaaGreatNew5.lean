/-
  Bag of an accumulator: a copy in new memory, rows and all; Rows, Empty; package fold.
  A new accumulator, all its own; the number of its rows; package fold.
-/
import Derived.Test.YtfoknllnknjccaaGreatAddM
import Derived.Test.YtfoknllnknjccaaGreatMerge5
import Derived.Test.YtfoknllnknjccaaGreatTotal
namespace Go.Proofs.YtfoknllnknjccaaGreat
open Go.RowKit Go.Lib

def CloneI (w : World) (ss : List ItR) (e : Ending) (w' : World) : Prop := ∃ p c, e = .returned (.slice p ss.length c) ∧ w'.ownsRow w.heap.size 53 2 (.slice p ss.length c) ss.length (flatI ss) ∧ Below w.heap.size w w'
set_option maxRecDepth 100000 in
theorem cloneI_any (lo : Nat) (q : Option Addr) (ss : List ItR) (cap : Nat) (hm : ss.length ≤ 400) (w : World) (hO : w.ownsRow lo 53 2 (.slice q ss.length cap) ss.length (flatI ss)) :
    Calls Tryz.prog 52 #[.slice q ss.length cap] w (CloneI w ss) := by
  have q22 : ∀ (w : World) (a : Option Addr) (n c : Nat), (binOp .eql 47 (.slice a n c) (.slice none 0 0)).run Tryz.prog w = .ok (.bool a.isNone) w := fun w a n c => Lib.run_eql_slice_nil w _ _ a n c 0 0 Tryz.underlying47
  obtain ⟨i0, hii, hz0, hz1, hz2⟩ := info_parts infoI
  rcases hO.2 with ⟨h', e0⟩ | ⟨g, cap', cur, h', hb, hg, _⟩
  · simp only [Value.slice.injEq] at h'
    obtain ⟨rfl, _, rfl⟩ := h'
    have e1 : ss = [] := List.length_eq_zero_iff.1 e0
    subst e1
    clear hO
    go_enter Tryz.func52, Tryz.ntmps52
    go_wp2_with fail
    go_ret
    exact ⟨none, 0, rfl, World.ownsRow_nil _ _ _ _, Below.refl _ _⟩
  · simp only [Value.slice.injEq, true_and] at h'
    obtain ⟨rfl, rfl⟩ := h'
    have hbA : Below w.heap.size w (w.alloc (.cells #[] 53)) := (Below.refl _ _).alloc (Nat.le_refl _) _
    have HOW := Lib.hid (show (w.alloc (.cells #[] 53)).ownsRow w.heap.size 53 2 (.slice (some ⟨w.heap.size, 0, none⟩) 0 0) 0 [] from World.ownsRow_made w #[] 0 (Nat.le_refl _) (Nat.zero_le _) rfl)
    have HCELL := Lib.hid ((hO.alloc (.cells #[] 53)).cells (g := g) rfl)
    have HONE := Lib.hid (show ∀ u ∈ flatI ss, u.oneCell' = true from fun u hu => by
      simp only [flatI, List.mem_flatMap, cellsI, List.mem_cons, List.not_mem_nil, or_false] at hu
      obtain ⟨y, _, rfl | rfl⟩ := hu <;> rfl)
    clear hO hg
    go_enter Tryz.func52, Tryz.ntmps52
    go_wp2_with (at_builtin; refine wpList_append_own _ rfl _ _ 47 rfl w.heap.size 53 i0 (.agg #[.slice none 0 0, .int .i64 0]) 2 32 Tryz.underlying47 hii hz0 hz1 hz2 rfl (by decide) _ 0 [] rfl HOW.out ⟨g, 0, none⟩ ss.length cap (flatI ss) rfl (flatI_len ss) HCELL.out HONE.out (by unfold maxLen; omega) (by omega) (by simp) ?_; intro v' w5 hown' hb5 _; have HN := Lib.hid (And.intro hown' hb5); clear hown' hb5)
    go_ret
    obtain ⟨p2, c2, rfl⟩ := slice_of_owns HN.out.1
    have hown2 : w5.ownsRow w.heap.size 53 2 (.slice p2 ss.length c2) ss.length (flatI ss) := by simpa using HN.out.1
    exact ⟨p2, c2, by simp, hown2, hbA.grown HN.out.2 (by simp) (fun k e => (HOW.out.lt k e).1)⟩

/-- A bag in new memory, rows and all. -/
def BagC (w : World) (l : List It) (e : Ending) (w' : World) : Prop := ∃ v cc, e = .returned v ∧ OwnItems w' w.heap.size v cc ∧ vals cc = l ∧ Below w.heap.size w w'
set_option maxRecDepth 100000 in
set_option maxHeartbeats 2000000 in
theorem bagAcc_any (lo B : Nat) (v : Value) (gs : List Ag) (n : Int) (ts : List ItR) (w : World) (hA : AccO w lo B v gs n ts) :
    Calls Tryz.prog 19 #[.pointer (some ⟨B, 0, none⟩)] w (BagC w (vals ts)) := by
  obtain ⟨q0, cap0, rfl, hcap⟩ := hA.form
  obtain ⟨p, c, k1, _⟩ := hA.2.1
  have x2 := k1.cell 2
  simp only [List.getElem?_toArray, List.getElem?_cons_zero, List.getElem?_cons_succ] at x2
  have HCI := Lib.hid (cloneI_any lo q0 ts cap0 hA.2.2.2.2 w hA.2.2.1.1)
  have h4 := hA.2.2.2.2
  have HR := Lib.hid fun (i : Nat) (hi : i < ts.length) W (h : Below w.heap.size w W) => (show (ts[i]?.getD ir0).1.2.1.length ≤ 8 ∧ ValsIn W (ts[i]?.getD ir0).1.1 (ts[i]?.getD ir0).1.2.1 ∧ ((ts[i]?.getD ir0).1.1 = none → (ts[i]?.getD ir0).1.2.2 = 0) from by
    have hm : ts[i]?.getD ir0 ∈ ts := by rw [List.getElem?_eq_getElem hi]; exact List.getElem_mem hi
    have h8 := hA.2.2.2.1 _ hm
    have hr := rowOK_of_owns (hA.2.2.1.2 _ hm) (Nat.le_trans h8 (by decide))
    exact ⟨h8, (hr.1.belowV h).2, hr.2⟩)
  clear hA k1
  go_enter Tryz.func19, Tryz.ntmps19
  go_wp2_with fail
  refine HCI.out.mono ?_
  rintro e w1 ⟨p1, c1, rfl, ho1, hb1⟩
  go_wp2_with fail
  go_loopw [4, 14] (fun _ s wr => ∃ (i : Nat) (cc : List ItR), s = .int .i64 i ∧ i ≤ ts.length ∧ cc.length = ts.length ∧ Hid (vals cc = vals ts) ∧ wr.ownsRow w.heap.size 53 2 (.slice p1 ts.length c1) ts.length (flatI cc) ∧ (∀ j, j < ts.length → (j < i → OwnsV wr w.heap.size (rowv (cc[j]?.getD ir0).1) (cc[j]?.getD ir0).1.2.1) ∧ (i ≤ j → cc[j]?.getD ir0 = ts[j]?.getD ir0)) ∧ Below w.heap.size w wr) (fun _ s _ => ts.length - (RowKit.intOf s).toNat)
  case atStart => exact ⟨0, ts, rfl, Nat.zero_le _, rfl, rfl, ho1, fun j _ => ⟨fun h => by omega, fun _ => rfl⟩, hb1⟩
  case round =>
    clear ho1 hb1
    obtain ⟨i, cc, rfl, hi, hsl, hvs, hrow, hx, hBw⟩ := hrel
    have HX := Lib.hid hx
    have HROW := Lib.hid hrow
    have HSL := Lib.hid hsl
    clear hx hsl
    by_cases hlt : i < ts.length
    · obtain ⟨g, cap', he, hBg, hgl, _⟩ := own_addr (by omega) hrow
      simp only [Value.slice.injEq, true_and] at he
      obtain ⟨rfl, rfl⟩ := he
      have hil : i < cc.length := by rw [HSL.out]; exact hlt
      obtain ⟨c0, _⟩ := own_items HSL.out.symm hrow i hil
      have hi0 : (0 : Int) ≤ (i : Int) := by omega
      have hi1 : (i : Int) < (ts.length : Int) := by omega
      have hxr := HR.out i hlt wr hBw
      rw [← (HX.out i hlt).2 (Nat.le_refl _)] at hxr
      have HSET := Lib.hid (fun (r : RowV) (h : r.2.1 = (cc[i]?.getD ir0).1.2.1) => And.intro (vals_set (i := i) h) (flatI_set cc i r))
      have HGET := Lib.hid fun (x : ItR) (j : Nat) => (show (cc.set i x)[j]?.getD ir0 = if i = j then x else cc[j]?.getD ir0 from by
        rw [List.getElem?_set]
        by_cases e : i = j
        · rw [if_pos e, if_pos e, if_pos (by omega)]; rfl
        · rw [if_neg e, if_neg e])
      have f0 := hrow.frozenAt (i * 2)
      clear hrow
      generalize (cc[i]?.getD ir0) = r at c0 hxr HSET
      obtain ⟨⟨q, xs, qc⟩, m⟩ := r
      dsimp only [rowv] at c0 hxr HSET
      have HC := Lib.hid (cloneO_any q xs qc (by omega) wr hxr.2.1 hxr.2.2)
      have hBs := hBw.size
      clear hxr
      go_wp2_with fail
      refine HC.out.mono ?_
      rintro e w3 ⟨⟨rq, rx, rc⟩, rfl, hr1, hr2, hb3⟩
      dsimp only [rowv] at *
      have c3 := (hb3.cell (p := ⟨g, i * 2, none⟩) hgl).trans c0
      have f3 := (owns_below HROW.out hb3).frozenAt (i * 2)
      have HST := Lib.hid ((owns_below HROW.out hb3).stored (i * 2) (.slice rq rx.length rc))
      have HBE := Lib.hid (show Below w.heap.size w (w3.setCell ⟨g, i * 2, none⟩ (.slice rq rx.length rc)) from (hBw.trans (hb3.mono hBs)).setCell hBg _)
      have HXX := Lib.hid (show ∀ j, j < ts.length → (j < i + 1 → OwnsV (w3.setCell ⟨g, i * 2, none⟩ (.slice rq rx.length rc)) w.heap.size (rowv ((cc.set i ((rq, rx, rc), m))[j]?.getD ir0).1) ((cc.set i ((rq, rx, rc), m))[j]?.getD ir0).1.2.1) ∧ (i + 1 ≤ j → (cc.set i ((rq, rx, rc), m))[j]?.getD ir0 = ts[j]?.getD ir0) from fun j hj => by
        rw [HGET.out]
        have hkeep : ∀ {u : Value} {ys : List Val}, OwnsV w3 w.heap.size u ys → OwnsV (w3.setCell ⟨g, i * 2, none⟩ (.slice rq rx.length rc)) w.heap.size u ys := fun h => h.kept HST.out.2 (own_apart (owns_below HROW.out hb3) h)
        by_cases e : i = j
        · rw [if_pos e]
          refine ⟨fun _ => hkeep ?_, fun h => by omega⟩
          have h7 := ownsRow_base hr2 hBs
          rwa [← hr1] at h7
        · rw [if_neg e]
          exact ⟨fun h => hkeep (owns_below ((HX.out j hj).1 (by omega)) hb3), fun h => (HX.out j hj).2 (by omega)⟩)
      have HR1 := Lib.hid hr1
      clear hb3 hr1 hr2 c0 f0 hBw
      go_wp2_with fail
      go_roundw
      case rel => exact ⟨i + 1, cc.set i ((rq, rx, rc), m), by go_num, by omega, by rw [List.length_set]; exact HSL.out, (by show _ = _; rw [(HSET.out (rq, rx, rc) HR1.out).1]; exact hvs.out), by rw [(HSET.out (rq, rx, rc) HR1.out).2]; exact HST.out.1, HXX.out, HBE.out⟩
      case measure => simp [RowKit.intOf]; omega
    · have hge : (ts.length : Int) ≤ (i : Int) := by omega
      have HI := Lib.hid (show OwnItems wr w.heap.size (.slice p1 ts.length c1) cc from ⟨by rw [HSL.out]; exact HROW.out, fun r hr => by
        obtain ⟨j, hj, rfl⟩ := List.mem_iff_getElem.1 hr
        have := (HX.out j (by rw [← HSL.out]; exact hj)).1 (by have := HSL.out; omega)
        rwa [List.getElem?_eq_getElem hj] at this⟩)
      have HB := Lib.hid hBw
      clear hBw
      go_wp2_with fail
      go_ret
      exact ⟨_, cc, rfl, HI.out, hvs.out, HB.out⟩

theorem emptyAcc_any (lo B : Nat) (v : Value) (gs : List Ag) (n : Int) (ss : List ItR) (w : World) (hA : AccO w lo B v gs n ss) :
    Calls Tryz.prog 23 #[.pointer (some ⟨B, 0, none⟩)] w fun e w' => e = .returned (.bool (decide (ss.length = 0))) ∧ w = w' := by
  obtain ⟨q0, cap0, rfl, hcap⟩ := hA.form
  obtain ⟨p, c, k1, _⟩ := hA.2.1
  have x2 := k1.cell 2
  simp only [List.getElem?_toArray, List.getElem?_cons_zero, List.getElem?_cons_succ] at x2
  have hd : decide (ss.length = 0) = ((ss.length : Int) == 0) := by
    cases h : ss.length with
    | zero => rfl
    | succ k => rfl
  rw [hd]
  clear hA k1 hd
  go_enter Tryz.func23, Tryz.ntmps23
  go_wp2_with fail
  go_ret
  exact ⟨rfl, rfl⟩
end Go.Proofs.YtfoknllnknjccaaGreat

namespace Go.Proofs.YtfoknllnknjccaaGreat
open Go.RowKit

def CopyO (w : World) (gs : List Ag) (e : Ending) (w' : World) : Prop := ∃ p c, e = .returned (.slice p gs.length c) ∧ w'.ownsRow w.heap.size 59 2 (.slice p gs.length c) gs.length (flatG gs) ∧ Below w.heap.size w w'
set_option maxRecDepth 100000 in
theorem cloneGO_any (p : Option Addr) (gs : List Ag) (cap : Nat) (hm : gs.length ≤ 1000) (hp : 0 < gs.length) (w : World) (hX : AggsIn w p gs) :
    Calls Tryz.prog 29 #[.slice p gs.length cap] w (CopyO w gs) := by
  obtain ⟨b, off, rfl, hbl, hra⟩ := hX hp
  have q22 : ∀ (w : World) (a : Option Addr) (n c : Nat), (binOp .eql 22 (.slice a n c) (.slice none 0 0)).run Tryz.prog w = .ok (.bool a.isNone) w := fun w a n c => Lib.run_eql_slice_nil w _ _ a n c 0 0 Tryz.underlying22
  obtain ⟨i0, hi, hz0, hz1, hz2⟩ := info_parts infoG
  have hbA : Below w.heap.size w (w.alloc (.cells #[] 59)) := (Below.refl _ _).alloc (Nat.le_refl _) _
  have hown : (w.alloc (.cells #[] 59)).ownsRow w.heap.size 59 2 (.slice (some ⟨w.heap.size, 0, none⟩) 0 0) 0 [] := World.ownsRow_made w #[] 0 (Nat.le_refl _) (Nat.zero_le _) rfl
  have HOW := Lib.hid hown
  have hcell : ∀ (j : Nat) (u : Value), (flatG gs)[j]? = some u → (w.alloc (.cells #[] 59)).cell? ((⟨b, off, none⟩ : Addr).add j) = some u := by
    intro j u hu
    have hj : j < gs.length * 2 := by rw [← flatG_len]; exact (List.getElem?_eq_some_iff.1 hu).1
    rw [Go.WideShapes.add_plain]
    obtain ⟨g0, g1⟩ := flatG_get gs (j / 2) (by omega)
    obtain ⟨c0, c1⟩ := (hra.belowV hbA hbl) (j / 2) (by omega)
    have h3 : j % 2 = 0 ∨ j % 2 = 1 := by omega
    rcases h3 with h3 | h3
    · have e : j / 2 * 2 = j := by omega
      rw [e] at g0 c0
      rw [c0, ← hu, g0]
    · have e : j / 2 * 2 + 1 = j := by omega
      rw [Nat.add_assoc, e] at c1
      rw [e] at g1
      rw [c1, ← hu, g1]
  have hone : ∀ u ∈ flatG gs, u.oneCell' = true := by
    intro u hu
    simp only [flatG, List.mem_flatMap, cellsG, List.mem_cons, List.not_mem_nil, or_false] at hu
    obtain ⟨y, _, rfl | rfl⟩ := hu <;> rfl
  have HCELL := Lib.hid hcell
  have HONE := Lib.hid hone
  clear hX hra hown hcell hone
  go_enter Tryz.func29, Tryz.ntmps29
  go_wp2_with (at_builtin; refine wpList_append_own _ rfl _ _ 22 rfl w.heap.size 59 i0 (.agg #[.int .i64 0, .int .i64 0]) 2 16 Tryz.underlying22 hi hz0 hz1 hz2 rfl (by decide) _ 0 [] rfl HOW.out ⟨b, off, none⟩ gs.length cap (flatG gs) rfl (flatG_len gs) HCELL.out HONE.out (by unfold maxLen; omega) (by omega) (by simp) ?_; intro v' w5 hown' hb5 _)
  go_ret
  obtain ⟨p2, c2, rfl⟩ := slice_of_owns hown'
  have hown2 : w5.ownsRow w.heap.size 59 2 (.slice p2 gs.length c2) gs.length (flatG gs) := by simpa using hown'
  refine ⟨p2, c2, by simp, hown2, ?_⟩
  exact hbA.grown hb5 (by simp) (fun k e => (HOW.out.lt k e).1)

theorem AccO.base {W : World} {lo lo2 B : Nat} {v : Value} {gs : List Ag} {n : Int} {ss : List ItR} (h : AccO W lo B v gs n ss) (hl : lo2 ≤ lo) : AccO W lo2 B v gs n ss := by
  obtain ⟨h0, ⟨p, c, hK, hG⟩, hI, h8⟩ := h
  exact ⟨Nat.le_trans hl h0, ⟨p, c, hK, ownsRow_base hG hl⟩, ⟨ownsRow_base hI.1 hl, fun r hr => ownsRow_base (hI.2 r hr) hl⟩, h8⟩
def NewO (w : World) (gs : List Ag) (n : Int) (e : Ending) (w' : World) : Prop := ∃ B, e = .returned (.tuple #[.pointer (some ⟨B, 0, none⟩), .int .i64 0]) ∧ w.heap.size ≤ B ∧ AccO w' w.heap.size B (.slice none 0 0) gs n [] ∧ Below w.heap.size w w'
set_option maxRecDepth 100000 in
theorem newO_ok (p : Option Addr) (gs : List Ag) (c : Nat) (n : Int) (hm : gs.length ≤ 9223372036854775807) (w : World) (hX : AggsIn w p gs) (hv : validL n gs = true) (hn0 : 0 ≤ n) (hn8 : n ≤ 8) :
    Calls Tryz.prog 7 #[.slice p gs.length c, .int .i64 n] w (NewO w gs n) := by
  have h1 := foldValid_any p gs c n hm w hX
  rw [hv] at h1
  have hl : 1 ≤ gs.length ∧ gs.length ≤ 8 := by
    unfold validL at hv
    rw [Bool.and_eq_true, decide_eq_true_eq] at hv
    exact hv.1
  have HC := Lib.hid fun W (h : Below w.heap.size w W) => cloneGO_any p gs c (by omega) (by omega) W (hX.belowV h)
  have HV := Lib.hid h1
  clear h1 hX hv
  go_enter Tryz.func7, Tryz.ntmps7
  go_wp2_with fail
  refine HV.out.mono ?_
  rintro e w1 ⟨rfl, hb1⟩
  go_wp2_with fail
  refine (HC.out _ hb1).mono ?_
  rintro e w2 ⟨p2, c2, rfl, hA2, hb2⟩
  have hB2 : Below w.heap.size w w2 := hb1.trans (hb2.mono hb1.size)
  have HE := Lib.hid (show AccO (w2.alloc (.cells #[.slice p2 gs.length c2, .int .i64 n, .slice none 0 0] 66)) w.heap.size w2.heap.size (.slice none 0 0) gs n [] ∧ Below w.heap.size w (w2.alloc (.cells #[.slice p2 gs.length c2, .int .i64 n, .slice none 0 0] 66)) from
    ⟨⟨hB2.size, ⟨p2, c2, Blk.new w2 _ _, ownsRow_base (hA2.alloc _) hb1.size⟩, OwnItems.nil _ _, ⟨(fun r hr => by cases hr), Nat.zero_le _⟩⟩, hB2.alloc hB2.size _⟩)
  have HZ := Lib.hid hB2.size
  clear hA2 hb2 hB2 hb1
  go_wp2_with fail
  go_ret2
  exact ⟨_, rfl, HZ.out, HE.out.1, HE.out.2⟩
theorem rowsAcc_any (lo B : Nat) (v : Value) (gs : List Ag) (n : Int) (ss : List ItR) (w : World) (hA : AccO w lo B v gs n ss) :
    Calls Tryz.prog 21 #[.pointer (some ⟨B, 0, none⟩)] w (BelowInt w (totalV (vals ss))) := by
  obtain ⟨q0, cap0, rfl, hcap⟩ := hA.form
  obtain ⟨p, c, k1, _⟩ := hA.2.1
  have x2 := k1.cell 2
  simp only [List.getElem?_toArray, List.getElem?_cons_zero, List.getElem?_cons_succ] at x2
  have hl := hA.2.2.2.2
  have HT := Lib.hid (bagTotal_any q0 ss cap0 (by omega) hcap w hA.items)
  clear hA k1
  go_enter Tryz.func21, Tryz.ntmps21
  go_wp2_with fail
  refine HT.out.mono ?_
  rintro e w1 ⟨rfl, hb⟩
  go_wp2_with fail
  go_ret
  exact ⟨rfl, hb⟩
end Go.Proofs.YtfoknllnknjccaaGreat
