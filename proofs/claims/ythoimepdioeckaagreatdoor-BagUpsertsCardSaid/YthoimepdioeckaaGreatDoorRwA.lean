/-
  Of and Rows, of package bag and of the document, as contracts.
-/
import Derived.Test.YthoimepdioeckaaGreatDoorRefApply
import Derived.Test.YthoimepdioeckaaGreatDoorLong
import Derived.Test.YthoimepdioeckaaGreatDoorTotal
import Derived.Test.YthoimepdioeckaaGreatDoorWhole
/-!
  Of: the bag of rows, of package bag and of the document, as contracts.
-/
namespace Go.Proofs.YthoimepdioeckaaGreatDoor
open Go.RowKit

/-! ### Plain facts -/
abbrev RLv := List (List Val)
def badR (r : List Val) : Bool := !validRow r
def ones (l : RLv) : List It := l.map fun r => (r, 1)
def ofErr (l : RLv) : Int := if l.length ≤ 400 ∧ l.any badR = false then 0 else 1
def ofVal (l : RLv) : List It := if l.length ≤ 400 ∧ l.any badR = false then after [] (ones l) else []
theorem put_len (l : List It) (r : List Val) (n : Int) : (put l r n).length ≤ l.length + 1 := by
  induction l with
  | nil => rw [put]; split <;> simp
  | cons x l ih =>
    rw [put]
    split
    · split <;> simp
    · split
      · split
        · simp; omega
        · simp
      · simp; omega
theorem after_len (a l : List It) : (after a l).length ≤ a.length + l.length := by
  induction l generalizing a with
  | nil => simp [after]
  | cons x l ih =>
    have h1 := ih (put a x.1 x.2)
    have h2 := put_len a x.1 x.2
    show (after (put a x.1 x.2) l).length ≤ _
    simp only [List.length_cons]; omega
theorem allR {l : RLv} (h : l.any badR = false) : ∀ r ∈ l, validRow r = true := fun r hr => by
  have := List.any_eq_false.1 h r hr
  unfold badR at this
  simpa using this
theorem ones_valid {l : RLv} (h : l.any badR = false) : ∀ x ∈ ones l, validRow x.1 = true := fun x hx => by
  obtain ⟨r, hr, rfl⟩ := List.mem_map.1 hx
  exact allR h r hr
theorem sumC_ones (l : RLv) (q : List Val) : 0 ≤ sumC (ones l) q ∧ sumC (ones l) q ≤ l.length := by
  induction l with
  | nil => simp [ones, sumC]
  | cons r l ih =>
    have : sumC (ones (r :: l)) q = (if cmpRow r q = 0 then 1 else 0) + sumC (ones l) q := sumC_cons (r, 1) (ones l) q
    rw [this]
    simp only [List.length_cons]
    split <;> omega
theorem cnt_self {l : List It} (h : Up l) {x : It} (hx : x ∈ l) : cnt l x.1 = x.2 := by
  induction l with
  | nil => cases hx
  | cons y l ih =>
    rw [cnt]
    rcases List.mem_cons.1 hx with rfl | hx
    · rw [if_pos (cmpRow_ok.refl _)]
    · rw [if_neg (by have := up_head h hx; omega), ih (up_tail h) hx]
theorem ofBag_valid {l : RLv} (hl : l.length ≤ 400) (h : l.any badR = false) : validBag (after [] (ones l)) = true := by
  have ha := after_asc nil_asc (ones_valid h)
  refine validBag_iff.2 ⟨?_, fun x hx => itOK_iff.2 ⟨(ha.1 x hx).1, (ha.1 x hx).2, ?_, ?_⟩, ha.2⟩
  · have := after_len [] (ones l)
    simp only [List.length_nil, ones, List.length_map] at this
    unfold ones
    omega
  · have h1 := cnt_self ha.2 hx
    rw [after_cnt nil_asc.2] at h1
    have := sumC_ones l x.1
    simp only [cnt] at h1
    omega
  · have h1 := cnt_self ha.2 hx
    rw [after_cnt nil_asc.2] at h1
    have := sumC_ones l x.1
    simp only [cnt] at h1
    omega
theorem ofYes {l : RLv} (h : l.length ≤ 400 ∧ l.any badR = false) : toldErr (after [] (ones l)) = ofErr l ∧ toldVal (after [] (ones l)) = ofVal l := by
  unfold toldErr toldVal ofErr ofVal
  rw [if_pos h, if_pos h, if_pos (ofBag_valid h.1 h.2), if_pos (ofBag_valid h.1 h.2)]
  exact ⟨rfl, rfl⟩
theorem ofNo {l : RLv} (h : ¬ (l.length ≤ 400 ∧ l.any badR = false)) : ofErr l = 1 ∧ ofVal l = [] := by
  unfold ofErr ofVal; rw [if_neg h, if_neg h]; exact ⟨rfl, rfl⟩

/-! ### Lists of rows -/
def rvals (ls : List RowV) : RLv := ls.map (·.2.1)
theorem rvals_len (ls : List RowV) : (rvals ls).length = ls.length := by simp [rvals]
theorem rvals_get (ls : List RowV) (i : Nat) : (rvals ls)[i]?.getD [] = (ls[i]?.getD r0).2.1 := by
  unfold rvals; rw [List.getElem?_map]; cases ls[i]? <;> rfl
theorem badR_at {l : RLv} {i : Nat} (hi : i < l.length) (h : badR (l[i]?.getD []) = true) : l.any badR = true := by
  rw [List.any_eq_true]
  rw [List.getElem?_eq_getElem hi] at h
  exact ⟨l[i], List.getElem_mem hi, h⟩
theorem badR_none {l : RLv} (h : ∀ k, k < l.length → badR (l[k]?.getD []) = false) : l.any badR = false := by
  rw [List.any_eq_false]
  intro x hx
  obtain ⟨k, hk, rfl⟩ := List.mem_iff_getElem.1 hx
  have := h k hk
  rw [List.getElem?_eq_getElem hk] at this
  simpa using this

theorem notRow_any (r : RowV) (w : World) (b : Bool) (hb : badR r.2.1 = b) (hR : RowOK w r) : Calls Tryz.prog 54 #[rowv r] w (BelowB w b) := by
  have hv := rowValid_any r.1 r.2.1 r.2.2 w hR.2
  have e : validRow r.2.1 = !b := by rw [← hb]; unfold badR; simp
  rw [e] at hv
  have HV := Lib.hid hv
  clear hv e hR hb
  obtain ⟨q, xs, qc⟩ := r
  dsimp only [rowv] at *
  go_enter Tryz.func54, Tryz.ntmps54
  go_wp2_with fail
  refine HV.out.mono ?_
  rintro e w1 ⟨rfl, hb1⟩
  cases b with
  | true =>
    go_wp2_with fail
    go_ret
    exact ⟨rfl, hb1⟩
  | false =>
    go_wp2_with fail
    go_ret
    exact ⟨rfl, hb1⟩

set_option maxRecDepth 100000 in
set_option maxHeartbeats 1000000 in
theorem indexR_any (p : Option Addr) (ls : List RowV) (c : Nat) (hm : ls.length ≤ 9223372036854775807) (w : World) (hX : RowsIn w p ls) :
    Calls Tryz.prog 108 #[.slice p ls.length c, .func (.func 54) #[] #[]] w (NegPost w ((rvals ls).any badR)) := by
  have HX := Lib.hid hX
  clear hX
  go_enter Tryz.func108, Tryz.ntmps108
  go_wp2_with fail
  go_loopw [8] (fun s wr => ∃ i : Nat, i ≤ ls.length ∧ s = .int .i64 i ∧ Hid (∀ k, k < i → badR (ls[k]?.getD r0).2.1 = false) ∧ Below w.heap.size w wr) (fun s _ => ls.length - (intOf s).toNat)
  case atStart => exact ⟨0, Nat.zero_le _, rfl, (fun k hk => by omega), Below.refl _ _⟩
  case round =>
    obtain ⟨i, hi, rfl, hE, hB⟩ := hrel
    by_cases hlt : i < ls.length
    · obtain ⟨b, off, rfl, hbl, hra⟩ := HX.out (by omega)
      obtain ⟨c0, c3⟩ := (hra.belowV (hB) hbl) i hlt
      have hi0 : (0 : Int) ≤ (i : Int) := by omega
      have hi1 : (i : Int) < (ls.length : Int) := by omega
      clear hra
      cases hn : badR (ls[i]?.getD r0).2.1 with
      | false =>
        have HE := Lib.hid (show ∀ k, k < i + 1 → badR (ls[k]?.getD r0).2.1 = false from fun k hk => by
          by_cases hki : k = i
          · rw [hki]; exact hn
          · exact hE.out k (by omega))
        have HC := Lib.hid (notRow_any _ wr false hn c3)
        clear hE hn c3
        generalize (ls[i]?.getD r0) = x at c0 HC
        obtain ⟨xq, xs, xc⟩ := x
        dsimp only [rowv] at *
        go_wp2_with fail
        refine HC.out.mono ?_
        rintro e w1 ⟨rfl, hb1⟩
        have hB4 := hB.trans (hb1.mono hB.size)
        go_wp2_with fail
        go_roundw
        case rel => exact ⟨i + 1, by omega, by go_num, HE.out, hB4⟩
        case measure => simp [intOf]; omega
      | true =>
        have HE := Lib.hid (show (rvals ls).any badR = true from badR_at (by rw [rvals_len]; exact hlt) (by rw [rvals_get]; exact hn))
        have HC := Lib.hid (notRow_any _ wr true hn c3)
        clear hE hn c3
        generalize (ls[i]?.getD r0) = x at c0 HC
        obtain ⟨xq, xs, xc⟩ := x
        dsimp only [rowv] at *
        go_wp2_with fail
        refine HC.out.mono ?_
        rintro e w1 ⟨rfl, hb1⟩
        have hB4 := hB.trans (hb1.mono hB.size)
        go_wp2_with fail
        go_ret
        exact ⟨_, rfl, by rw [HE.out]; exact decide_eq_true hi0, hB4⟩
    · have hge : ls.length ≤ i := by omega
      have HE := Lib.hid (show (rvals ls).any badR = false from badR_none fun k hk => by rw [rvals_get]; exact hE.out k (by rw [rvals_len] at hk; omega))
      go_wp2_with fail
      go_ret
      exact ⟨_, rfl, by rw [HE.out]; decide, hB⟩

theorem containsR_any (p : Option Addr) (ls : List RowV) (c : Nat) (hm : ls.length ≤ 9223372036854775807) (w : World) (hX : RowsIn w p ls) :
    Calls Tryz.prog 56 #[.slice p ls.length c, .func (.func 54) #[] #[]] w (BelowB w ((rvals ls).any badR)) := by
  have H := Lib.hid (indexR_any p ls c hm w hX)
  clear hX
  generalize (rvals ls).any badR = b at H ⊢
  go_enter Tryz.func56, Tryz.ntmps56
  go_wp2_with fail
  refine H.out.mono ?_
  rintro e w1 ⟨k, rfl, hk, hb⟩
  have HK := Lib.hid hk
  clear hk
  go_wp2_with fail
  go_ret
  exact ⟨by rw [← HK.out] <;> rfl, hb⟩

def oneR (ls : List RowV) : List ItR := ls.map fun r => (r, 1)
theorem oneR_vals (ls : List RowV) : vals (oneR ls) = ones (rvals ls) := by unfold vals oneR ones rvals; rw [List.map_map, List.map_map]; rfl
theorem oneR_next {ls : List RowV} {i : Nat} (h : i < ls.length) : oneR (ls.take (i + 1)) = oneR (ls.take i) ++ [(ls[i]?.getD r0, 1)] := by
  rw [List.take_succ_eq_append_getElem h, List.getElem?_eq_getElem h]; unfold oneR; rw [List.map_append]; rfl
theorem rowB_of_rows {w : World} {p : Option Addr} {ls : List RowV} (h : RowsIn w p ls) (hz : ∀ r ∈ ls, r.1 = none → r.2.2 = 0) : ∀ r ∈ ls, RowB w.heap.size w r := fun r hr => by
  obtain ⟨i, hi, rfl⟩ := List.getElem_of_mem hr
  obtain ⟨b, off, _, _, hra⟩ := h (by omega)
  have := (hra i hi).2
  rw [List.getElem?_eq_getElem hi] at this
  exact RowB.of_ok this (hz _ hr)

set_option maxRecDepth 100000 in
set_option maxHeartbeats 2000000 in
theorem bagOf_any (p : Option Addr) (ls : List RowV) (c : Nat) (hm : ls.length ≤ 9223372036854775807) (w : World) (hX : RowsIn w p ls) (hzs : ∀ r ∈ ls, r.1 = none → r.2.2 = 0) (hT : Tab w.heap.size w) :
    Calls Tryz.prog 20 #[.slice p ls.length c] w (BagPost w.heap.size w (ofVal (rvals ls)) (ofErr (rvals ls))) := by
  have hcn := containsR_any p ls c hm w hX
  by_cases hl : ls.length ≤ 400
  · have hl' : (ls.length : Int) ≤ 400 := by omega
    cases hq : (rvals ls).any badR with
    | true =>
      obtain ⟨e1, e2⟩ := ofNo (l := rvals ls) (fun h => by rw [hq] at h; exact absurd h.2 (by decide))
      rw [e1, e2]
      rw [hq] at hcn
      have HC := Lib.hid hcn
      clear hcn hq e1 e2 hX hzs hT hl
      go_enter Tryz.func20, Tryz.ntmps20
      go_wp2_with fail
      refine HC.out.mono ?_
      rintro e w1 ⟨rfl, hb1⟩
      go_wp2_with fail
      go_ret2
      exact bagPost_nil hb1
    | false =>
      obtain ⟨e1, e2⟩ := ofYes (l := rvals ls) ⟨by rw [rvals_len]; exact hl, hq⟩
      rw [← e1, ← e2, ← oneR_vals]
      rw [hq] at hcn
      have hval := allR hq
      have HC := Lib.hid hcn
      have HV := Lib.hid (show ∀ r ∈ oneR ls, validRow r.1.2.1 = true ∧ -1000000 ≤ r.2 ∧ r.2 ≤ 1000000 from fun r hr => by
        obtain ⟨x, hx, rfl⟩ := List.mem_map.1 hr
        exact ⟨hval _ (List.mem_map_of_mem hx), by show (-1000000 : Int) ≤ 1; decide, by show (1 : Int) ≤ 1000000; decide⟩)
      have HR := Lib.hid (show ∀ r ∈ oneR ls, RowB w.heap.size w r.1 from fun r hr => by
        obtain ⟨x, hx, rfl⟩ := List.mem_map.1 hr
        exact rowB_of_rows hX hzs x hx)
      have HX := Lib.hid hX
      have HT := Lib.hid hT
      obtain ⟨i0, hi, hz0, hz1, hz2⟩ := info_parts infoI
      clear hcn hq e1 e2 hX hzs hT hval
      go_enter Tryz.func20, Tryz.ntmps20
      go_wp2_with fail
      refine HC.out.mono ?_
      rintro e w4 ⟨rfl, hB4⟩
      go_wp2_with (at_make; refine wpList_make_full _ rfl _ _ 22 rfl w4.heap.size 60 i0 (.agg #[.slice none 0 0, .int .i64 0]) 2 Tryz.underlying22 hi hz0 hz1 .i64 .i64 _ _ ls.length rfl rfl rfl rfl (by rw [hz2]; omega) (by unfold maxLen; omega) (Nat.le_refl _) ?_; intro w5 hrow5 hg5)
      have hB5 : Below w4.heap.size w4 w5 := (Below.refl _ _).grown hg5 (Nat.le_refl _) (fun k e => by cases e)
      go_loopw [21] (fun s wr => ∃ (i : Nat) (L : List Value), s = .int .i64 i ∧ i ≤ ls.length ∧ wr.ownsRow w4.heap.size 60 2 (.slice (some ⟨w4.heap.size, 0, none⟩) ls.length ls.length) ls.length L ∧ Hid (L.take (i * 2) = flatI (oneR (ls.take i))) ∧ Below w4.heap.size w4 wr) (fun s _ => ls.length - (intOf s).toNat)
      case atStart => exact ⟨0, _, rfl, Nat.zero_le _, hrow5, by simp [Hid, oneR, flatI], hB5⟩
      case round =>
        clear hrow5 hg5 hB5
        obtain ⟨i, L, rfl, hin, hrow, hL, hB⟩ := hrel
        have hBs := hB.size
        by_cases hlt : i < ls.length
        · obtain ⟨b, off, rfl, hbl, hra⟩ := HX.out (by omega)
          obtain ⟨d0, _⟩ := (hra.belowV (hB4.trans (hB.mono hB4.size)) hbl) i hlt
          have hnx := oneR_next hlt
          have hi0 : (0 : Int) ≤ (i : Int) := by omega
          have hi1 : (i : Int) < (ls.length : Int) := by omega
          clear hra
          generalize ls[i]?.getD r0 = x at d0 hnx
          obtain ⟨xq, xs, xc⟩ := x
          dsimp only [rowv] at d0
          have hLl : L.length = ls.length * 2 := hrow.1
          obtain ⟨u0, e0⟩ : ∃ u, wr.cell? ⟨w4.heap.size, i * 2, none⟩ = some u := ⟨_, (hrow.cellAt (i * 2) (by omega)).trans (List.getElem?_eq_getElem (by omega))⟩
          obtain ⟨u1, e1⟩ : ∃ u, wr.cell? ⟨w4.heap.size, i * 2 + 1, none⟩ = some u := ⟨_, (hrow.cellAt (i * 2 + 1) (by omega)).trans (List.getElem?_eq_getElem (by omega))⟩
          have f0 := hrow.frozenAt (i * 2)
          have f1 := hrow.frozenAt (i * 2 + 1)
          have hq := ((hrow.stored (i * 2) (.slice xq xs.length xc)).1.stored (i * 2 + 1) (.int .i64 1)).1
          have hB6 : Below w4.heap.size w4 ((wr.setCell ⟨w4.heap.size, i * 2, none⟩ (.slice xq xs.length xc)).setCell ⟨w4.heap.size, i * 2 + 1, none⟩ (.int .i64 1)) := (hB.setCell (Nat.le_refl _) _).setCell (Nat.le_refl _) _
          have HT3 := Lib.hid (show ((L.set (i * 2) (.slice xq xs.length xc)).set (i * 2 + 1) (.int .i64 1)).take ((i + 1) * 2) = flatI (oneR (ls.take (i + 1))) by
            rw [take_set2 hLl hlt, hL.out, hnx, flatI_app]; rfl)
          have HQ := Lib.hid hq
          have HB6 := Lib.hid hB6
          clear hnx hq hB6 hLl hrow
          go_wp2_with fail
          go_roundw
          case rel => exact ⟨i + 1, _, by go_num, by omega, HQ.out, HT3.out, HB6.out⟩
          case measure => simp [intOf]; omega
        · have hge : (ls.length : Int) ≤ (i : Int) := by omega
          have hie : i = ls.length := by omega
          have hBw := hB4.trans (hB.mono hB4.size)
          have hlen : (oneR ls).length = ls.length := by simp [oneR]
          have hF : wr.ownsRow w4.heap.size 60 2 (.slice (some ⟨w4.heap.size, 0, none⟩) ls.length ls.length) ls.length (flatI (oneR ls)) := by
            have h := hrow
            have e : L = flatI (oneR ls) := by
              have hLl : L.length = ls.length * 2 := hrow.1
              have := hL.out
              rw [hie, List.take_length, List.take_of_length_le (by omega)] at this
              exact this
            rw [e] at h
            exact h
          have hI : ItemsIn wr (some ⟨w4.heap.size, 0, none⟩) (oneR ls) := items_of_own hlen.symm hF fun r hr => ⟨((HR.out r hr).below hBw).okW hBw.size, (HR.out r hr).2.1⟩
          have hg := gatheredBag_any w.heap.size (some ⟨w4.heap.size, 0, none⟩) (oneR ls) ls.length (by omega) (fun r hr => (HV.out r hr).1) (fun r hr => (HV.out r hr).2) wr hBw.size hI (HT.out.up hBw hBw.size)
          rw [hlen] at hg
          have HG := Lib.hid hg
          clear hie hrow hF hI hg hL hlen
          go_wp2_with fail
          refine HG.out.mono ?_
          rintro e w9 ⟨p9, s9, c9, rfl, h1, h2, h3, h4, h5⟩
          have HH := Lib.hid (And.intro h1 (And.intro h2 (And.intro h3 (And.intro h4 h5))))
          clear h1 h2 h3 h4 h5
          go_wp2_with fail
          go_ret2
          exact ⟨p9, s9, c9, rfl, HH.out.1, HH.out.2.1, HH.out.2.2.1, HH.out.2.2.2.1, hBw.trans HH.out.2.2.2.2⟩
  · have hl' : (400 : Int) < ls.length := by omega
    obtain ⟨e1, e2⟩ := ofNo (l := rvals ls) (fun h => by rw [rvals_len] at h; exact hl h.1)
    rw [e1, e2]
    clear e1 e2 hX hzs hT hl hcn
    go_enter Tryz.func20, Tryz.ntmps20
    go_wp2_with fail
    go_ret2
    exact bagPost_nil (Below.refl _ _)
end Go.Proofs.YthoimepdioeckaaGreatDoor

/-!
  Of of the document, as a contract.
-/
namespace Go.Proofs.YthoimepdioeckaaGreatDoor
open Go.RowKit

set_option maxRecDepth 100000 in
set_option maxHeartbeats 4000000 in
theorem refOf_any (p : Option Addr) (ls : List RowV) (c : Nat) (hm : ls.length ≤ 9223372036854775807) (w : World) (hX : RowsIn w p ls) (hzs : ∀ r ∈ ls, r.1 = none → r.2.2 = 0) :
    Calls Tryz.prog 21 #[.slice p ls.length c] w (BagPost w.heap.size w (ofVal (rvals ls)) (ofErr (rvals ls))) := by
  by_cases hl : ls.length ≤ 400
  · have hl' : (ls.length : Int) ≤ 400 := by omega
    have HZ := Lib.hid hX
    have HZS := Lib.hid hzs
    have HV := Lib.hid fun (q : Option Addr) (xs : List Val) (qc : Nat) (hm : xs.length ≤ 9223372036854775807) W (h : ValsIn W q xs) => refValid_any q xs qc hm W h
    clear hX hzs
    go_enter Tryz.func21, Tryz.ntmps21
    go_wp2_with fail
    go_loopw [4, 5] (fun o s wr => ∃ (i : Nat) (p' : Option Addr) (os : List ItR) (c' : Nat), o = .slice p' os.length c' ∧ s = .int .i64 i ∧ i ≤ ls.length ∧ Hid (∀ k, k < i → badR (ls[k]?.getD r0).2.1 = false) ∧ Hid (vals os = after [] (ones (rvals (ls.take i)))) ∧ Hid (Asc (vals os) ∧ Bd i (vals os)) ∧ os.length ≤ c' ∧ os.length ≤ i ∧ ItemsIn wr p' os ∧ Hid (p' = none → c' = 0) ∧ Below w.heap.size w wr) (fun _ s _ => ls.length - (intOf s).toNat)
    case atStart => exact ⟨0, none, [], 0, rfl, rfl, Nat.zero_le _, (fun k hk => absurd hk (Nat.not_lt_zero _)), rfl, ⟨nil_asc, fun x hx => by cases hx⟩, Nat.le_refl _, Nat.le_refl _, (fun h => absurd h (by simp)), (fun _ => rfl), Below.refl _ _⟩
    case round =>
      obtain ⟨i, p', os, c', rfl, rfl, hi, hE, hvo, hbo, hoc, hol, hio, hzo, hB⟩ := hrel
      by_cases hlt : i < ls.length
      · obtain ⟨b, off, rfl, hbl, hra⟩ := HZ.out (by omega)
        obtain ⟨c0, c2⟩ := (hra.belowV hB hbl) i hlt
        have E0 := Lib.hid c0
        have hbr : b < wr.heap.size := Nat.lt_of_lt_of_le hbl hB.size
        have hi0 : (0 : Int) ≤ (i : Int) := by omega
        have hi1 : (i : Int) < (ls.length : Int) := by omega
        have hz := HZS.out (ls[i]?.getD r0) (by rw [List.getElem?_eq_getElem hlt]; exact List.getElem_mem hlt)
        have hc := HV.out (ls[i]?.getD r0).1 (ls[i]?.getD r0).2.1 (ls[i]?.getD r0).2.2 c2.1 wr c2.2
        clear hra
        cases hn : badR (ls[i]?.getD r0).2.1 with
        | true =>
          have hbad : (rvals ls).any badR = true := badR_at (by rw [rvals_len]; exact hlt) (by rw [rvals_get]; exact hn)
          obtain ⟨e1, e2⟩ := ofNo (l := rvals ls) (fun h => by rw [hbad] at h; exact absurd h.2 (by decide))
          have HE12 := Lib.hid (And.intro e1 e2)
          have e : validRow (ls[i]?.getD r0).2.1 = false := by unfold badR at hn; simpa using hn
          rw [e] at hc
          have HC := Lib.hid hc
          clear e1 e2 hbad hn e hc c2 hz hE
          generalize (ls[i]?.getD r0) = x at c0 HC
          obtain ⟨xq, xs, xc⟩ := x
          dsimp only [rowv] at *
          go_wp2_with fail
          refine HC.out.mono ?_
          rintro e w1 ⟨rfl, hb1⟩
          have hB4 := hB.trans (hb1.mono hB.size)
          go_wp2_with fail
          go_ret2
          rw [HE12.out.1, HE12.out.2]
          exact bagPost_nil hB4
        | false =>
          have HE := Lib.hid (show ∀ k, k < i + 1 → badR (ls[k]?.getD r0).2.1 = false from fun k hk => by
            by_cases hki : k = i
            · rw [hki]; exact hn
            · exact hE.out k (by omega))
          have e : validRow (ls[i]?.getD r0).2.1 = true := by unfold badR at hn; simpa using hn
          have hnx : after [] (ones (rvals (ls.take (i + 1)))) = put (vals os) (ls[i]?.getD r0).2.1 1 := by
            rw [hvo.out, List.take_succ_eq_append_getElem hlt, List.getElem?_eq_getElem hlt]
            unfold rvals ones
            rw [List.map_append, List.map_append, after_app]; rfl
          rw [e] at hc
          have HC := Lib.hid hc
          clear hn hc hE
          generalize (ls[i]?.getD r0) = x at *
          obtain ⟨xq, xs, xc⟩ := x
          dsimp only [rowv] at *
          have HP := Lib.hid fun W (h : Below wr.heap.size wr W) => Put_any p' xq os c' xs xc 1 (by omega) hbo.out.1.2 (fun r hr => by
            have := hbo.out.2 _ (mem_vals hr)
            unfold big
            simp only [itv] at this
            omega) (by unfold big; omega) (fun r hr => by have := row_len (hbo.out.1.1 _ (mem_vals hr)).1; simp only [itv] at this; omega) (by have := row_len e; omega) W (hio.belowV h) (c2.belowV h).2 hz
          have HNX := Lib.hid hnx
          have HAS := Lib.hid (show Asc (put (vals os) xs 1) ∧ Bd (i + 1) (put (vals os) xs 1) from ⟨put_asc hbo.out.1 e, hbo.out.2.put e (by omega) (by omega)⟩)
          clear hnx e c2 hio hz
          go_wp2_with fail
          refine HC.out.mono ?_
          rintro e w1 ⟨rfl, hb1⟩
          have c0 := (hb1.cell (p := ⟨b, off + i, none⟩) hbr).trans E0.out
          go_wp2_with fail
          refine (HP.out _ hb1).mono ?_
          rintro e w3 ⟨p3, os3, c3, rfl, hv3, hoc3, hol3, hi3, hz3, hb3⟩
          have hB3 := (hB.trans (hb1.mono hB.size))
          have HV3 := Lib.hid hv3
          have HZ3 := Lib.hid hz3
          clear hv3 hz3 hb1 c0
          go_wp2_with fail
          go_roundw
          case rel => exact ⟨i + 1, p3, os3, c3, rfl, by go_num, by omega, HE.out, (by show _ = _; rw [HNX.out, HV3.out]), (by show _ ∧ _; rw [HV3.out]; exact HAS.out), hoc3, by omega, hi3, HZ3.out, hB3.trans (hb3.mono hB3.size)⟩
          case measure => simp [intOf]; omega
      · have hge : (ls.length : Int) ≤ (i : Int) := by omega
        have hie : i = ls.length := by omega
        have hnone : (rvals ls).any badR = false := badR_none fun k hk => by rw [rvals_get]; exact hE.out k (by rw [rvals_len] at hk; omega)
        have HF := Lib.hid (show vals os = ofVal (rvals ls) ∧ ofErr (rvals ls) = 0 by
          have := hvo.out
          rw [hie, List.take_length] at this
          unfold ofVal ofErr
          have hh : (rvals ls).length ≤ 400 ∧ (rvals ls).any badR = false := ⟨by rw [rvals_len]; exact hl, hnone⟩
          rw [if_pos hh, if_pos hh]
          exact ⟨this, rfl⟩)
        clear hie hnone hE
        go_wp2_with fail
        go_ret2
        rw [HF.out.2]
        exact ⟨p', os, c', rfl, HF.out.1, hoc, by omega, hio, hB⟩
  · have hl' : (400 : Int) < ls.length := by omega
    obtain ⟨e1, e2⟩ := ofNo (l := rvals ls) (fun h => by rw [rvals_len] at h; exact hl h.1)
    rw [e1, e2]
    clear e1 e2 hX hzs hl
    go_enter Tryz.func21, Tryz.ntmps21
    go_wp2_with fail
    go_ret2
    exact bagPost_nil (Below.refl _ _)
end Go.Proofs.YthoimepdioeckaaGreatDoor

/-!
  A whole bag written out row by row: plain facts; rows on a row of the call's own; copies of rows.
-/
namespace Go.Proofs.YthoimepdioeckaaGreatDoor
open Go.RowKit

def expand (l : List It) : RLv := l.flatMap fun x => List.replicate x.2.toNat x.1
theorem expand_app (l m : List It) : expand (l ++ m) = expand l ++ expand m := by unfold expand; rw [List.flatMap_append]
theorem expand_next {l : List It} {i : Nat} (h : i < l.length) : expand (l.take (i + 1)) = expand (l.take i) ++ List.replicate (l[i]?.getD it0).2.toNat (l[i]?.getD it0).1 := by
  rw [List.take_succ_eq_append_getElem h, expand_app, List.getElem?_eq_getElem h]; simp [expand]
def rowsErr (l : List It) : Int := if validBag l = true then (if l.any neg = true then 10 else if 400 < totalV l then 4 else 0) else 1
def rowsVal (l : List It) : RLv := if rowsErr l = 0 then expand l else []
theorem tot_eq {l : List It} (h : validBag l = true) : ∀ i, i ≤ l.length → totW l i = ((l.take i).map (·.2)).sum ∧ -(1000000 * (i : Int)) ≤ totW l i ∧ totW l i ≤ 1000000 * (i : Int)
  | 0, _ => by simp [totW]
  | i + 1, hi => by
    obtain ⟨h1, h2, h3⟩ := tot_eq h i (by omega)
    have hlt : i < l.length := by omega
    have hb := (itOK_iff.1 ((validBag_iff.1 h).2.1 (l[i]?.getD it0) (by rw [List.getElem?_eq_getElem hlt]; exact List.getElem_mem hlt))).2
    have h4 := (validBag_iff.1 h).1
    rw [totW_next hlt, IntWalk.wrap64_in _ (by have := hb.2; omega)]
    refine ⟨?_, ?_, ?_⟩
    · rw [List.take_succ_eq_append_getElem hlt, List.map_append, List.sum_append, ← h1, List.getElem?_eq_getElem hlt]; simp
    · have := hb.2; omega
    · have := hb.2; omega
theorem tot_len {l : List It} (h : validBag l = true) (hn : l.any neg = false) : totalV l = (expand l).length := by
  unfold totalV
  rw [if_pos h, (tot_eq h l.length (Nat.le_refl _)).1, List.take_length]
  have hnn : ∀ x ∈ l, 0 ≤ x.2 := fun x hx => by
    have := List.any_eq_false.1 hn x hx
    unfold neg at this
    simpa using this
  clear hn h
  induction l with
  | nil => rfl
  | cons x l ih =>
    have hx := hnn x (by simp)
    have e : expand (x :: l) = List.replicate x.2.toNat x.1 ++ expand l := by simp [expand]
    rw [e, List.length_append, List.length_replicate, List.map_cons, List.sum_cons, ih fun y hy => hnn y (by simp [hy])]
    omega
theorem exp_rows {l : List It} (h : validBag l = true) : (expand l).any badR = false := by
  rw [List.any_eq_false]
  intro r hr
  unfold expand at hr
  obtain ⟨x, hx, hr⟩ := List.mem_flatMap.1 hr
  have := (itOK_iff.1 ((validBag_iff.1 h).2.1 x hx)).1
  rw [List.mem_replicate] at hr
  unfold badR
  rw [hr.2, this]; decide
theorem exp_sum {l : List It} (hnn : ∀ x ∈ l, 0 ≤ x.2) (q : List Val) : sumC (ones (expand l)) q = sumC l q := by
  induction l with
  | nil => rfl
  | cons x l ih =>
    have hx := hnn x (by simp)
    have e : ones (expand (x :: l)) = ones (List.replicate x.2.toNat x.1) ++ ones (expand l) := by simp [expand, ones]
    have e2 : ∀ k : Nat, sumC (ones (List.replicate k x.1)) q = if cmpRow x.1 q = 0 then (k : Int) else 0 := fun k => by
      induction k with
      | zero => simp [ones, sumC]
      | succ k ihk =>
        have : sumC (ones (List.replicate (k + 1) x.1)) q = (if cmpRow x.1 q = 0 then 1 else 0) + sumC (ones (List.replicate k x.1)) q := sumC_cons (x.1, 1) (ones (List.replicate k x.1)) q
        rw [this, ihk]
        split <;> omega
    rw [e, sumC_app, e2, ih fun y hy => hnn y (by simp [hy]), sumC_cons]
    congr 1
    split <;> omega
theorem exp_back {l : List It} (h : rowsErr l = 0) : ofErr (rowsVal l) = 0 ∧ ofVal (rowsVal l) = l := by
  have e0 : rowsVal l = expand l := by unfold rowsVal; rw [if_pos h]
  rw [e0]
  unfold rowsErr at h
  have hv : validBag l = true := by
    cases hv : validBag l with
    | true => rfl
    | false => rw [hv, if_neg (by decide)] at h; exact absurd h (by decide)
  rw [if_pos hv] at h
  have hn : l.any neg = false := by
    cases hn : l.any neg with
    | false => rfl
    | true => rw [hn, if_pos rfl] at h; exact absurd h (by decide)
  rw [hn, if_neg (by decide)] at h
  have ht : totalV l ≤ 400 := by
    by_cases ht : 400 < totalV l
    · rw [if_pos ht] at h; exact absurd h (by decide)
    · omega
  rw [tot_len hv hn] at ht
  have hh : (expand l).length ≤ 400 ∧ (expand l).any badR = false := ⟨by omega, exp_rows hv⟩
  unfold ofErr ofVal
  rw [if_pos hh, if_pos hh]
  have ha := asc_of_valid hv
  have hnn : ∀ x ∈ l, 0 ≤ x.2 := fun x hx => by
    have := List.any_eq_false.1 hn x hx
    unfold neg at this
    simpa using this
  exact ⟨rfl, bag_ext (after_asc nil_asc (ones_valid hh.2)) ha fun q => by rw [after_cnt nil_asc.2, exp_sum hnn, sumC_up ha.2]; simp [cnt]⟩

/-! ### Rows of the call's own -/
def OwnRs (W : World) (B : Nat) (v : Value) (rl : List RowV) : Prop :=
  W.ownsRow B 38 1 v rl.length (rl.map rowv) ∧ ∀ r ∈ rl, OwnsV W B (rowv r) r.2.1
theorem OwnRs.nil (W : World) (B : Nat) : OwnRs W B (.slice none 0 0) [] := ⟨World.ownsRow_nil _ _ _ _, by simp⟩
theorem OwnRs.below {W W' : World} {B : Nat} {v : Value} {rl : List RowV} (h : OwnRs W B v rl) (hb : Below W.heap.size W W') : OwnRs W' B v rl := ⟨owns_below h.1 hb, fun r hr => owns_below (h.2 r hr) hb⟩
theorem own_apartR {W : World} {B n m : Nat} {v u : Value} {L M : List Value} (h : W.ownsRow B 38 1 v n L) (k : W.ownsRow B 62 3 u m M) : u.ownBlock = none ∨ u.ownBlock ≠ v.ownBlock := by
  rcases k.2 with ⟨rfl, _⟩ | ⟨g, cap, cur, rfl, _, hg, _⟩
  · exact .inl rfl
  · refine .inr fun e => ?_
    rcases h.2 with ⟨rfl, _⟩ | ⟨g2, cap2, cur2, rfl, _, hg2, _⟩
    · simp [Value.ownBlock] at e
    · simp only [Value.ownBlock, Option.some.injEq] at e
      subst e
      rw [hg] at hg2
      simp at hg2
theorem blk_not_row {W : World} {B A n : Nat} {v : Value} {L : List Value} {cs : Array Value} (hb : Blk W A 60 cs) (h : W.ownsRow B 38 1 v n L) : some A ≠ v.ownBlock := by
  rcases h.2 with ⟨rfl, _⟩ | ⟨g2, cap2, cur2, rfl, _, hg2, _⟩
  · simp [Value.ownBlock]
  · intro e
    simp only [Value.ownBlock, Option.some.injEq] at e
    subst e
    rw [show W.heap[A]? = _ from hb] at hg2
    simp at hg2
theorem OwnRs.appended {W w5 : World} {B : Nat} {v v' : Value} {rl : List RowV} {x : RowV} {tmp : Obj} (h : OwnRs W B v rl) (hx : OwnsV W B (rowv x) x.2.1)
    (hown' : w5.ownsRow B 38 1 v' (rl.length + 1) (rl.map rowv ++ [rowv x])) (hg : (W.alloc tmp).grownBy w5 v.ownBlock) : OwnRs w5 B v' (rl ++ [x]) := by
  refine ⟨by rw [List.length_append, List.map_append]; exact hown', fun r hr => ?_⟩
  have key : ∀ r : RowV, OwnsV W B (rowv r) r.2.1 → OwnsV w5 B (rowv r) r.2.1 := fun r hr => (hr.alloc tmp).kept hg (own_apartR h.1 hr)
  rcases List.mem_append.1 hr with hr | hr
  · exact key r (h.2 r hr)
  · rw [List.mem_singleton] at hr
    subst hr
    exact key r hx
theorem infoRw : (Tryz.prog.info? 38).map (fun i => (i.zero, i.size, i.bytes)) = some (some (.slice none 0 0), 1, 24) := by kernel_rfl
theorem rows_of_ownR {W : World} {B n cap : Nat} {p : Option Addr} {rl : List RowV} (hn : n = rl.length) (h : W.ownsRow B 38 1 (.slice p n cap) n (rl.map rowv)) (hr : ∀ r ∈ rl, RowOK W r) : RowsIn W p rl := fun hp => by
  rcases h.2 with ⟨_, h0⟩ | ⟨g, cap', cur, he, _, hg, _⟩
  · omega
  · have hh := h
    simp only [Value.slice.injEq, true_and] at he
    obtain ⟨rfl, rfl⟩ := he
    refine ⟨g, 0, rfl, (Array.getElem?_eq_some_iff.1 hg).1, fun i hi => ?_⟩
    have hm : rl[i]?.getD r0 ∈ rl := by rw [List.getElem?_eq_getElem hi]; exact List.getElem_mem hi
    refine ⟨?_, hr _ hm⟩
    rw [Nat.zero_add, hh.cellAt i (by omega), List.getElem?_map, List.getElem?_eq_getElem hi]; rfl
/-- What Rows answers. -/
def RsPost (w : World) (l : RLv) (er : Int) (e : Ending) (w' : World) : Prop :=
  ∃ (p : Option Addr) (rl : List RowV) (cap : Nat), e = .returned (.tuple #[.slice p rl.length cap, .int .i64 er]) ∧ rvals rl = l ∧ rl.length ≤ 1000000000 ∧ RowsIn w' p rl ∧ (∀ r ∈ rl, r.1 = none → r.2.2 = 0) ∧ Below w.heap.size w w'
theorem rsPost_nil {w w' : World} {er : Int} (h : Below w.heap.size w w') : RsPost w [] er (.returned (.tuple #[.slice none 0 0, .int .i64 er])) w' := ⟨none, [], 0, rfl, rfl, by simp, (fun h => absurd h (by simp)), by simp, h⟩
theorem rsPost_own {w w' : World} {B : Nat} {p : Option Addr} {cap : Nat} {rl : List RowV} {l : RLv} (h : OwnRs w' B (.slice p rl.length cap) rl) (hv : rvals rl = l) (hl : rl.length ≤ 1000000000) (hx : ∀ r ∈ rl, r.2.1.length ≤ 9223372036854775807) (hb : Below w.heap.size w w') :
    RsPost w l 0 (.returned (.tuple #[.slice p rl.length cap, .int .i64 0])) w' :=
  ⟨p, rl, cap, rfl, hv, hl, rows_of_ownR rfl h.1 (fun r hr => (rowOK_of_owns (h.2 r hr) (hx r hr)).1), fun r hr => (rowOK_of_owns (h.2 r hr) (hx r hr)).2, hb⟩

set_option maxRecDepth 100000 in
set_option maxHeartbeats 1000000 in
theorem clone2_any (p : Option Addr) (xs : List Val) (cap : Nat) (hm : xs.length ≤ 100000) (w : World) (hX : ValsIn w p xs) (hz : p = none → cap = 0) :
    Calls Tryz.prog 52 #[.slice p xs.length cap] w (OwnRowPost w xs) := by
  have q22 : ∀ (w : World) (a : Option Addr) (n c : Nat), (binOp .eql 38 (.slice a n c) (.slice none 0 0)).run Tryz.prog w = .ok (.bool a.isNone) w := fun w a n c => Lib.run_eql_slice_nil w _ _ a n c 0 0 Tryz.underlying38
  cases p with
  | none =>
    have hx0 : xs = [] := by
      cases xs with
      | nil => rfl
      | cons x xs => obtain ⟨_, _, e, _⟩ := hX (by simp); cases e
    subst hx0
    clear hX hz
    go_enter Tryz.func52, Tryz.ntmps52
    go_wp2_with fail
    go_ret
    exact ⟨(none, [], 0), rfl, rfl, World.ownsRow_nil _ _ _ _, Below.refl _ _⟩
  | some ad =>
    have hbA : Below w.heap.size w (w.alloc (.cells #[] 62)) := (Below.refl _ _).alloc (Nat.le_refl _) _
    have hown : (w.alloc (.cells #[] 62)).ownsRow w.heap.size 62 3 (.slice (some ⟨w.heap.size, 0, none⟩) 0 0) 0 [] := World.ownsRow_made w #[] 0 (Nat.le_refl _) (Nat.zero_le _) rfl
    have HX := Lib.hid (hX.belowV hbA)
    have HOW := Lib.hid hown
    clear hX hz hown
    go_enter Tryz.func52, Tryz.ntmps52
    go_wp2_with (at_builtin; refine wpList_append_vals rfl _ _ rfl w.heap.size _ 0 [] rfl HOW.out (some ad) xs cap rfl HX.out (fun e => by cases e) (by omega) (by simp) xs.length (by omega) (flatV xs) (List.nil_append _) ?_; intro v' w5 hown' hb5 _)
    go_ret
    obtain ⟨p2, c2, rfl⟩ := slice_of_owns hown'
    exact ⟨(p2, xs, c2), rfl, rfl, hown', hbA.trans hb5⟩
end Go.Proofs.YthoimepdioeckaaGreatDoor

/-!
  Rows of package bag, as a contract.
-/
namespace Go.Proofs.YthoimepdioeckaaGreatDoor
open Go.RowKit

theorem totalV_at {l : List It} (h : validBag l = true) : -(400000000 : Int) ≤ totalV l ∧ totalV l ≤ 400000000 := by
  have h2 := (tot_eq h l.length (Nat.le_refl _)).2
  have h3 := (validBag_iff.1 h).1
  unfold totalV
  rw [if_pos h]
  omega

set_option maxRecDepth 100000 in
set_option maxHeartbeats 4000000 in
theorem bagRows_yes (p : Option Addr) (rs : List ItR) (c : Nat) (hm : rs.length ≤ 400) (hc : rs.length ≤ c) (w : World) (hX : ItemsIn w p rs) (q1 : validBag (vals rs) = true) (q2 : (vals rs).any neg = false) (q3 : totalV (vals rs) ≤ 400) :
    Calls Tryz.prog 24 #[.slice p rs.length c] w (RsPost w (expand (vals rs)) 0) := by
  have h1 := bagValid_any p rs c (by omega) hc w hX
  have h2 := fun W (h : Below w.heap.size w W) => bagWhole_any p rs c (by omega) hc W (hX.belowV h)
  have h3 := fun W (h : Below w.heap.size w W) => bagTotal_any p rs c (by omega) hc W (hX.belowV h)
  have hw : wholeB (vals rs) = true := by unfold wholeB; rw [q1, q2]; rfl
  rw [q1] at h1
  rw [hw] at h2
  have hok : ∀ r ∈ rs, validRow r.1.2.1 = true ∧ 0 ≤ r.2 ∧ r.2 ≤ 1000000 := fun r hr => by
    have h5 := itOK_iff.1 ((validBag_iff.1 q1).2.1 _ (mem_vals hr))
    have h6 := List.any_eq_false.1 q2 _ (mem_vals hr)
    unfold neg at h6
    have h7 : ¬ (r.2 < 0) := fun hh => h6 (decide_eq_true hh)
    exact ⟨h5.1, by omega, h5.2.2.2⟩
  have H1 := Lib.hid h1
  have H2 := Lib.hid h2
  have H3 := Lib.hid h3
  have HOK := Lib.hid hok
  have HX := Lib.hid hX
  obtain ⟨i0, hii, hz0, hz1, hz2⟩ := info_parts infoRw
  clear h1 h2 h3 hw q1 q2 hok hX
  generalize totalV (vals rs) = tv at H3 q3
  go_enter Tryz.func24, Tryz.ntmps24
  go_wp2_with fail
  refine H1.out.mono ?_
  rintro e w1 ⟨rfl, hb1⟩
  go_wp2_with fail
  refine (H2.out _ hb1).mono ?_
  rintro e w2 ⟨rfl, hb2⟩
  have hB2 : Below w.heap.size w w2 := hb1.trans (hb2.mono hb1.size)
  clear hb1 hb2
  go_wp2_with fail
  refine (H3.out _ hB2).mono ?_
  rintro e w3 ⟨rfl, hb3⟩
  have hB3 : Below w.heap.size w w3 := hB2.trans (hb3.mono hB2.size)
  clear hb3 hB2 H1 H2 H3
  go_wp2_with fail
  go_loopw [4, 18] (fun o s wr => ∃ (i : Nat) (rl : List RowV), s = .int .i64 i ∧ i ≤ rs.length ∧ OwnRs wr w.heap.size o rl ∧ Hid (rvals rl = expand ((vals rs).take i)) ∧ rl.length ≤ 1000000 * i ∧ Hid (∀ r ∈ rl, r.2.1.length ≤ 100000) ∧ Below w.heap.size w wr) (fun _ s _ => rs.length - (intOf s).toNat)
  case atStart => exact ⟨0, [], rfl, Nat.zero_le _, OwnRs.nil _ _, (by show _ = _; simp [rvals, expand]), (by simp), (by simp [Hid]), hB3⟩
  case round =>
    clear hB3
    obtain ⟨i, rl, rfl, hi, hos, hput, hosl, hlen, hB⟩ := hrel
    obtain ⟨wo, hwo⟩ : ∃ wo : World, wo = wr := ⟨_, rfl⟩
    subst hwo
    have hBs := hB.size
    by_cases hlt : i < rs.length
    · obtain ⟨b, off, rfl, hbl, hra⟩ := HX.out (by omega)
      obtain ⟨c0, c1, _, c3⟩ := (hra.belowV hB hbl) i hlt
      have c2 := (hra i hlt).2.2.1
      have hi0 : (0 : Int) ≤ (i : Int) := by omega
      have hi1 : (i : Int) < (rs.length : Int) := by omega
      have hmem : rs[i]?.getD ir0 ∈ rs := by rw [List.getElem?_eq_getElem hlt]; exact List.getElem_mem hlt
      have hxo := HOK.out _ hmem
      have hnx := expand_next (show i < (vals rs).length by rw [vals_len]; exact hlt)
      rw [vals_get, ← hput.out] at hnx
      have hrow := fun W (h : Below w.heap.size w W) => c2.belowV h
      clear hra hmem c2
      generalize (rs[i]?.getD ir0) = x at *
      obtain ⟨⟨xq, xs, xc⟩, xn⟩ := x
      dsimp only [rowv, itv] at c0 c1 c3 hxo hnx hrow
      obtain ⟨n, hn⟩ : ∃ n : Nat, xn = (n : Int) := Int.eq_ofNat_of_zero_le hxo.2.1
      subst hn
      rw [Int.toNat_natCast] at hnx
      have hn6 : n ≤ 1000000 := by omega
      have hl8 := row_len hxo.1
      have HCL := Lib.hid fun W (h : Below w.heap.size w W) => clone2_any xq xs xc (by omega) W (hrow W h).2 c3
      have HNX := Lib.hid hnx
      have hbA : Below wo.heap.size wo (wo.alloc (.cells #[.slice xq xs.length xc, .int .i64 n] 60)) := (Below.refl _ _).alloc (Nat.le_refl _) _
      have hkA := Blk.new wo 60 #[.slice xq xs.length xc, .int .i64 n]
      have hoA := hos.below hbA
      have hBA := hB.trans (hbA.mono hBs)
      clear hnx hrow hxo c3 hput
      go_wp2_with fail
      go_loopw [4, 24] (fun o s wr => ∃ (j : Nat) (rl2 : List RowV), s = .int .i64 j ∧ j ≤ n ∧ OwnRs wr w.heap.size o rl2 ∧ Hid (rvals rl2 = rvals rl ++ List.replicate j xs) ∧ rl2.length = rl.length + j ∧ Hid (∀ r ∈ rl2, r.2.1.length ≤ 100000) ∧ Blk wr wo.heap.size 60 #[.slice xq xs.length xc, .int .i64 n] ∧ Below w.heap.size w wr) (fun _ s _ => n - (intOf s).toNat)
      case atStart => exact ⟨0, rl, rfl, Nat.zero_le _, hoA, (by show _ = _; simp), rfl, hlen.out, hkA, hBA⟩
      case round =>
        clear hbA hkA hoA hBA hos hB
        obtain ⟨j, rl2, rfl, hj, hos, hput, hosl2, hlen2, hblk, hB⟩ := hrel
        by_cases hjl : j < n
        · have hj0 : (j : Int) < (n : Int) := by omega
          have k0 := hblk.cell 0
          have k1 := hblk.cell 1
          simp only [List.getElem?_toArray, List.getElem?_cons_zero, List.getElem?_cons_succ] at k0 k1
          have HBLK := Lib.hid hblk
          have HOS := Lib.hid hos
          clear hblk hos
          go_wp2_with fail
          refine (HCL.out _ hB).mono ?_
          rintro e w5 ⟨⟨rq, rx, rc⟩, rfl, hrx, hown1, kb1⟩
          dsimp only [rowv] at hrx hown1 ⊢
          have hrx := hrx.symm
          subst hrx
          have hO5 := HOS.out.below kb1
          have hW5 := ownsRow_base hown1 hB.size
          have hB5 : Below w.heap.size w w5 := hB.trans (kb1.mono hB.size)
          have hblk5 := HBLK.out.belowV kb1 HBLK.out.lt
          have hbs5 := hB5.size
          clear kb1 hown1 k0 k1
          have HROW := Lib.hid hO5.1
          have HLT := Lib.hid fun k e => (hO5.1.lt k e).1
          go_wp2_with (at_builtin; refine wpList_append_own _ rfl _ _ 42 rfl w.heap.size 38 i0 (.slice none 0 0) 1 24 Tryz.underlying42 hii hz0 hz1 hz2 rfl (by decide) _ _ _ rfl (HROW.out.alloc _) ⟨w5.heap.size, 0, none⟩ 1 1 [.slice rq xs.length rc] rfl rfl (cells_new _ _ _) (by simp [Value.oneCell']) (by unfold maxLen; omega) (by omega) (by simp <;> omega) ?_; intro v' w6 hown' hgrow _; have hB6 : Below w.heap.size w w6 := (hB5.alloc hbs5 _).grown hgrow (by simp <;> omega) HLT.out)
          have hO6 := hO5.appended (x := (rq, xs, rc)) hW5 hown' hgrow
          have hblk6 : Blk w6 wo.heap.size 60 #[.slice xq xs.length xc, .int .i64 n] := (hblk5.belowV ((Below.refl _ _).alloc (Nat.le_refl _) _) hblk5.lt).kept hgrow (blk_not_row hblk5 hO5.1)
          have HV2 := Lib.hid (show rvals (rl2 ++ [(rq, xs, rc)]) = rvals rl ++ List.replicate (j + 1) xs by
            have := hput.out
            unfold rvals at *
            rw [List.map_append, this, List.replicate_succ', List.append_assoc]; rfl)
          have HL2 : Hid (∀ r ∈ rl2 ++ [(rq, xs, rc)], r.2.1.length ≤ 100000) := (by intro r hr; rcases List.mem_append.1 hr with hr | hr; exact hlen2.out r hr; rw [List.mem_singleton] at hr; subst hr; show xs.length ≤ _; omega)
          go_roundw
          case rel => exact ⟨j + 1, rl2 ++ [(rq, xs, rc)], by go_num, by omega, hO6, HV2.out, (by simp <;> omega), HL2, hblk6, hB6⟩
          case measure => simp [intOf]; omega
        · have hge : (n : Int) ≤ (j : Int) := by omega
          have hje : j = n := by omega
          have HV3 := Lib.hid (show rvals rl2 = expand ((vals rs).take (i + 1)) by rw [HNX.out, hput.out, hje])
          clear hje hput hblk
          go_wp2_with fail
          go_roundw
          case rel => exact ⟨i + 1, rl2, by go_num, by omega, hos, HV3.out, by omega, hlen2, hB⟩
          case measure => simp [intOf]; omega
    · have hge : (rs.length : Int) ≤ (i : Int) := by omega
      have hie : i = rs.length := by omega
      have HV := Lib.hid (show rvals rl = expand (vals rs) by have := hput.out; rwa [hie, ← vals_len rs, List.take_length] at this)
      obtain ⟨p2, c2, rfl⟩ := slice_of_owns hos.1
      have HO := Lib.hid hos
      clear hie hput hos
      go_wp2_with fail
      go_ret2
      exact rsPost_own HO.out HV.out (by omega) (fun r hr => by have := hlen.out r hr; omega) hB

set_option maxRecDepth 100000 in
set_option maxHeartbeats 1000000 in
theorem bagRows_any (p : Option Addr) (rs : List ItR) (c : Nat) (hm : rs.length ≤ 9223372036854775807) (hc : rs.length ≤ c) (w : World) (hX : ItemsIn w p rs) :
    Calls Tryz.prog 24 #[.slice p rs.length c] w (RsPost w (rowsVal (vals rs)) (rowsErr (vals rs))) := by
  have h1 := bagValid_any p rs c hm hc w hX
  have h2 := fun W (h : Below w.heap.size w W) => bagWhole_any p rs c hm hc W (hX.belowV h)
  have h3 := fun W (h : Below w.heap.size w W) => bagTotal_any p rs c hm hc W (hX.belowV h)
  cases q1 : validBag (vals rs) with
  | false =>
    have e1 : rowsErr (vals rs) = 1 := by unfold rowsErr; rw [q1, if_neg (by decide)]
    have e2 : rowsVal (vals rs) = [] := by unfold rowsVal; rw [e1, if_neg (by decide)]
    rw [e1, e2]
    rw [q1] at h1
    have H1 := Lib.hid h1
    clear h1 h2 h3 q1 e1 e2 hX
    go_enter Tryz.func24, Tryz.ntmps24
    go_wp2_with fail
    refine H1.out.mono ?_
    rintro e w1 ⟨rfl, hb1⟩
    go_wp2_with fail
    go_ret2
    exact rsPost_nil hb1
  | true =>
    rw [q1] at h1
    cases q2 : (vals rs).any neg with
    | true =>
      have e1 : rowsErr (vals rs) = 10 := by unfold rowsErr; rw [q1, if_pos rfl, q2, if_pos rfl]
      have e2 : rowsVal (vals rs) = [] := by unfold rowsVal; rw [e1, if_neg (by decide)]
      have hw : wholeB (vals rs) = false := by unfold wholeB; rw [q1, q2]; rfl
      rw [e1, e2]
      rw [hw] at h2
      have H1 := Lib.hid h1
      have H2 := Lib.hid h2
      clear h1 h2 h3 q1 q2 e1 e2 hw hX
      go_enter Tryz.func24, Tryz.ntmps24
      go_wp2_with fail
      refine H1.out.mono ?_
      rintro e w1 ⟨rfl, hb1⟩
      go_wp2_with fail
      refine (H2.out _ hb1).mono ?_
      rintro e w2 ⟨rfl, hb2⟩
      have hB2 := hb1.trans (hb2.mono hb1.size)
      go_wp2_with fail
      go_ret2
      exact rsPost_nil hB2
    | false =>
      by_cases q3 : totalV (vals rs) ≤ 400
      · have e1 : rowsErr (vals rs) = 0 := by unfold rowsErr; rw [q1, if_pos rfl, q2, if_neg (by decide), if_neg (by omega)]
        have e2 : rowsVal (vals rs) = expand (vals rs) := by unfold rowsVal; rw [e1, if_pos rfl]
        rw [e1, e2]
        exact bagRows_yes p rs c (by have := (validBag_iff.1 q1).1; rwa [vals_len] at this) hc w hX q1 q2 q3
      · have e1 : rowsErr (vals rs) = 4 := by unfold rowsErr; rw [q1, if_pos rfl, q2, if_neg (by decide), if_pos (by omega)]
        have e2 : rowsVal (vals rs) = [] := by unfold rowsVal; rw [e1, if_neg (by decide)]
        have hw : wholeB (vals rs) = true := by unfold wholeB; rw [q1, q2]; rfl
        rw [e1, e2]
        rw [hw] at h2
        have hq3 : 400 < totalV (vals rs) := by omega
        generalize totalV (vals rs) = tv at h3 hq3
        have H1 := Lib.hid h1
        have H2 := Lib.hid h2
        have H3 := Lib.hid h3
        clear h1 h2 h3 q1 q2 q3 e1 e2 hw hX
        go_enter Tryz.func24, Tryz.ntmps24
        go_wp2_with fail
        refine H1.out.mono ?_
        rintro e w1 ⟨rfl, hb1⟩
        go_wp2_with fail
        refine (H2.out _ hb1).mono ?_
        rintro e w2 ⟨rfl, hb2⟩
        have hB2 := hb1.trans (hb2.mono hb1.size)
        clear hb1 hb2
        go_wp2_with fail
        refine (H3.out _ hB2).mono ?_
        rintro e w3 ⟨rfl, hb3⟩
        have hB3 := hB2.trans (hb3.mono hB2.size)
        go_wp2_with fail
        go_ret2
        exact rsPost_nil hB3
end Go.Proofs.YthoimepdioeckaaGreatDoor

/-!
  Rows of the document, as a contract.
-/
namespace Go.Proofs.YthoimepdioeckaaGreatDoor
open Go.RowKit

set_option maxRecDepth 100000 in
set_option maxHeartbeats 4000000 in
theorem refRows_yes (p : Option Addr) (rs : List ItR) (c : Nat) (hm : rs.length ≤ 400) (_hc : rs.length ≤ c) (w : World) (hX : ItemsIn w p rs) (q1 : validBag (vals rs) = true) (q2 : (vals rs).any neg = false) (q3 : totalV (vals rs) ≤ 400) :
    Calls Tryz.prog 25 #[.slice p rs.length c] w (RsPost w (expand (vals rs)) 0) := by
  have h1 := refBagValid_any p rs c (by omega) w hX
  have h2 := fun W (h : Below w.heap.size w W) => refWhole_any p rs c (by omega) W (hX.belowV h)
  have h3 := fun W (h : Below w.heap.size w W) => refTotal_any p rs c (by omega) W (hX.belowV h)
  have hw : wholeB (vals rs) = true := by unfold wholeB; rw [q1, q2]; rfl
  rw [q1] at h1
  rw [hw] at h2
  have hok : ∀ r ∈ rs, validRow r.1.2.1 = true ∧ 0 ≤ r.2 ∧ r.2 ≤ 1000000 := fun r hr => by
    have h5 := itOK_iff.1 ((validBag_iff.1 q1).2.1 _ (mem_vals hr))
    have h6 := List.any_eq_false.1 q2 _ (mem_vals hr)
    unfold neg at h6
    have h7 : ¬ (r.2 < 0) := fun hh => h6 (decide_eq_true hh)
    exact ⟨h5.1, by omega, h5.2.2.2⟩
  have H1 := Lib.hid h1
  have H2 := Lib.hid h2
  have H3 := Lib.hid h3
  have HOK := Lib.hid hok
  have HX := Lib.hid hX
  obtain ⟨i0, hii, hz0, hz1, hz2⟩ := info_parts infoRw
  clear h1 h2 h3 hw q1 q2 hok hX
  generalize totalV (vals rs) = tv at H3 q3
  go_enter Tryz.func25, Tryz.ntmps25
  go_wp2_with fail
  refine H1.out.mono ?_
  rintro e w1 ⟨rfl, hb1⟩
  go_wp2_with fail
  refine (H2.out _ hb1).mono ?_
  rintro e w2 ⟨rfl, hb2⟩
  have hB2 : Below w.heap.size w w2 := hb1.trans (hb2.mono hb1.size)
  clear hb1 hb2
  go_wp2_with fail
  refine (H3.out _ hB2).mono ?_
  rintro e w3 ⟨rfl, hb3⟩
  have hB3 : Below w.heap.size w w3 := hB2.trans (hb3.mono hB2.size)
  clear hb3 hB2 H1 H2 H3
  go_wp2_with fail
  go_loopw [4, 5, 6] (fun o s _ wr => ∃ (i : Nat) (rl : List RowV), s = .int .i64 i ∧ i ≤ rs.length ∧ OwnRs wr w.heap.size o rl ∧ Hid (rvals rl = expand ((vals rs).take i)) ∧ rl.length ≤ 1000000 * i ∧ Hid (∀ r ∈ rl, r.2.1.length ≤ 100000) ∧ Below w.heap.size w wr) (fun _ s _ _ => rs.length - (intOf s).toNat)
  case atStart => exact ⟨0, [], rfl, Nat.zero_le _, OwnRs.nil _ _, (by show _ = _; simp [rvals, expand]), (by simp), (by simp [Hid]), hB3⟩
  case round =>
    clear hB3
    obtain ⟨i, rl, rfl, hi, hos, hput, hosl, hlen, hB⟩ := hrel
    obtain ⟨wo, hwo⟩ : ∃ wo : World, wo = wr := ⟨_, rfl⟩
    subst hwo
    have hBs := hB.size
    by_cases hlt : i < rs.length
    · obtain ⟨b, off, rfl, hbl, hra⟩ := HX.out (by omega)
      obtain ⟨c0, c1, _, c3⟩ := hra i hlt
      have c2 := (hra i hlt).2.2.1
      have hi0 : (0 : Int) ≤ (i : Int) := by omega
      have hi1 : (i : Int) < (rs.length : Int) := by omega
      have hmem : rs[i]?.getD ir0 ∈ rs := by rw [List.getElem?_eq_getElem hlt]; exact List.getElem_mem hlt
      have hxo := HOK.out _ hmem
      have hnx := expand_next (show i < (vals rs).length by rw [vals_len]; exact hlt)
      rw [vals_get, ← hput.out] at hnx
      have hrow := fun W (h : Below w.heap.size w W) => c2.belowV h
      clear hra hmem c2
      generalize (rs[i]?.getD ir0) = x at *
      obtain ⟨⟨xq, xs, xc⟩, xn⟩ := x
      dsimp only [rowv, itv] at c0 c1 c3 hxo hnx hrow
      obtain ⟨n, hn⟩ : ∃ n : Nat, xn = (n : Int) := Int.eq_ofNat_of_zero_le hxo.2.1
      subst hn
      rw [Int.toNat_natCast] at hnx
      have hn6 : n ≤ 1000000 := by omega
      have hl8 := row_len hxo.1
      have HCL := Lib.hid fun W (h : Below w.heap.size w W) => Own_any xq xs xc (by omega) W (hrow W h).2 c3
      have HNX := Lib.hid hnx
      have HCC := Lib.hid (show ∀ W, Below w.heap.size w W → W.cell? ⟨b, off + i * 2, none⟩ = some (.slice xq xs.length xc) ∧ W.cell? ⟨b, off + i * 2 + 1, none⟩ = some (.int .i64 n) from fun W h => ⟨(h.cell (p := ⟨b, off + i * 2, none⟩) hbl).trans c0, (h.cell (p := ⟨b, off + i * 2 + 1, none⟩) hbl).trans c1⟩)
      clear hnx hrow hxo c3 hput c0 c1
      go_wp2_with fail
      go_loopw [4, 6] (fun o s wr => ∃ (j : Nat) (rl2 : List RowV), s = .int .i64 j ∧ j ≤ n ∧ OwnRs wr w.heap.size o rl2 ∧ Hid (rvals rl2 = rvals rl ++ List.replicate j xs) ∧ rl2.length = rl.length + j ∧ Hid (∀ r ∈ rl2, r.2.1.length ≤ 100000) ∧ Below w.heap.size w wr) (fun _ s _ => n - (intOf s).toNat)
      case atStart => exact ⟨0, rl, rfl, Nat.zero_le _, hos, (by show _ = _; simp), rfl, hlen.out, hB⟩
      case round =>
        clear hos hB hBs
        obtain ⟨j, rl2, rfl, hj, hos, hput, hosl2, hlen2, hB⟩ := hrel
        obtain ⟨k0, k1⟩ := HCC.out wr hB
        by_cases hjl : j < n
        · have hj0 : (j : Int) < (n : Int) := by omega
          have HOS := Lib.hid hos
          clear hos
          go_wp2_with fail
          refine (HCL.out _ hB).mono ?_
          rintro e w5 ⟨⟨rq, rx, rc⟩, rfl, hrx, hown1, kb1⟩
          dsimp only [rowv] at hrx hown1 ⊢
          have hrx := hrx.symm
          subst hrx
          have hO5 := HOS.out.below kb1
          have hW5 := ownsRow_base hown1 hB.size
          have hB5 : Below w.heap.size w w5 := hB.trans (kb1.mono hB.size)
          have hbs5 := hB5.size
          clear kb1 hown1 k0 k1
          have HROW := Lib.hid hO5.1
          have HLT := Lib.hid fun k e => (hO5.1.lt k e).1
          go_wp2_with (at_builtin; refine wpList_append_own _ rfl _ _ 42 rfl w.heap.size 38 i0 (.slice none 0 0) 1 24 Tryz.underlying42 hii hz0 hz1 hz2 rfl (by decide) _ _ _ rfl (HROW.out.alloc _) ⟨w5.heap.size, 0, none⟩ 1 1 [.slice rq xs.length rc] rfl rfl (cells_new _ _ _) (by simp [Value.oneCell']) (by unfold maxLen; omega) (by omega) (by simp <;> omega) ?_; intro v' w6 hown' hgrow _; have hB6 : Below w.heap.size w w6 := (hB5.alloc hbs5 _).grown hgrow (by simp <;> omega) HLT.out)
          have hO6 := hO5.appended (x := (rq, xs, rc)) hW5 hown' hgrow
          have HV2 := Lib.hid (show rvals (rl2 ++ [(rq, xs, rc)]) = rvals rl ++ List.replicate (j + 1) xs by
            have := hput.out
            unfold rvals at *
            rw [List.map_append, this, List.replicate_succ', List.append_assoc]; rfl)
          have HL2 : Hid (∀ r ∈ rl2 ++ [(rq, xs, rc)], r.2.1.length ≤ 100000) := (by intro r hr; rcases List.mem_append.1 hr with hr | hr; exact hlen2.out r hr; rw [List.mem_singleton] at hr; subst hr; show xs.length ≤ _; omega)
          go_roundw
          case rel => exact ⟨j + 1, rl2 ++ [(rq, xs, rc)], by go_num, by omega, hO6, HV2.out, (by simp <;> omega), HL2, hB6⟩
          case measure => simp [intOf]; omega
        · have hge : (n : Int) ≤ (j : Int) := by omega
          have hje : j = n := by omega
          have HV3 := Lib.hid (show rvals rl2 = expand ((vals rs).take (i + 1)) by rw [HNX.out, hput.out, hje])
          clear hje hput
          go_wp2_with fail
          go_roundw
          case rel => exact ⟨i + 1, rl2, by go_num, by omega, hos, HV3.out, by omega, hlen2, hB⟩
          case measure => simp [intOf]; omega
    · have hge : (rs.length : Int) ≤ (i : Int) := by omega
      have hie : i = rs.length := by omega
      have HV := Lib.hid (show rvals rl = expand (vals rs) by have := hput.out; rwa [hie, ← vals_len rs, List.take_length] at this)
      obtain ⟨p2, c2, rfl⟩ := slice_of_owns hos.1
      have HO := Lib.hid hos
      clear hie hput hos
      go_wp2_with fail
      go_ret2
      exact rsPost_own HO.out HV.out (by omega) (fun r hr => by have := hlen.out r hr; omega) hB

set_option maxRecDepth 100000 in
set_option maxHeartbeats 1000000 in
theorem refRows_any (p : Option Addr) (rs : List ItR) (c : Nat) (hm : rs.length ≤ 9223372036854775807) (hc : rs.length ≤ c) (w : World) (hX : ItemsIn w p rs) :
    Calls Tryz.prog 25 #[.slice p rs.length c] w (RsPost w (rowsVal (vals rs)) (rowsErr (vals rs))) := by
  have h1 := refBagValid_any p rs c hm w hX
  have h2 := fun W (h : Below w.heap.size w W) => refWhole_any p rs c hm W (hX.belowV h)
  have h3 := fun W (h : Below w.heap.size w W) => refTotal_any p rs c hm W (hX.belowV h)
  cases q1 : validBag (vals rs) with
  | false =>
    have e1 : rowsErr (vals rs) = 1 := by unfold rowsErr; rw [q1, if_neg (by decide)]
    have e2 : rowsVal (vals rs) = [] := by unfold rowsVal; rw [e1, if_neg (by decide)]
    rw [e1, e2]
    rw [q1] at h1
    have H1 := Lib.hid h1
    clear h1 h2 h3 q1 e1 e2 hX
    go_enter Tryz.func25, Tryz.ntmps25
    go_wp2_with fail
    refine H1.out.mono ?_
    rintro e w1 ⟨rfl, hb1⟩
    go_wp2_with fail
    go_ret2
    exact rsPost_nil hb1
  | true =>
    rw [q1] at h1
    cases q2 : (vals rs).any neg with
    | true =>
      have e1 : rowsErr (vals rs) = 10 := by unfold rowsErr; rw [q1, if_pos rfl, q2, if_pos rfl]
      have e2 : rowsVal (vals rs) = [] := by unfold rowsVal; rw [e1, if_neg (by decide)]
      have hw : wholeB (vals rs) = false := by unfold wholeB; rw [q1, q2]; rfl
      rw [e1, e2]
      rw [hw] at h2
      have H1 := Lib.hid h1
      have H2 := Lib.hid h2
      clear h1 h2 h3 q1 q2 e1 e2 hw hX
      go_enter Tryz.func25, Tryz.ntmps25
      go_wp2_with fail
      refine H1.out.mono ?_
      rintro e w1 ⟨rfl, hb1⟩
      go_wp2_with fail
      refine (H2.out _ hb1).mono ?_
      rintro e w2 ⟨rfl, hb2⟩
      have hB2 := hb1.trans (hb2.mono hb1.size)
      go_wp2_with fail
      go_ret2
      exact rsPost_nil hB2
    | false =>
      by_cases q3 : totalV (vals rs) ≤ 400
      · have e1 : rowsErr (vals rs) = 0 := by unfold rowsErr; rw [q1, if_pos rfl, q2, if_neg (by decide), if_neg (by omega)]
        have e2 : rowsVal (vals rs) = expand (vals rs) := by unfold rowsVal; rw [e1, if_pos rfl]
        rw [e1, e2]
        exact refRows_yes p rs c (by have := (validBag_iff.1 q1).1; rwa [vals_len] at this) hc w hX q1 q2 q3
      · have e1 : rowsErr (vals rs) = 4 := by unfold rowsErr; rw [q1, if_pos rfl, q2, if_neg (by decide), if_pos (by omega)]
        have e2 : rowsVal (vals rs) = [] := by unfold rowsVal; rw [e1, if_neg (by decide)]
        have hw : wholeB (vals rs) = true := by unfold wholeB; rw [q1, q2]; rfl
        rw [e1, e2]
        rw [hw] at h2
        have hq3 : 400 < totalV (vals rs) := by omega
        generalize totalV (vals rs) = tv at h3 hq3
        have H1 := Lib.hid h1
        have H2 := Lib.hid h2
        have H3 := Lib.hid h3
        clear h1 h2 h3 q1 q2 q3 e1 e2 hw hX
        go_enter Tryz.func25, Tryz.ntmps25
        go_wp2_with fail
        refine H1.out.mono ?_
        rintro e w1 ⟨rfl, hb1⟩
        go_wp2_with fail
        refine (H2.out _ hb1).mono ?_
        rintro e w2 ⟨rfl, hb2⟩
        have hB2 := hb1.trans (hb2.mono hb1.size)
        clear hb1 hb2
        go_wp2_with fail
        refine (H3.out _ hB2).mono ?_
        rintro e w3 ⟨rfl, hb3⟩
        have hB3 := hB2.trans (hb3.mono hB2.size)
        go_wp2_with fail
        go_ret2
        exact rsPost_nil hB3
end Go.Proofs.YthoimepdioeckaaGreatDoor

