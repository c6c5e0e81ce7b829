/-
  slices.Clone at bags, and Apply of package bag, as contracts.
-/
import Derived.Test.YthoimepdioeckaaGreatDoorGathB
import Derived.Test.YthoimepdioeckaaGreatDoorValidCs
namespace Go.Proofs.YthoimepdioeckaaGreatDoor
open Go.RowKit

/-- A change as an item. -/
def chI (c : Ch) : It := (c.2.1, c.2.2)
def chIR (c : ChR) : ItR := (c.2.1, c.2.2)
def its (l : List Ch) : List It := l.map chI
theorem its_take (l : List Ch) (i : Nat) : its (l.take i) = (its l).take i := by unfold its; rw [List.map_take]
theorem its_len (l : List Ch) : (its l).length = l.length := by simp [its]
theorem chIR_vals (cs : List ChR) : vals (cs.map chIR) = its (cvals cs) := by unfold vals its cvals; rw [List.map_map, List.map_map]; rfl
def appErr (a : List It) (l : List Ch) : Int := if validBag a = true ∧ validCs l = true then toldErr (after a (its l)) else 1
def appVal (a : List It) (l : List Ch) : List It := if validBag a = true ∧ validCs l = true then toldVal (after a (its l)) else []
theorem okC_is {c : Ch} (h : okC c = true) : inT c.1 ∧ validRow c.2.1 = true ∧ inN c.2.2 := by
  unfold okC chgOK at h
  simpa using h

/-- A copy of a bag, in memory of its own. -/
def CloneBPost (w : World) (rs : List ItR) (e : Ending) (w' : World) : Prop := ∃ v, e = .returned v ∧ w'.ownsRow w.heap.size 60 2 v rs.length (flatI rs) ∧ Below w.heap.size w w'
set_option maxRecDepth 100000 in
set_option maxHeartbeats 1000000 in
theorem cloneB_any (p : Option Addr) (rs : List ItR) (cap : Nat) (hm : rs.length ≤ 100000) (w : World) (hX : ItemsIn w p rs) (hz : p = none → cap = 0) :
    Calls Tryz.prog 36 #[.slice p rs.length cap] w (CloneBPost w rs) := by
  have q22 : ∀ (w : World) (a : Option Addr) (n c : Nat), (binOp .eql 23 (.slice a n c) (.slice none 0 0)).run Tryz.prog w = .ok (.bool a.isNone) w := fun w a n c => Lib.run_eql_slice_nil w _ _ a n c 0 0 Tryz.underlying23
  cases p with
  | none =>
    have hx0 : rs = [] := by
      cases rs with
      | nil => rfl
      | cons x xs => obtain ⟨_, _, e, _⟩ := hX (by simp); cases e
    subst hx0
    clear hX hz
    go_enter Tryz.func36, Tryz.ntmps36
    go_wp2_with fail
    go_ret
    exact ⟨_, rfl, World.ownsRow_nil _ _ _ _, Below.refl _ _⟩
  | some ad =>
    have hbA : Below w.heap.size w (w.alloc (.cells #[] 60)) := (Below.refl _ _).alloc (Nat.le_refl _) _
    have hown : (w.alloc (.cells #[] 60)).ownsRow w.heap.size 60 2 (.slice (some ⟨w.heap.size, 0, none⟩) 0 0) 0 [] := World.ownsRow_made w #[] 0 (Nat.le_refl _) (Nat.zero_le _) rfl
    have HX := Lib.hid (hX.belowV hbA)
    have HOW := Lib.hid hown
    obtain ⟨i0, hi, hz0, hz1, hz2⟩ := info_parts infoI
    have HCE := Lib.hid (show ∀ (j : Nat) (u : Value), (flatI rs)[j]? = some u → (w.alloc (.cells #[] 60)).cell? (ad.add j) = some u from by
      intro j u hu
      have hj : j < rs.length * 2 := by rw [← flatI_len]; exact (List.getElem?_eq_some_iff.1 hu).1
      obtain ⟨b, off, e, _, hra⟩ := HX.out (by omega)
      cases e
      rw [Go.WideShapes.add_plain]
      obtain ⟨g0, g1⟩ := flatI_get rs (j / 2) (by omega)
      obtain ⟨c0, c1, _⟩ := hra (j / 2) (by omega)
      have h2 : j % 2 = 0 ∨ j % 2 = 1 := by omega
      rcases h2 with h2 | h2
      · have e : j / 2 * 2 = j := by omega
        rw [e] at g0 c0
        rw [c0, ← hu, g0]
      · have e : j / 2 * 2 + 1 = j := by omega
        rw [Nat.add_assoc, e] at c1
        rw [e] at g1
        rw [c1, ← hu, g1])
    have HONE := Lib.hid (show ∀ u ∈ flatI rs, u.oneCell' = true from by
      intro u hu
      simp only [flatI, List.mem_flatMap, cellsI, List.mem_cons, List.not_mem_nil, or_false] at hu
      obtain ⟨y, _, rfl | rfl⟩ := hu <;> rfl)
    clear hX hz hown
    go_enter Tryz.func36, Tryz.ntmps36
    go_wp2_with (at_builtin; refine wpList_append_own _ rfl _ _ 23 rfl w.heap.size 60 i0 (.agg #[.slice none 0 0, .int .i64 0]) 2 32 Tryz.underlying23 hi hz0 hz1 hz2 rfl (by decide) _ 0 [] rfl HOW.out ad rs.length cap (flatI rs) rfl (flatI_len rs) HCE.out HONE.out (by unfold maxLen; omega) (by omega) (by simp) ?_; intro v' w5 hown' hgrow _)
    go_ret
    exact ⟨v', rfl, by simpa using hown', hbA.grown hgrow (by simp) (fun k e => (HOW.out.lt k e).1)⟩

theorem appNo {a : List It} {l : List Ch} (h : ¬ (validBag a = true ∧ validCs l = true)) : appErr a l = 1 ∧ appVal a l = [] := by unfold appErr appVal; rw [if_neg h, if_neg h]; exact ⟨rfl, rfl⟩
theorem appYes {a : List It} {l : List Ch} (h : validBag a = true ∧ validCs l = true) : appErr a l = toldErr (after a (its l)) ∧ appVal a l = toldVal (after a (its l)) := by unfold appErr appVal; rw [if_pos h, if_pos h]; exact ⟨rfl, rfl⟩
theorem flatI_chIR {L : List ItR} (x : ChR) : flatI (L ++ [chIR x]) = flatI L ++ cellsI (chIR x) := by simp [flatI]
theorem map_next {cs : List ChR} {i : Nat} (h : i < cs.length) : (cs.take (i + 1)).map chIR = (cs.take i).map chIR ++ [chIR (cs[i]?.getD cr0)] := by
  rw [List.take_succ_eq_append_getElem h, List.map_append, List.getElem?_eq_getElem h]; rfl
theorem rowB_of_chg {w : World} {p : Option Addr} {cs : List ChR} (h : ChgIn w p cs) : ∀ z ∈ cs, RowB w.heap.size w z.2.1 := fun z hz => by
  obtain ⟨i, hi, rfl⟩ := List.getElem_of_mem hz
  obtain ⟨b, off, _, _, hr⟩ := h (by omega)
  have := (hr i hi).2.2.2
  rw [List.getElem?_eq_getElem hi] at this
  exact RowB.of_ok this.1 this.2

set_option maxRecDepth 100000 in
set_option maxHeartbeats 2000000 in
theorem Apply_yes (p q : Option Addr) (rs : List ItR) (cs : List ChR) (c d : Nat) (hm1 : rs.length ≤ 400) (hc : rs.length ≤ c) (w : World) (hX : ItemsIn w p rs) (hz : p = none → c = 0) (hY : ChgIn w q cs) (hT : Tab w.heap.size w)
    (q1 : validBag (vals rs) = true) (q2 : validCs (cvals cs) = true) :
    Calls Tryz.prog 11 #[.slice p rs.length c, .slice q cs.length d] w (BagPost w.heap.size w (toldVal (after (vals rs) (its (cvals cs)))) (toldErr (after (vals rs) (its (cvals cs))))) := by
  have hcl : cs.length ≤ 400 := by have := (validCs_iff.1 q2).1; rwa [cvals_len] at this
  have hfin : after [] (vals (rs ++ cs.map chIR)) = after (vals rs) (its (cvals cs)) := by rw [vals_app, chIR_vals, after_app, after_bag (asc_of_valid q1)]
  have hvx : ∀ r ∈ rs ++ cs.map chIR, validRow r.1.2.1 = true ∧ -1000000 ≤ r.2 ∧ r.2 ≤ 1000000 := fun r hr => by
    rcases List.mem_append.1 hr with hr | hr
    · have := itOK_iff.1 ((validBag_iff.1 q1).2.1 (itv r) (mem_vals hr))
      exact ⟨this.1, this.2.2.1, this.2.2.2⟩
    · obtain ⟨x, hx, rfl⟩ := List.mem_map.1 hr
      have := okC_is ((validCs_iff.1 q2).2 (chv x) (List.mem_map_of_mem hx))
      exact ⟨this.2.1, this.2.2.2.1, this.2.2.2.2⟩
  have hrb : ∀ r ∈ rs ++ cs.map chIR, RowB w.heap.size w r.1 := fun r hr => by
    rcases List.mem_append.1 hr with hr | hr
    · exact rowB_of_items hX r hr
    · obtain ⟨x, hx, rfl⟩ := List.mem_map.1 hr
      exact rowB_of_chg hY x hx
  have h1 := bagValid_any p rs c (by omega) hc w hX
  have h2 := fun W (h : Below w.heap.size w W) => bagVCs_any q cs d (by omega) W (hY.belowV h)
  rw [q1] at h1
  rw [q2] at h2
  rw [← hfin]
  have H1 := Lib.hid h1
  have H2 := Lib.hid h2
  have H3 := Lib.hid fun W (h : Below w.heap.size w W) => cloneB_any p rs c (by omega) W (hX.belowV h) hz
  have HY := Lib.hid hY
  have HV := Lib.hid hvx
  have HR := Lib.hid hrb
  have HT := Lib.hid hT
  obtain ⟨i0, hi, hz0, hz1, hz2⟩ := info_parts infoI
  clear h1 h2 hX hY hz hvx hrb hT q1 q2 hfin
  go_enter Tryz.func11, Tryz.ntmps11
  go_wp2_with fail
  refine H1.out.mono ?_
  rintro e w1 ⟨rfl, hb1⟩
  go_wp2_with fail
  refine (H2.out _ hb1).mono ?_
  rintro e w2 ⟨rfl, hb2⟩
  have hB2 : Below w.heap.size w w2 := hb1.trans (hb2.mono hb1.size)
  clear hb1 hb2
  go_wp2_with fail
  refine (H3.out _ hB2).mono ?_
  rintro e w3 ⟨v3, rfl, hown3, hb3⟩
  have hB3 : Below w.heap.size w w3 := hB2.trans (hb3.mono hB2.size)
  have hown := ownsRow_base hown3 hB2.size
  clear hb3 hown3 hB2
  go_wp2_with fail
  go_loopw [6, 21] (fun tv s wr => ∃ (i m : Nat) (L : List ItR), s = .int .i64 i ∧ i ≤ cs.length ∧ m ≤ rs.length + i ∧ Hid (m = L.length) ∧ Hid (L = rs ++ (cs.take i).map chIR) ∧ wr.ownsRow w.heap.size 60 2 tv m (flatI L) ∧ Below w.heap.size w wr) (fun _ s _ => cs.length - (intOf s).toNat)
  case atStart => exact ⟨0, rs.length, rs, rfl, Nat.zero_le _, by omega, rfl, (by show _ = _; simp), hown, hB3⟩
  case round =>
    clear hown hB3
    obtain ⟨i, m, L, rfl, hi', hml, hmL, hL, hown, hB⟩ := hrel
    have hBs := hB.size
    by_cases hlt : i < cs.length
    · obtain ⟨b, off, rfl, hbl, hra⟩ := HY.out (by omega)
      obtain ⟨c0, c1, c2, _, _⟩ := (hra.belowV hB hbl) i hlt
      have hi0 : (0 : Int) ≤ (i : Int) := by omega
      have hi1 : (i : Int) < (cs.length : Int) := by omega
      have HNX := Lib.hid (show L ++ [chIR (cs[i]?.getD cr0)] = rs ++ (cs.take (i + 1)).map chIR by rw [hL.out, map_next hlt, List.append_assoc])
      have HML := Lib.hid (show m + 1 = (L ++ [chIR (cs[i]?.getD cr0)]).length by rw [List.length_append, ← hmL.out]; rfl)
      have HFL := Lib.hid (show flatI (L ++ [chIR (cs[i]?.getD cr0)]) = flatI L ++ cellsI (chIR (cs[i]?.getD cr0)) from flatI_chIR _)
      clear hra hL hmL
      generalize (cs[i]?.getD cr0) = x at *
      obtain ⟨xt, ⟨xq, xs, xc⟩, xn⟩ := x
      dsimp only [rowv, chIR] at *
      have hown1 := hown.alloc (.cells #[.int .i64 xt, .slice xq xs.length xc, .int .i64 xn] 40)
      have hbA : Below w.heap.size w ((wr.alloc (.cells #[.int .i64 xt, .slice xq xs.length xc, .int .i64 xn] 40)).alloc (.cells #[.slice xq xs.length xc, .int .i64 xn] 60)) := (hB.alloc hBs _).alloc (by simp; omega) _
      have HLT := Lib.hid fun k e => (hown.lt k e).1
      have hcn := cells_two_new (wr.alloc (.cells #[.int .i64 xt, .slice xq xs.length xc, .int .i64 xn] 40)) (.slice xq xs.length xc) (.int .i64 xn) 60
      rw [show (wr.alloc (.cells #[.int .i64 xt, .slice xq xs.length xc, .int .i64 xn] 40)).heap.size = wr.heap.size + 1 by simp] at hcn
      have HCN := Lib.hid hcn
      clear hcn
      go_wp2_with (at_builtin; refine wpList_append_own _ rfl _ _ 23 rfl w.heap.size 60 i0 (.agg #[.slice none 0 0, .int .i64 0]) 2 32 Tryz.underlying23 hi hz0 hz1 hz2 rfl (by decide) _ m (flatI L) rfl (hown1.alloc _) ⟨wr.heap.size + 1, 0, none⟩ 1 1 (cellsI ((xq, xs, xc), xn)) rfl rfl HCN.out (by simp [cellsI, rowv, Value.oneCell']) (by unfold maxLen; omega) (by omega) (by simp; omega) ?_; intro v' w5 hown' hgrow _; have hB5 : Below w.heap.size w w5 := hbA.grown hgrow (by simp; omega) HLT.out)
      go_roundw
      case rel => exact ⟨i + 1, m + 1, L ++ [((xq, xs, xc), xn)], by go_num, by omega, by omega, HML.out, HNX.out, (by rw [HFL.out]; exact hown'), hB5⟩
      case measure => simp [intOf]; omega
    · have hge : (cs.length : Int) ≤ (i : Int) := by omega
      have hie : i = cs.length := by omega
      have hL2 : L = rs ++ cs.map chIR := by have := hL.out; rwa [hie, List.take_length] at this
      rw [← hL2] at HV HR
      have HLE := Lib.hid hL2
      obtain rfl := hmL.out
      obtain ⟨p', c', rfl, hnc⟩ := slice_of_own hown
      have hI : ItemsIn wr p' L := items_of_own rfl hown fun r hr => ⟨((HR.out r hr).below hB).okW hBs, (HR.out r hr).2.1⟩
      have HG := Lib.hid (gatheredBag_any w.heap.size p' L c' (by omega) (fun r hr => (HV.out r hr).1) (fun r hr => (HV.out r hr).2) wr hBs hI (HT.out.up hB hBs))
      clear hie hL hL2 hI hown hmL
      go_wp2_with fail
      refine HG.out.mono ?_
      rintro e w9 ⟨p9, s9, c9, rfl, h1, h2, h3, h4, h5⟩
      have HH := Lib.hid (And.intro h1 (And.intro h2 (And.intro h3 (And.intro h4 h5))))
      clear h1 h2 h3 h4 h5
      go_wp2_with fail
      go_ret2
      obtain rfl := HLE.out
      exact ⟨p9, s9, c9, rfl, HH.out.1, HH.out.2.1, HH.out.2.2.1, HH.out.2.2.2.1, hB.trans HH.out.2.2.2.2⟩

set_option maxRecDepth 100000 in
theorem Apply_any (p q : Option Addr) (rs : List ItR) (cs : List ChR) (c d : Nat) (hm : rs.length ≤ 9223372036854775807) (hm2 : cs.length ≤ 9223372036854775807) (hc : rs.length ≤ c) (w : World) (hX : ItemsIn w p rs) (hz : p = none → c = 0) (hY : ChgIn w q cs) (hT : Tab w.heap.size w) :
    Calls Tryz.prog 11 #[.slice p rs.length c, .slice q cs.length d] w (BagPost w.heap.size w (appVal (vals rs) (cvals cs)) (appErr (vals rs) (cvals cs))) := by
  have h1 := bagValid_any p rs c hm hc w hX
  have h2 := fun W (h : Below w.heap.size w W) => bagVCs_any q cs d hm2 W (hY.belowV h)
  cases q1 : validBag (vals rs) with
  | false =>
    obtain ⟨e1, e2⟩ := appNo (a := vals rs) (l := cvals cs) (fun h => by rw [q1] at h; exact absurd h.1 (by decide))
    rw [e1, e2]
    rw [q1] at h1
    have H1 := Lib.hid h1
    clear h1 h2 hX hY hz hT q1 e1 e2
    go_enter Tryz.func11, Tryz.ntmps11
    go_wp2_with fail
    refine H1.out.mono ?_
    rintro e w1 ⟨rfl, hb1⟩
    go_wp2_with fail
    go_ret2
    exact bagPost_nil hb1
  | true =>
    cases q2 : validCs (cvals cs) with
    | false =>
      obtain ⟨e1, e2⟩ := appNo (a := vals rs) (l := cvals cs) (fun h => by rw [q2] at h; exact absurd h.2 (by decide))
      rw [e1, e2]
      rw [q1] at h1
      rw [q2] at h2
      have H1 := Lib.hid h1
      have H2 := Lib.hid h2
      clear h1 h2 hX hY hz hT q1 q2 e1 e2
      go_enter Tryz.func11, Tryz.ntmps11
      go_wp2_with fail
      refine H1.out.mono ?_
      rintro e w1 ⟨rfl, hb1⟩
      go_wp2_with fail
      refine (H2.out _ hb1).mono ?_
      rintro e w2 ⟨rfl, hb2⟩
      have hB2 := hb1.trans (hb2.mono hb1.size)
      go_wp2_with fail
      go_ret2
      exact bagPost_nil hB2
    | true =>
      obtain ⟨e1, e2⟩ := appYes (a := vals rs) (l := cvals cs) ⟨q1, q2⟩
      rw [e1, e2]
      exact Apply_yes p q rs cs c d (by have := (validBag_iff.1 q1).1; rwa [vals_len] at this) hc w hX hz hY hT q1 q2
#print axioms Apply_any
end Go.Proofs.YthoimepdioeckaaGreatDoor
