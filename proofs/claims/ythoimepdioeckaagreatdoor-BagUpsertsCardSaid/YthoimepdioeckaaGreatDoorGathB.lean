/-
  What gathered items come to as a bag: the same as their rows put in one after the other. gatheredBag, as a contract.
-/
import Derived.Test.YthoimepdioeckaaGreatDoorGatI
import Derived.Test.YthoimepdioeckaaGreatDoorPlus
namespace Go.Proofs.YthoimepdioeckaaGreatDoor
open Go.RowKit

def sumC (l : List It) (q : List Val) : Int := (l.map fun x => if cmpRow x.1 q = 0 then x.2 else 0).sum
theorem sumC_cons (x : It) (l : List It) (q : List Val) : sumC (x :: l) q = (if cmpRow x.1 q = 0 then x.2 else 0) + sumC l q := by unfold sumC; rw [List.map_cons, List.sum_cons]
theorem sumC_app (l m : List It) (q : List Val) : sumC (l ++ m) q = sumC l q + sumC m q := by unfold sumC; rw [List.map_append, List.sum_append]
theorem sumC_perm {l m : List It} (h : l.Perm m) (q : List Val) : sumC l q = sumC m q := by
  induction h with
  | nil => rfl
  | cons x _ ih => rw [sumC_cons, sumC_cons, ih]
  | swap x y l => rw [sumC_cons, sumC_cons, sumC_cons, sumC_cons, Int.add_left_comm]
  | trans _ _ h1 h2 => rw [h1, h2]
theorem sumC_above {l : List It} {q : List Val} (h : ∀ x ∈ l, cmpRow x.1 q ≠ 0) : sumC l q = 0 := by
  induction l with
  | nil => rfl
  | cons x l ih => rw [sumC_cons, if_neg (h x (by simp)), ih fun y hy => h y (by simp [hy])]; rfl
theorem sumC_up {l : List It} (h : Up l) (q : List Val) : sumC l q = cnt l q := by
  induction l with
  | nil => rfl
  | cons x l ih =>
    rw [sumC_cons, cnt]
    by_cases e : cmpRow x.1 q = 0
    · rw [if_pos e, if_pos e, ih (up_tail h), cnt_head h e]; omega
    · rw [if_neg e, if_neg e, ih (up_tail h)]; omega
def after (a l : List It) : List It := l.foldl (fun o x => put o x.1 x.2) a
theorem after_app (a l m : List It) : after a (l ++ m) = after (after a l) m := by unfold after; rw [List.foldl_append]
theorem after_next {a l : List It} {i : Nat} (h : i < l.length) : after a (l.take (i + 1)) = put (after a (l.take i)) (l[i]?.getD it0).1 (l[i]?.getD it0).2 := by
  rw [List.take_succ_eq_append_getElem h, after_app]; unfold after; simp [h]
theorem after_asc {a l : List It} (ha : Asc a) (hl : ∀ x ∈ l, validRow x.1 = true) : Asc (after a l) := by
  induction l generalizing a with
  | nil => exact ha
  | cons x l ih => exact ih (put_asc ha (hl x (by simp))) fun z hz => hl z (by simp [hz])
theorem after_cnt {a l : List It} (ha : Up a) (q : List Val) : cnt (after a l) q = cnt a q + sumC l q := by
  induction l generalizing a with
  | nil => simp [after, sumC]
  | cons x l ih =>
    show cnt (after (put a x.1 x.2) l) q = _
    rw [ih (put_up ha), put_cnt ha, sumC_cons]; omega
theorem after_bag {a : List It} (ha : Asc a) : after [] a = a :=
  bag_ext (after_asc nil_asc fun x hx => (ha.1 x hx).1) ha fun q => by rw [after_cnt nil_asc.2, sumC_up ha.2]; simp [cnt]
theorem after_perm {a l m : List It} (ha : Asc a) (hl : ∀ x ∈ l, validRow x.1 = true) (h : l.Perm m) : after a l = after a m :=
  bag_ext (after_asc ha hl) (after_asc ha fun x hx => hl x (h.mem_iff.2 hx)) fun q => by rw [after_cnt ha.2, after_cnt ha.2, sumC_perm h]

theorem vals_app1 (l : List ItR) (x : ItR) : vals (l ++ [x]) = vals l ++ [itv x] := by simp [vals]
theorem gstepI_sum {acc : List ItR} {x : ItR} (hd : Diff rowI acc) (q : List Val) : sumC (vals (gstep rowI togI acc x)) q = sumC (vals acc) q + if cmpRow (rowI x) q = 0 then x.2 else 0 := by
  by_cases hh : ∃ z ∈ acc, rowI z = rowI x
  · obtain ⟨z, hz, e⟩ := hh
    rw [gstep_yes hz e]
    induction acc with
    | nil => cases hz
    | cons y l ih =>
      have hd' := List.pairwise_cons.1 hd
      have hc : ∀ (u : ItR) (m : List ItR), sumC (vals (u :: m)) q = (if cmpRow (rowI u) q = 0 then u.2 else 0) + sumC (vals m) q := fun u m => sumC_cons (itv u) (vals m) q
      rw [List.map_cons, hc, hc]
      rcases List.mem_cons.1 hz with rfl | hz
      · have hl : l.map (fun y => if rowI y = rowI x then togI y x else y) = l := by
          rw [List.map_congr_left (g := id) (fun u hu => by rw [if_neg (fun e2 => hd'.1 u hu (e.trans e2.symm))]; rfl), List.map_id]
        rw [hl, if_pos e, togI_row, e]
        by_cases er : cmpRow (rowI x) q = 0
        · rw [if_pos er, if_pos er, if_pos er]
          show z.2 + x.2 + _ = _
          omega
        · rw [if_neg er, if_neg er, if_neg er]; omega
      · have := ih hd'.2 hz
        have hyx : ¬ rowI y = rowI x := fun e2 => hd'.1 z hz (e2.trans e.symm)
        rw [if_neg hyx, this, Int.add_assoc]
  · rw [gstep_no (fun z hz e => hh ⟨z, hz, e⟩), vals_app1, sumC_app]
    congr 1
    unfold sumC
    simp [itv]
theorem gathI_sum (rs : List ItR) (q : List Val) : sumC (vals (gath rowI togI rs)) q = sumC (vals rs) q := by
  unfold gath
  have : ∀ (l acc : List ItR), Diff rowI acc → sumC (vals (l.foldl (gstep rowI togI) acc)) q = sumC (vals acc) q + sumC (vals l) q := by
    intro l
    induction l with
    | nil => intro acc _; simp [vals, sumC]
    | cons x l ih =>
      intro acc hd
      rw [List.foldl_cons, ih _ (gstep_diff togI_row hd), gstepI_sum hd]
      have : sumC (vals (x :: l)) q = (if cmpRow (rowI x) q = 0 then x.2 else 0) + sumC (vals l) q := sumC_cons (itv x) (vals l) q
      omega
  rw [this rs [] List.Pairwise.nil]; simp [vals, sumC]
theorem gathI_up {rs zs : List ItR} (hv : ∀ r ∈ rs, validRow (rowI r) = true) (hp : zs.Perm (gath rowI togI rs)) (hs : zs.Pairwise fun x y => 0 ≤ cmpRow y.1.2.1 x.1.2.1) : Up (vals zs) ∧ ∀ z ∈ zs, validRow (rowI z) = true := by
  have hvz : ∀ z ∈ zs, validRow (rowI z) = true := fun z hz => by
    obtain ⟨x, hx, e⟩ := gath_rows togI_row rs z (hp.mem_iff.1 hz)
    rw [e]; exact hv x hx
  have hd : Diff rowI zs := by
    have := gath_diff (tog := togI) togI_row rs
    unfold Diff at *
    exact (hp.pairwise_iff (fun {a b} h => Ne.symm h)).2 this
  refine ⟨?_, hvz⟩
  unfold Up vals
  rw [List.pairwise_map]
  have h2 := List.pairwise_iff_getElem.1 hs
  have h3 := List.pairwise_iff_getElem.1 hd
  refine List.pairwise_iff_getElem.2 fun i j hi hj hij => ?_
  have a := h2 i j hi hj hij
  have b := h3 i j hi hj hij
  show cmpRow (rowI zs[i]) (rowI zs[j]) < 0
  have c := cmpRow_ok.anti (rowI zs[i]) (rowI zs[j])
  have d : cmpRow (rowI zs[i]) (rowI zs[j]) ≠ 0 := fun e => b (row_eq (hvz _ (List.getElem_mem hi)) (hvz _ (List.getElem_mem hj)) e)
  have a' : 0 ≤ cmpRow (rowI zs[j]) (rowI zs[i]) := a
  omega
theorem gathI_bag {rs zs : List ItR} (hv : ∀ r ∈ rs, validRow (rowI r) = true) (hp : zs.Perm (gath rowI togI rs)) (hs : zs.Pairwise fun x y => 0 ≤ cmpRow y.1.2.1 x.1.2.1) : nz (vals zs) = after [] (vals rs) := by
  obtain ⟨hu, hvz⟩ := gathI_up hv hp hs
  have hv2 : ∀ x ∈ vals rs, validRow x.1 = true := fun x hx => by
    obtain ⟨r, hr, rfl⟩ := List.mem_map.1 hx
    exact hv r hr
  refine bag_ext ⟨fun x hx => ?_, nz_up hu⟩ (after_asc nil_asc hv2) fun q => ?_
  · have h1 := List.mem_filter.1 hx
    obtain ⟨z, hz, rfl⟩ := List.mem_map.1 h1.1
    exact ⟨hvz z hz, by simpa using h1.2⟩
  · rw [nz_cnt hu, after_cnt nil_asc.2, ← sumC_up hu, ← gathI_sum rs]
    have := sumC_perm (hp.map itv) q
    unfold vals
    rw [this]; simp [cnt]

set_option maxRecDepth 100000 in
theorem gatheredBag_any (B : Nat) (p : Option Addr) (rs : List ItR) (c : Nat) (hm : rs.length ≤ 100000) (hval : ∀ r ∈ rs, validRow r.1.2.1 = true) (hbd : ∀ r ∈ rs, -1000000 ≤ r.2 ∧ r.2 ≤ 1000000) (w : World) (hB : B ≤ w.heap.size) (hX : ItemsIn w p rs) (hT : Tab w.heap.size w) :
    Calls Tryz.prog 37 #[.slice p rs.length c] w (BagPost B w (toldVal (after [] (vals rs))) (toldErr (after [] (vals rs)))) := by
  have hg := gatheredI_any p rs c hm hval hbd w hX hT
  have hrb := rowB_of_items hX
  have HG := Lib.hid hg
  have HR := Lib.hid (And.intro hrb (And.intro hval hm))
  clear hg hrb hX hT hval hbd hm
  go_enter Tryz.func37, Tryz.ntmps37
  go_wp2_with fail
  refine HG.out.mono ?_
  rintro e w1 ⟨v, zs, rfl, hp, hs, hrow, hb⟩
  have he := gathI_bag HR.out.2.1 hp hs
  have hlz : zs.length ≤ 1000000 := by have := hp.length_eq; have := gath_len (row := rowI) (tog := togI) rs; have := HR.out.2.2; omega
  have ha := asBag_any w.heap.size v zs hlz w1 hb.size hrow (fun z hz => by
    obtain ⟨x, hx, e⟩ := gathI_from rs z (hp.mem_iff.1 hz)
    rw [e]
    exact (HR.out.1 x hx).below hb)
  rw [he] at ha
  have HA := Lib.hid ha
  clear he ha hp hs hrow hlz
  go_wp2_with fail
  refine HA.out.mono ?_
  rintro e w2 ⟨⟨p2, s2, c2, rfl, h1, h2, h3, h4, h5⟩, _⟩
  have HH := Lib.hid (And.intro h1 (And.intro h2 (And.intro h3 (And.intro h4 h5))))
  clear h1 h2 h3 h4 h5
  go_wp2_with fail
  go_ret2
  exact ⟨p2, s2, c2, rfl, HH.out.1, HH.out.2.1, HH.out.2.2.1, HH.out.2.2.2.1, (hb.mono hB).trans (HH.out.2.2.2.2.mono hB)⟩
#print axioms gatheredBag_any
end Go.Proofs.YthoimepdioeckaaGreatDoor
