/-
  PROVED HERE: for every bag (any items at all), every list of changes and every list of columns the law BagUpserts returns true: Upserts of package bag answers as the document's own, and twice with the same changes is once. Its arguments read afterwards as before. Condition: the three listed tables hold what the program's text lays in them.
-/
import Derived.Test.YthoimepdioeckaaGreatDoorPjA
import Derived.Test.YthoimepdioeckaaGreatDoorApply
import Derived.Deep.RegionHeld3
import Derived.Test.YthoimepdioeckaaGreatDoorTogI
import Derived.Test.YthoimepdioeckaaGreatDoorCmpD
import Derived.Test.YthoimepdioeckaaGreatDoorSortI
import Derived.Test.YthoimepdioeckaaGreatDoorCollI
import Derived.RangeFuncKeeps
import Derived.Test.YthoimepdioeckaaGreatDoorTaken
import Derived.Test.YthoimepdioeckaaGreatDoorMapI
import Derived.Sort.KeysCollected
import Derived.Test.YthoimepdioeckaaGreatDoorPlus
import Derived.Lib.AppendZeros
import Derived.Test.YthoimepdioeckaaGreatDoorProg
import Derived.Shelf.Sort.Plain
import Derived.Shelf.Slices.CompactI
import Derived.Ground.NamesProg
import Derived.Ground.Names2Prog
import Derived.Sort.OwnSorted
import Derived.Deep.AppendLies
import Derived.Test.YthoimepdioeckaaGreatDoorFewC
import Derived.Test.YthoimepdioeckaaGreatDoorSameB
import Derived.Test.YthoimepdioeckaaGreatDoorWake
import Derived.Test.YthoimepdioeckaaGreatDoorGatI
import Derived.Test.YthoimepdioeckaaGreatDoorCards
import Derived.Test.YthoimepdioeckaaGreatDoorDoor
/-!
  What Upserts of the document comes to: plain facts.
-/
namespace Go.Proofs.YthoimepdioeckaaGreatDoor
open Go.RowKit

/-- Two rows have one key. -/
def oneKey (key : List Int) (a b : List Val) : Bool := cmpRow (pick a key) (pick b key) == 0
/-- The bag without the rows of a key. -/
def without (key : List Int) (r : List Val) (o : List It) : List It := o.filter fun x => !oneKey key x.1 r
def ups1 (key : List Int) (o : List It) (c : Ch) : List It := if 0 < c.2.2 then put (without key c.2.1 o) c.2.1 1 else without key c.2.1 o
def ups (key : List Int) (o : List It) (l : List Ch) : List It := l.foldl (ups1 key) o
theorem ups_next {key : List Int} {o : List It} {l : List Ch} {i : Nat} (h : i < l.length) : ups key o (l.take (i + 1)) = ups1 key (ups key o (l.take i)) (l[i]?.getD ch0) := by
  rw [List.take_succ_eq_append_getElem h, List.getElem?_eq_getElem h]; unfold ups; rw [List.foldl_append]; rfl
theorem without_asc {key : List Int} {r : List Val} {o : List It} (h : Asc o) : Asc (without key r o) := by
  unfold without
  exact ⟨fun x hx => h.1 x (List.mem_filter.1 hx).1, h.2.filter _⟩
theorem without_len (key : List Int) (r : List Val) (o : List It) : (without key r o).length ≤ o.length := List.length_filter_le _ _
theorem without_next {key : List Int} {r : List Val} {o : List It} {i : Nat} (h : i < o.length) : without key r (o.take (i + 1)) = without key r (o.take i) ++ if oneKey key (o[i]?.getD it0).1 r = true then [] else [o[i]?.getD it0] := by
  rw [List.take_succ_eq_append_getElem h, List.getElem?_eq_getElem h]
  unfold without
  rw [List.filter_append]
  cases e : oneKey key (o[i]).1 r <;> simp [e]
theorem without_two {key : List Int} {r : List Val} {o : List It} {i : Nat} (h : i < o.length) : (oneKey key (o[i]?.getD it0).1 r = true → without key r (o.take (i + 1)) = without key r (o.take i)) ∧ (oneKey key (o[i]?.getD it0).1 r = false → without key r (o.take (i + 1)) = without key r (o.take i) ++ [o[i]?.getD it0]) := by
  rw [without_next h]
  exact ⟨fun e => by rw [if_pos e, List.append_nil], fun e => by rw [if_neg (by rw [e]; decide)]⟩
theorem ups1_asc {key : List Int} {o : List It} {c : Ch} (h : Asc o) (hc : validRow c.2.1 = true) : Asc (ups1 key o c) := by
  unfold ups1
  split
  · exact put_asc (without_asc h) hc
  · exact without_asc h
theorem ups_asc {key : List Int} {l : List Ch} {o : List It} (h : Asc o) (hl : ∀ c ∈ l, validRow c.2.1 = true) : Asc (ups key o l) := by
  induction l generalizing o with
  | nil => exact h
  | cons c l ih => exact ih (ups1_asc h (hl c (by simp))) fun d hd => hl d (by simp [hd])
theorem ups1_len (key : List Int) (o : List It) (c : Ch) : (ups1 key o c).length ≤ o.length + 1 := by
  unfold ups1
  have := without_len key c.2.1 o
  split
  · have := put_len (without key c.2.1 o) c.2.1 1; omega
  · omega
theorem ups_len (key : List Int) (l : List Ch) (o : List It) : (ups key o l).length ≤ o.length + l.length := by
  induction l generalizing o with
  | nil => simp [ups]
  | cons c l ih =>
    have h1 := ih (ups1 key o c)
    have h2 := ups1_len key o c
    show (ups key (ups1 key o c) l).length ≤ _
    simp only [List.length_cons]; omega
/-- All rows, of bag and changes, have the columns of the key. -/
def keyOK (key : List Int) (b : List It) (l : List Ch) : Bool := decide (0 < key.length) && okCols key (commN (b ++ its l))
def upsErr (b : List It) (l : List Ch) (key : List Int) : Int := if validBag b = true ∧ validCs l = true then (if keyOK key b l = true then toldErr (ups key b l) else 7) else 1
def upsVal (b : List It) (l : List Ch) (key : List Int) : List It := if (validBag b = true ∧ validCs l = true) ∧ keyOK key b l = true then toldVal (ups key b l) else []
theorem upsNo {b : List It} {l : List Ch} {key : List Int} (h : ¬ (validBag b = true ∧ validCs l = true)) : upsErr b l key = 1 ∧ upsVal b l key = [] := by
  unfold upsErr upsVal
  rw [if_neg h, if_neg (fun hh => h hh.1)]
  exact ⟨rfl, rfl⟩
end Go.Proofs.YthoimepdioeckaaGreatDoor

/-!
  Upserts of the document, as a contract.
-/
namespace Go.Proofs.YthoimepdioeckaaGreatDoor
open Go.RowKit

set_option maxRecDepth 100000 in
set_option maxHeartbeats 4000000 in
theorem PlusL_any (p q : Option Addr) (rs ss : List ItR) (c d : Nat) (n : Int) (hm : rs.length + ss.length ≤ 1000) (w : World) (hX : ItemsIn w p rs) (hzp : p = none → c = 0) (hZ : ItemsIn w q ss)
    (hua : Asc (vals rs)) (hba : Bd 0 (vals rs)) (hvb : ∀ x ∈ vals ss, validRow x.1 = true ∧ -1000000000000 ≤ n * x.2 ∧ n * x.2 ≤ 1000000000000) :
    Calls Tryz.prog 45 #[.slice p rs.length c, .slice q ss.length d, .int .i64 n] w (PutPost w (plus (vals rs) (vals ss) n) 1000) := by
  have HX := Lib.hid hX
  have HZ := Lib.hid hZ
  have HZP := Lib.hid hzp
  have HA := Lib.hid (And.intro hua hba)
  have HV := Lib.hid hvb
  clear hX hZ hzp hua hba hvb
  go_enter Tryz.func45, Tryz.ntmps45
  go_wp2_with (at_builtin; refine wpList_append_items rfl _ _ rfl w.heap.size rfl p rs c rfl HX.out HZP.out (by omega) (Nat.le_refl _) ?_; intro v1 w1 hown1 hb1)
  obtain ⟨p1, c1, rfl, hc1⟩ := slice_of_own hown1
  have hi1 : ItemsIn w1 p1 rs := items_of_own rfl hown1 fun r hr => by
    obtain ⟨k, hk, rfl⟩ := List.getElem_of_mem hr
    obtain ⟨b, off, _, hbl, hra⟩ := HX.out (by omega)
    have := ((hra.belowV hb1 hbl) k hk).2.2
    rw [List.getElem?_eq_getElem hk] at this
    exact this
  have hz1 : p1 = none → c1 = 0 := fun e => by subst e; rcases hown1.2 with ⟨e, _⟩ | ⟨_, _, _, e, _⟩ <;> simp at e; exact e.2
  clear hown1
  go_loopw [7, 8] (fun o s wr => ∃ (i : Nat) (p' : Option Addr) (os : List ItR) (c' : Nat), o = .slice p' os.length c' ∧ s = .int .i64 i ∧ i ≤ ss.length ∧ Hid (vals os = plus (vals rs) ((vals ss).take i) n) ∧ Hid (Asc (vals os) ∧ Bd i (vals os)) ∧ os.length ≤ c' ∧ os.length ≤ rs.length + i ∧ ItemsIn wr p' os ∧ Hid (p' = none → c' = 0) ∧ Below w.heap.size w wr) (fun _ s _ => ss.length - (intOf s).toNat)
  case atStart => exact ⟨0, p1, rs, c1, rfl, rfl, Nat.zero_le _, rfl, HA.out, hc1, by omega, hi1, hz1, hb1⟩
  case round =>
    clear hi1 hb1 hc1 hz1
    obtain ⟨i, p', os, c', rfl, rfl, hi, hvo, hbo, hoc, hol, hio, hzo, hB⟩ := hrel
    by_cases hlt : i < ss.length
    · obtain ⟨b, off, rfl, hbl, hra⟩ := HZ.out (by omega)
      obtain ⟨c0, c1', c2, c3⟩ := (hra.belowV hB hbl) i hlt
      have hi0 : (0 : Int) ≤ (i : Int) := by omega
      have hi1 : (i : Int) < (ss.length : Int) := by omega
      have hmem : itv (ss[i]?.getD ir0) ∈ vals ss := mem_vals (by rw [List.getElem?_eq_getElem hlt]; exact List.getElem_mem hlt)
      have hok := HV.out _ hmem
      have hnx := plus_next (a := vals rs) (n := n) (show i < (vals ss).length by rw [vals_len]; exact hlt)
      rw [vals_get, ← hvo.out] at hnx
      clear hra hmem
      generalize (ss[i]?.getD ir0) = x at *
      obtain ⟨⟨xq, xs, xc⟩, xn⟩ := x
      dsimp only [rowv, itv] at c0 c1' c2 c3 hok hnx
      have hmb := hok.2
      have hwr : IntKind.i64.wrap (n * xn) = n * xn := IntWalk.i64_in _ (by omega)
      have hwr2 : wrap64 (n * xn) = n * xn := IntWalk.wrap64_in _ (by omega)
      have HP := Lib.hid fun W (h : Below wr.heap.size wr W) => Put_any p' xq os c' xs xc (n * xn) (by omega) hbo.out.1.2 (fun r hr => by
          have := hbo.out.2 _ (mem_vals hr)
          unfold big
          simp only [itv] at this
          omega) (by unfold big; omega) (fun r hr => by have := row_len (hbo.out.1.1 _ (mem_vals hr)).1; simp only [itv] at this; omega) (by have := row_len hok.1; omega) W (hio.belowV h) (c2.belowV h).2 c3
      have HNX := Lib.hid hnx
      have HAS := Lib.hid (show Asc (put (vals os) xs (n * xn)) ∧ Bd (i + 1) (put (vals os) xs (n * xn)) from ⟨put_asc hbo.out.1 hok.1, hbo.out.2.put hok.1 hmb.1 hmb.2⟩)
      clear hnx hok hmb c2 c3 hio
      go_wp2_with fail
      go_still_tail 13, (by kernel_rfl)
      have hB2 : Below w.heap.size w wr.drew := hB.drew
      have hB3 : Below wr.heap.size wr wr.drew := (Below.refl _ _).drew
      clear c0 c1'
      change wpList _ _ _ _ _ wr.drew
      generalize wr.drew = W7 at hB2 hB3 ⊢
      clear hwr hwr2
      go_wp2_with fail
      refine (HP.out _ hB3).mono ?_
      rintro e w3 ⟨p3, os3, c3, rfl, hv3, hoc3, hol3, hi3, hz3, hb3⟩
      have HV3 := Lib.hid hv3
      have HZ3 := Lib.hid hz3
      clear hv3 hz3
      go_wp2_with fail
      go_roundw
      case rel => exact ⟨i + 1, p3, os3, c3, rfl, by go_num, by omega, (by show _ = _; rw [HNX.out, HV3.out]), (by show _ ∧ _; rw [HV3.out]; exact HAS.out), hoc3, by omega, hi3, HZ3.out, hB2.trans (hb3.mono hB2.size)⟩
      case measure => simp [intOf]; omega
    · have hge : (ss.length : Int) ≤ (i : Int) := by omega
      have hie : i = ss.length := by omega
      have HF := Lib.hid (show vals os = plus (vals rs) (vals ss) n by have := hvo.out; rwa [hie, ← vals_len ss, List.take_length] at this)
      clear hie
      go_wp2_with fail
      go_ret
      exact ⟨p', os, c', rfl, HF.out, hoc, by omega, hio, hzo.out, hB⟩


/-! ### The columns of a key -/
def in8 (t : Int) : Bool := decide (0 ≤ t ∧ t ≤ 7)
theorem keyOK_eq (key : List Int) (b : List It) (l : List Ch) : keyOK key b l = (((decide (0 < key.length) && key.all in8) && b.all fun x => okCols key x.1.length) && (its l).all fun x => okCols key x.1.length) := by
  have h : okCols key (commN (b ++ its l)) = (key.all in8 && (b ++ its l).all fun x => okCols key x.1.length) := by
    rw [Bool.eq_iff_iff, Bool.and_eq_true, List.all_eq_true, List.all_eq_true]
    unfold okCols in8
    simp only [List.all_eq_true, decide_eq_true_eq]
    constructor
    · intro h
      refine ⟨fun t ht => ?_, fun x hx t ht => ?_⟩
      · have h1 := h t ht; have h2 := commN_le (b ++ its l); omega
      · have h1 := h t ht; have h2 := commN_row hx; omega
    · rintro ⟨h1, h2⟩ t ht
      have h3 := h1 t ht
      obtain ⟨n, rfl⟩ : ∃ n : Nat, t = (n : Int) := Int.eq_ofNat_of_zero_le h3.1
      have := (commN_lt (b ++ its l) n).2 ⟨by omega, fun x hx => by have := h2 x hx _ ht; omega⟩
      omega
  unfold keyOK
  rw [h, List.all_append]
  simp only [Bool.and_assoc]
theorem all_next {α : Type} {f : α → Bool} {l : List α} {i : Nat} (d : α) (h : i < l.length) : (l.take (i + 1)).all f = ((l.take i).all f && f (l[i]?.getD d)) := by
  rw [List.take_succ_eq_append_getElem h, List.getElem?_eq_getElem h, List.all_append]; simp

set_option maxRecDepth 100000 in
set_option maxHeartbeats 1000000 in
theorem has_any (p q : Option Addr) (xs : List Val) (key : List Int) (c d : Nat) (hmx : xs.length ≤ 1000000000) (hmk : key.length ≤ 9223372036854775807) (w : World) (hC : IntsIn w q key) :
    Calls Tryz.prog 80 #[.slice p xs.length c, .slice q key.length d] w fun e w' => e = .returned (.bool (okCols key xs.length)) ∧ w = w' := by
  have HC := Lib.hid hC
  have HW := Lib.hid fun (t : Int) W => refWithin_any t 0 ((xs.length : Int) - 1) W
  clear hC
  go_enter Tryz.func80, Tryz.ntmps80
  go_wp2_with fail
  go_loop [5] (fun s => ∃ i : Nat, s = .int .i64 i ∧ i ≤ key.length ∧ Hid (okCols (key.take i) xs.length = true)) (fun s => key.length - (intOf s).toNat)
  case atStart => exact ⟨0, rfl, Nat.zero_le _, rfl⟩
  case round =>
    obtain ⟨i, rfl, hi, hv⟩ := hrel
    by_cases hlt : i < key.length
    · obtain ⟨b, off, rfl, hbl, hra⟩ := HC.out (by omega)
      have c0 := hra i hlt
      have hnx := okCols_next (n := xs.length) hlt
      rw [hv.out, Bool.true_and] at hnx
      have hi0 : (0 : Int) ≤ (i : Int) := by omega
      have hi1 : (i : Int) < (key.length : Int) := by omega
      have hwr : IntKind.i64.wrap ((xs.length : Int) - 1) = (xs.length : Int) - 1 := IntWalk.i64_in _ (by omega)
      have hwr2 : wrap64 ((xs.length : Int) - 1) = (xs.length : Int) - 1 := IntWalk.wrap64_in _ (by omega)
      clear hra
      generalize key[i]?.getD 0 = t at c0 hnx
      have hw := HW.out t
      have e : decide (0 ≤ t ∧ t ≤ (xs.length : Int) - 1) = decide (0 ≤ t ∧ t < (xs.length : Int)) := decide_eq_decide.2 (by omega)
      rw [e, ← hnx] at hw
      clear e
      cases hq : okCols (key.take (i + 1)) xs.length with
      | true =>
        rw [hq] at hw
        have HW2 := Lib.hid hw
        have HN := Lib.hid hq
        clear hw hnx hq
        go_wp2_with fail
        refine (HW2.out _).mono ?_
        rintro e w2 ⟨rfl, rfl⟩
        go_wp2_with fail
        go_round
        case rel => exact ⟨i + 1, by go_num, by omega, HN.out⟩
        case measure => simp [intOf]; omega
      | false =>
        rw [hq] at hw
        have HW2 := Lib.hid hw
        have HN := Lib.hid (okCols_stop hq)
        clear hw hnx hq
        go_wp2_with fail
        refine (HW2.out _).mono ?_
        rintro e w2 ⟨rfl, rfl⟩
        go_wp2_with fail
        go_ret
        exact ⟨retB HN.out.symm, rfl⟩
    · have hge : key.length ≤ i := by omega
      have hie : i = key.length := by omega
      have HALL := Lib.hid (show okCols key xs.length = true by have := hv.out; rwa [hie, List.take_length] at this)
      clear hie
      go_wp2_with fail
      go_ret
      exact ⟨retB HALL.out.symm, rfl⟩
end Go.Proofs.YthoimepdioeckaaGreatDoor

/-!
  Upserts of the document, as a contract.
-/
namespace Go.Proofs.YthoimepdioeckaaGreatDoor
open Go.RowKit

theorem items_in_of {W : World} {B n cap : Nat} {p q : Option Addr} {os ts : List ItR} (hn : n = ts.length) (h : W.ownsRow B 60 2 (.slice p n cap) n (flatI ts)) (hi : ItemsIn W q os) (hs : ∀ r ∈ ts, r ∈ os) : ItemsIn W p ts :=
  items_of_own hn h fun r hr => by
    obtain ⟨k, hk, e⟩ := List.getElem_of_mem (hs r hr)
    obtain ⟨b, off, _, _, hra⟩ := hi (by omega)
    have := (hra k hk).2.2
    rw [List.getElem?_eq_getElem hk, e] at this
    exact this
theorem plus_one {a : List It} (h : Asc a) : plus [] a 1 = a := by
  have e : plus [] a 1 = after [] a := by unfold plus after; simp [Int.one_mul]
  rw [e, after_bag h]
theorem without_bd {k : Nat} {key : List Int} {r : List Val} {o : List It} (h : Bd k o) : Bd k (without key r o) := fun x hx => h x (List.mem_filter.1 hx).1

set_option maxRecDepth 100000 in
set_option maxHeartbeats 8000000 in
theorem refUpserts_yes (p o q : Option Addr) (rs : List ItR) (cs : List ChR) (key : List Int) (c k d : Nat) (hm : rs.length ≤ 400) (hm2 : cs.length ≤ 400) (hc : rs.length ≤ c) (hmk : key.length ≤ 1000) (w : World) (hX : ItemsIn w p rs) (hz : p = none → c = 0) (hL : ChgIn w o cs) (hC : IntsIn w q key)
    (q1 : validBag (vals rs) = true) (q2 : validCs (cvals cs) = true) :
    Calls Tryz.prog 28 #[.slice p rs.length c, .slice o cs.length k, .slice q key.length d] w (BagPost w.heap.size w (upsVal (vals rs) (cvals cs) key) (upsErr (vals rs) (cvals cs) key)) := by
  have h1 := refBagValid_any p rs c (by omega) w hX
  have h2 := fun W (h : Below w.heap.size w W) => refVCs_any o cs k (by omega) W (hL.belowV h)
  rw [q1] at h1
  rw [q2] at h2
  have hvr : ∀ r ∈ rs, validRow r.1.2.1 = true := fun r hr => (itOK_iff.1 ((validBag_iff.1 q1).2.1 _ (mem_vals hr))).1
  have hvc : ∀ r ∈ cs, validRow r.2.1.2.1 = true := fun r hr => (okC_is ((validCs_iff.1 q2).2 (chv r) (List.mem_map_of_mem hr))).2.1
  have H1 := Lib.hid h1
  have H2 := Lib.hid h2
  have HX := Lib.hid hX
  have HZ := Lib.hid hz
  have HL := Lib.hid hL
  have HC := Lib.hid hC
  have HVR := Lib.hid hvr
  have HVC := Lib.hid hvc
  have HQ := Lib.hid (And.intro q1 q2)
  have HA := Lib.hid (And.intro (asc_of_valid q1) (bd_of_valid q1))
  have HW := Lib.hid fun (t : Int) W => refWithin_any t 0 7 W
  have hk0 : decide (0 < (key.length : Int)) = decide (0 < key.length) := decide_eq_decide.2 (by omega)
  have HKE := Lib.hid (keyOK_eq key (vals rs) (cvals cs))
  obtain ⟨i0, hii, hz0, hz1, hz2⟩ := info_parts infoI
  clear h1 h2 hX hz hL hC hvr hvc q1 q2
  generalize hkl : decide (0 < key.length) = kl at hk0 HKE
  have HKL := Lib.hid hkl
  clear hkl
  go_enter Tryz.func28, Tryz.ntmps28
  go_wp2_with fail
  refine H1.out.mono ?_
  rintro e w1 ⟨rfl, hb1⟩
  go_wp2_with fail
  refine (H2.out _ hb1).mono ?_
  rintro e w2 ⟨rfl, hb2⟩
  have hB2 : Below w.heap.size w w2 := hb1.trans (hb2.mono hb1.size)
  clear hb1 hb2 H1 H2
  go_wp2_with fail
  go_loopw [8, 9] (fun f s wr => ∃ i : Nat, f = .bool (kl && (key.take i).all in8) ∧ s = .int .i64 i ∧ i ≤ key.length ∧ Below w.heap.size w wr) (fun _ s _ => key.length - (intOf s).toNat)
  case atStart => exact ⟨0, by simp; exact HKL.out, rfl, Nat.zero_le _, hB2⟩
  case round =>
    clear hB2 hk0
    obtain ⟨i, rfl, rfl, hi, hB⟩ := hrel
    by_cases hlt : i < key.length
    · obtain ⟨b, off, rfl, hbl, hra⟩ := HC.out (by omega)
      have c0 := (hra.belowV hB hbl) i hlt
      have hi0 : (0 : Int) ≤ (i : Int) := by omega
      have hi1 : (i : Int) < (key.length : Int) := by omega
      have hnx := all_next (f := in8) 0 hlt
      clear hra
      generalize key[i]?.getD 0 = t at c0 hnx
      have hw := HW.out t
      rw [show decide (0 ≤ t ∧ t ≤ 7) = in8 t from rfl] at hw
      generalize hf : (kl && (key.take i).all in8) = f
      have hnx2 : (kl && (key.take (i + 1)).all in8) = (f && in8 t) := by rw [hnx, ← hf, Bool.and_assoc]
      generalize in8 t = g at hw hnx2
      have HWT := Lib.hid hw
      have HNX := Lib.hid hnx2
      clear hw hnx hnx2 hf
      cases f with
      | true =>
        go_wp2_with fail
        refine (HWT.out _).mono ?_
        rintro e w3 ⟨rfl, rfl⟩
        go_wp2_with fail
        go_roundw
        case rel => exact ⟨i + 1, by rw [HNX.out]; rfl, by go_num, by omega, hB⟩
        case measure => simp [intOf]; omega
      | false =>
        go_wp2_with fail
        go_roundw
        case rel => exact ⟨i + 1, by rw [HNX.out]; rfl, by go_num, by omega, hB⟩
        case measure => simp [intOf]; omega
    · have hge : (key.length : Int) ≤ (i : Int) := by omega
      have hie : i = key.length := by omega
      rw [show key.take i = key by rw [hie, List.take_length]]
      generalize hK1 : (kl && key.all in8) = k1
      rw [hK1] at HKE
      clear hie hK1
      go_wp2_with fail
      go_loopw [8, 10] (fun f s wr => ∃ i : Nat, f = .bool (k1 && ((vals rs).take i).all fun x => okCols key x.1.length) ∧ s = .int .i64 i ∧ i ≤ rs.length ∧ Below w.heap.size w wr) (fun _ s _ => rs.length - (intOf s).toNat)
      case atStart => exact ⟨0, by simp, rfl, Nat.zero_le _, hB⟩
      case round =>
        clear hB hge
        obtain ⟨i, rfl, rfl, hi, hB⟩ := hrel
        by_cases hlt : i < rs.length
        · obtain ⟨b, off, rfl, hbl, hra⟩ := HX.out (by omega)
          obtain ⟨c0, _, c2, _⟩ := (hra.belowV hB hbl) i hlt
          have hi0 : (0 : Int) ≤ (i : Int) := by omega
          have hi1 : (i : Int) < (rs.length : Int) := by omega
          have hvx := HVR.out (rs[i]?.getD ir0) (by rw [List.getElem?_eq_getElem hlt]; exact List.getElem_mem hlt)
          have hnx := all_next (f := fun x : It => okCols key x.1.length) it0 (show i < (vals rs).length by rw [vals_len]; exact hlt)
          rw [vals_get] at hnx
          clear hra
          generalize (rs[i]?.getD ir0) = x at *
          obtain ⟨⟨xq, xs, xc⟩, xn⟩ := x
          dsimp only [rowv, itv] at c0 c2 hvx hnx
          have hl8 := row_len hvx
          have hw := fun W (h : Below w.heap.size w W) => has_any xq q xs key xc d (by omega) (by omega) W (HC.out.belowV h)
          generalize hf : (k1 && ((vals rs).take i).all fun x => okCols key x.1.length) = f
          have hnx2 : (k1 && ((vals rs).take (i + 1)).all fun x => okCols key x.1.length) = (f && okCols key xs.length) := by rw [hnx, ← hf, Bool.and_assoc]
          generalize okCols key xs.length = g at hw hnx2
          have HWT := Lib.hid hw
          have HNX := Lib.hid hnx2
          clear hw hnx hnx2 hf c2 hvx
          cases f with
          | true =>
            go_wp2_with fail
            refine (HWT.out _ hB).mono ?_
            rintro e w3 ⟨rfl, rfl⟩
            go_wp2_with fail
            go_roundw
            case rel => exact ⟨i + 1, by rw [HNX.out]; rfl, by go_num, by omega, hB⟩
            case measure => simp [intOf]; omega
          | false =>
            go_wp2_with fail
            go_roundw
            case rel => exact ⟨i + 1, by rw [HNX.out]; rfl, by go_num, by omega, hB⟩
            case measure => simp [intOf]; omega
        · have hge : (rs.length : Int) ≤ (i : Int) := by omega
          have hie : i = rs.length := by omega
          rw [show (vals rs).take i = vals rs by rw [hie, ← vals_len rs, List.take_length]]
          generalize hK2 : (k1 && (vals rs).all fun x => okCols key x.1.length) = k2
          rw [hK2] at HKE
          clear hie hK2
          go_wp2_with fail
          go_loopw [8, 11] (fun f s wr => ∃ i : Nat, f = .bool (k2 && ((its (cvals cs)).take i).all fun x => okCols key x.1.length) ∧ s = .int .i64 i ∧ i ≤ cs.length ∧ Below w.heap.size w wr) (fun _ s _ => cs.length - (intOf s).toNat)
          case atStart => exact ⟨0, by simp, rfl, Nat.zero_le _, hB⟩
          case round =>
            clear hB hge
            obtain ⟨i, rfl, rfl, hi, hB⟩ := hrel
            by_cases hlt : i < cs.length
            · obtain ⟨b, off, rfl, hbl, hra⟩ := HL.out (by omega)
              obtain ⟨_, c0, _, c2, _⟩ := (hra.belowV hB hbl) i hlt
              have hi0 : (0 : Int) ≤ (i : Int) := by omega
              have hi1 : (i : Int) < (cs.length : Int) := by omega
              have hvx := HVC.out (cs[i]?.getD cr0) (by rw [List.getElem?_eq_getElem hlt]; exact List.getElem_mem hlt)
              have hit : (its (cvals cs))[i]?.getD it0 = chI (chv (cs[i]?.getD cr0)) := by
                rw [← cvals_get]; unfold its; rw [List.getElem?_map]
                cases (cvals cs)[i]? <;> rfl
              have hnx := all_next (f := fun x : It => okCols key x.1.length) it0 (show i < (its (cvals cs)).length by rw [its_len, cvals_len]; exact hlt)
              rw [hit] at hnx
              clear hra hit
              generalize (cs[i]?.getD cr0) = x at *
              obtain ⟨xt, ⟨xq, xs, xc⟩, xn⟩ := x
              dsimp only [rowv, chv, chI] at c0 c2 hvx hnx
              have hl8 := row_len hvx
              have hw := fun W (h : Below w.heap.size w W) => has_any xq q xs key xc d (by omega) (by omega) W (HC.out.belowV h)
              generalize hf : (k2 && ((its (cvals cs)).take i).all fun x => okCols key x.1.length) = f
              have hnx2 : (k2 && ((its (cvals cs)).take (i + 1)).all fun x => okCols key x.1.length) = (f && okCols key xs.length) := by rw [hnx, ← hf, Bool.and_assoc]
              generalize okCols key xs.length = g at hw hnx2
              have HWT := Lib.hid hw
              have HNX := Lib.hid hnx2
              clear hw hnx hnx2 hf c2 hvx
              cases f with
              | true =>
                go_wp2_with fail
                refine (HWT.out _ hB).mono ?_
                rintro e w3 ⟨rfl, rfl⟩
                go_wp2_with fail
                go_roundw
                case rel => exact ⟨i + 1, by rw [HNX.out]; rfl, by go_num, by omega, hB⟩
                case measure => simp [intOf]; omega
              | false =>
                go_wp2_with fail
                go_roundw
                case rel => exact ⟨i + 1, by rw [HNX.out]; rfl, by go_num, by omega, hB⟩
                case measure => simp [intOf]; omega
            · have hge : (cs.length : Int) ≤ (i : Int) := by omega
              have hie : i = cs.length := by omega
              rw [show (its (cvals cs)).take i = its (cvals cs) by rw [hie, ← cvals_len cs, ← its_len, List.take_length]]
              rw [← HKE.out]
              clear hie
              cases hko : keyOK key (vals rs) (cvals cs) with
              | false =>
                have HE := Lib.hid (show upsErr (vals rs) (cvals cs) key = 7 ∧ upsVal (vals rs) (cvals cs) key = [] by
                  unfold upsErr upsVal
                  rw [if_pos HQ.out, hko, if_neg (by decide), if_neg (fun h => absurd h.2 (by decide))]
                  exact ⟨rfl, rfl⟩)
                clear hko HKE
                go_wp2_with fail
                go_ret2
                rw [HE.out.1, HE.out.2]
                exact bagPost_nil hB
              | true =>
                have HE := Lib.hid (show upsErr (vals rs) (cvals cs) key = toldErr (ups key (vals rs) (cvals cs)) ∧ upsVal (vals rs) (cvals cs) key = toldVal (ups key (vals rs) (cvals cs)) by
                  unfold upsErr upsVal
                  rw [if_pos HQ.out, if_pos hko, if_pos ⟨HQ.out, hko⟩]
                  exact ⟨rfl, rfl⟩)
                have hok : (key.length ≠ 0) ∧ ∀ x ∈ vals rs ++ its (cvals cs), okCols key x.1.length = true := by
                  rw [keyOK_eq, Bool.and_eq_true, Bool.and_eq_true, Bool.and_eq_true, List.all_eq_true, List.all_eq_true, List.all_eq_true, decide_eq_true_eq] at hko
                  refine ⟨by have := hko.1.1.1; omega, fun x hx => ?_⟩
                  rcases List.mem_append.1 hx with hx | hx
                  · exact hko.1.2 x hx
                  · exact hko.2 x hx
                have HOK := Lib.hid hok
                clear hko HKE hok
                go_wp2_with fail
                have hin : ∀ x ∈ vals rs, okCols key x.1.length = true := fun x hx => HOK.out.2 x (List.mem_append_left _ hx)
                have hb0 : ∀ x ∈ vals rs, validRow x.1 = true ∧ -(1000000 + ((0 : Nat) : Int)) ≤ x.2 ∧ x.2 ≤ 1000000 + ((0 : Nat) : Int) := fun x hx => by
                  have := itOK_iff.1 ((validBag_iff.1 HQ.out.1).2.1 x hx)
                  exact ⟨this.1, by have := this.2.2.1; omega, by have := this.2.2.2; omega⟩
                have hx0 := HX.out.belowV hB
                go_loopw [12, 13, 14, 15] (fun o2 s _ _ wr => ∃ (i : Nat) (p' : Option Addr) (os : List ItR) (c' : Nat), o2 = .slice p' os.length c' ∧ s = .int .i64 i ∧ i ≤ cs.length ∧ Hid (vals os = ups key (vals rs) ((cvals cs).take i)) ∧ Hid (Asc (vals os)) ∧ Hid (∀ x ∈ vals os, validRow x.1 = true ∧ -(1000000 + (i : Int)) ≤ x.2 ∧ x.2 ≤ 1000000 + (i : Int)) ∧ Hid (∀ x ∈ vals os, okCols key x.1.length = true) ∧ os.length ≤ c' ∧ os.length ≤ rs.length + i ∧ ItemsIn wr p' os ∧ Hid (p' = none → c' = 0) ∧ Below w.heap.size w wr) (fun _ s _ _ _ => cs.length - (intOf s).toNat)
                case atStart => exact ⟨0, p, rs, c, rfl, rfl, Nat.zero_le _, rfl, HA.out.1, hb0, hin, hc, by omega, hx0, HZ.out, hB⟩
                case round =>
                  clear hin hb0 hx0 hB hge
                  obtain ⟨i, p', os, c', rfl, rfl, hi, hvo, hao, hbo, hko, hoc, hol, hio, hzo, hB⟩ := hrel
                  obtain ⟨wb, hwb⟩ : ∃ wb : World, wb = wr := ⟨_, rfl⟩
                  subst hwb
                  by_cases hlt : i < cs.length
                  · obtain ⟨b, off, rfl, hbl, hra⟩ := HL.out (by omega)
                    obtain ⟨_, e1, e2, e3, e4⟩ := (hra.belowV hB hbl) i hlt
                    have hbb : b < wb.heap.size := Nat.lt_of_lt_of_le hbl hB.size
                    have hi0 : (0 : Int) ≤ (i : Int) := by omega
                    have hi1 : (i : Int) < (cs.length : Int) := by omega
                    have hmem : cs[i]?.getD cr0 ∈ cs := by rw [List.getElem?_eq_getElem hlt]; exact List.getElem_mem hlt
                    have hvy := HVC.out _ hmem
                    have hoy : okCols key (cs[i]?.getD cr0).2.1.2.1.length = true := HOK.out.2 (chI (chv (cs[i]?.getD cr0))) (List.mem_append_right _ (List.mem_map_of_mem (List.mem_map_of_mem hmem)))
                    have hnx := ups_next (key := key) (o := vals rs) (show i < (cvals cs).length by rw [cvals_len]; exact hlt)
                    rw [cvals_get, ← hvo.out] at hnx
                    clear hra hmem
                    generalize (cs[i]?.getD cr0) = y at *
                    obtain ⟨yt, ⟨yq, ys, yc⟩, yn⟩ := y
                    dsimp only [rowv, chv] at e1 e2 e3 e4 hvy hoy hnx
                    have hl8 := row_len hvy
                    have HNX := Lib.hid hnx
                    have HE3 := Lib.hid e3
                    have HE4 := Lib.hid e4
                    have HIO := Lib.hid hio
                    have HCY := Lib.hid (show ∀ W, Below wb.heap.size wb W → W.cell? ⟨b, off + i * 3 + 1, none⟩ = some (.slice yq ys.length yc) ∧ W.cell? ⟨b, off + i * 3 + 2, none⟩ = some (.int .i64 yn) from fun W h => ⟨(h.cell (p := ⟨b, off + i * 3 + 1, none⟩) hbb).trans e1, (h.cell (p := ⟨b, off + i * 3 + 2, none⟩) hbb).trans e2⟩)
                    have HOY := Lib.hid (And.intro hvy hoy)
                    clear hnx e1 e2 e3 e4 hio hvo hvy hoy
                    go_wp2_with fail
                    go_loopw [14, 15] (fun v s wr => ∃ (j : Nat) (ts : List ItR), s = .int .i64 j ∧ j ≤ os.length ∧ wr.ownsRow wb.heap.size 60 2 v ts.length (flatI ts) ∧ Hid (vals ts = without key ys ((vals os).take j)) ∧ Hid (∀ r ∈ ts, r ∈ os) ∧ ts.length ≤ j ∧ Below wb.heap.size wb wr) (fun _ s _ => os.length - (intOf s).toNat)
                    case atStart => exact ⟨0, [], rfl, Nat.zero_le _, World.ownsRow_nil _ _ _ _, (by show _ = _; simp [vals, without]), (fun r hr => by cases hr), Nat.le_refl _, Below.refl _ _⟩
                    case round =>
                      obtain ⟨j, ts, rfl, hj, hown, hvt, hst, htl, hBi⟩ := hrel
                      obtain ⟨wo, hwo⟩ : ∃ wo : World, wo = wr := ⟨_, rfl⟩
                      subst hwo
                      have hBis := hBi.size
                      obtain ⟨f1, f2⟩ := HCY.out wo hBi
                      by_cases hjl : j < os.length
                      · obtain ⟨b2, off2, rfl, hbl2, hra2⟩ := HIO.out (by omega)
                        obtain ⟨c0, c1, c2, c3⟩ := (hra2.belowV hBi hbl2) j hjl
                        have hbw2 : b2 < wo.heap.size := Nat.lt_of_lt_of_le hbl2 hBis
                        have hbw : b < wo.heap.size := Nat.lt_of_lt_of_le hbb hBis
                        have hj0 : (0 : Int) ≤ (j : Int) := by omega
                        have hj1 : (j : Int) < (os.length : Int) := by omega
                        have hmem : os[j]?.getD ir0 ∈ os := by rw [List.getElem?_eq_getElem hjl]; exact List.getElem_mem hjl
                        have hox := hko.out _ (mem_vals hmem)
                        have hvx := (hbo.out _ (mem_vals hmem)).1
                        have hnx := without_two (key := key) (r := ys) (show j < (vals os).length by rw [vals_len]; exact hjl)
                        rw [vals_get, ← hvt.out] at hnx
                        have HME := Lib.hid hmem
                        clear hra2 hmem
                        generalize (os[j]?.getD ir0) = x at *
                        obtain ⟨⟨xq, xs, xc⟩, xn⟩ := x
                        dsimp only [rowv, itv] at c0 c1 c2 c3 hox hvx hnx
                        have hlx := row_len hvx
                        have HPX := Lib.hid fun W (h : Below wo.heap.size wo W) => Picks_any xq q xs key xc d c2.1 (by omega) W (c2.belowV h).2 (HC.out.belowV (hB.trans ((hBi.trans (h.mono hBis)).mono hB.size))) hox
                        have HPY := Lib.hid fun W (h : Below wo.heap.size wo W) => Picks_any yq q ys key yc d (by omega) (by omega) W (HE3.out.belowV (hBi.trans (h.mono hBis))).2 (HC.out.belowV (hB.trans ((hBi.trans (h.mono hBis)).mono hB.size))) HOY.out.2
                        have HS := Lib.hid (show ∀ w' : World, Below wo.heap.size wo w' → (Below wo.heap.size wo w' ∧ w'.cell? ⟨b2, off2 + j * 2, none⟩ = some (.slice xq xs.length xc) ∧ w'.cell? ⟨b, off + i * 3 + 1, none⟩ = some (.slice yq ys.length yc)) from fun w' hb => ⟨hb, (hb.cell (p := ⟨b2, off2 + j * 2, none⟩) hbw2).trans c0, (hb.cell (p := ⟨b, off + i * 3 + 1, none⟩) hbw).trans f1⟩)
                        have HCC := Lib.hid (show ∀ w' : World, Below wo.heap.size wo w' → (w'.cell? ⟨b2, off2 + j * 2, none⟩ = some (.slice xq xs.length xc) ∧ w'.cell? ⟨b2, off2 + j * 2 + 1, none⟩ = some (.int .i64 xn)) from fun w' hb => ⟨(hb.cell (p := ⟨b2, off2 + j * 2, none⟩) hbw2).trans c0, (hb.cell (p := ⟨b2, off2 + j * 2 + 1, none⟩) hbw2).trans c1⟩)
                        have HNW := Lib.hid hnx
                        have HOWN := Lib.hid hown
                        clear hnx hox hvx c2 c3 hown hvt
                        by_cases h0 : cmpRow (pick xs key) (pick ys key) = 0
                        · have hq : (cmpRow (pick xs key) (pick ys key) != 0) = false := by rw [h0]; rfl
                          have HV2 := Lib.hid (show vals ts = without key ys ((vals os).take (j + 1)) by
                            exact (HNW.out.1 (by unfold oneKey; rw [h0]; rfl)).symm)
                          clear h0
                          go_wp2_with fail
                          refine wp_region_held_drew (S := fun w' : World => Below wo.heap.size wo w' ∧ w'.cell? ⟨b2, off2 + j * 2, none⟩ = some (.slice xq xs.length xc) ∧ w'.cell? ⟨b, off + i * 3 + 1, none⟩ = some (.slice yq ys.length yc)) (by kernel_rfl) (HS.out _ (Below.refl _ _).drew) (fun hHeld => ?_)
                          refine wpAnyH_take (i := 0) (oi := _) (v := ?_) rfl (by kernel_rfl) (by kernel_rfl) (by kernel_rfl) (fun _ _ _ h => h) (Or.inl ⟨by rfl, ?_⟩) (by assumption) ?_
                          rotate_left
                          · intro w hSw
                            try dsimp only at hSw
                            go_simp
                            all_goals with_reducible rfl
                          simp only [List.getElem_toArray, List.getElem_cons_zero, Act.put, List.setIfInBounds_toArray, List.set_cons_zero, List.set_cons_succ]
                          refine wpAnyH_take (i := 1) (oi := _) (v := ?_) rfl (by kernel_rfl) (by kernel_rfl) (by kernel_rfl) (fun _ _ _ h => h) (Or.inl ⟨by rfl, ?_⟩) (by assumption) ?_
                          rotate_left
                          · intro w hSw
                            try dsimp only at hSw
                            go_simp
                            all_goals with_reducible rfl
                          simp only [List.getElem_toArray, List.getElem_cons_succ, List.getElem_cons_zero, Act.put, List.setIfInBounds_toArray, List.set_cons_zero, List.set_cons_succ]
                          refine wpAnyH_take (i := 2) (oi := _) (v := ?_) rfl (by kernel_rfl) (by kernel_rfl) (by kernel_rfl) (fun _ _ _ h => h) (Or.inl ⟨by rfl, ?_⟩) (by assumption) ?_
                          rotate_left
                          · intro w hSw
                            try dsimp only at hSw
                            go_simp
                            all_goals with_reducible rfl
                          simp only [List.getElem_toArray, List.getElem_cons_succ, List.getElem_cons_zero, Act.put, List.setIfInBounds_toArray, List.set_cons_zero, List.set_cons_succ]
                          refine wpAnyH_take (i := 3) (oi := _) (v := ?_) rfl (by kernel_rfl) (by kernel_rfl) (by kernel_rfl) (fun _ _ _ h => h) (Or.inl ⟨by rfl, ?_⟩) (by assumption) ?_
                          rotate_left
                          · intro w hSw
                            try dsimp only at hSw
                            go_simp
                            all_goals with_reducible rfl
                          simp only [List.getElem_toArray, List.getElem_cons_succ, List.getElem_cons_zero, Act.put, List.setIfInBounds_toArray, List.set_cons_zero, List.set_cons_succ]
                          refine wpAnyH_take (i := 4) (oi := _) (v := ?_) rfl (by kernel_rfl) (by kernel_rfl) (by kernel_rfl) (fun _ _ _ h => h) (Or.inl ⟨by rfl, ?_⟩) (by assumption) ?_
                          rotate_left
                          · intro w hSw
                            try dsimp only at hSw
                            go_simp
                            all_goals with_reducible rfl
                          simp only [List.getElem_toArray, List.getElem_cons_succ, List.getElem_cons_zero, Act.put, List.setIfInBounds_toArray, List.set_cons_zero, List.set_cons_succ]
                          refine wpAnyH_take (i := 5) (oi := _) (v := ?_) rfl (by kernel_rfl) (by kernel_rfl) (by kernel_rfl) (fun _ _ _ h => h) (Or.inl ⟨by rfl, ?_⟩) (by assumption) ?_
                          rotate_left
                          · intro w hSw
                            try dsimp only at hSw
                            go_simp
                            all_goals with_reducible rfl
                          simp only [List.getElem_toArray, List.getElem_cons_succ, List.getElem_cons_zero, Act.put, List.setIfInBounds_toArray, List.set_cons_zero, List.set_cons_succ]
                          refine wpAnyH_take (i := 7) (oi := _) (v := ?_) rfl (by kernel_rfl) (by kernel_rfl) (by kernel_rfl) (fun _ _ _ h => h) (Or.inl ⟨by rfl, ?_⟩) (by assumption) ?_
                          rotate_left
                          · intro w hSw
                            try dsimp only at hSw
                            go_simp
                            all_goals with_reducible rfl
                          simp only [List.getElem_toArray, List.getElem_cons_succ, List.getElem_cons_zero, Act.put, List.setIfInBounds_toArray, List.set_cons_zero, List.set_cons_succ]
                          refine wpAnyH_take (i := 8) (oi := _) (v := ?_) rfl (by kernel_rfl) (by kernel_rfl) (by kernel_rfl) (fun _ _ _ h => h) (Or.inl ⟨by rfl, ?_⟩) (by assumption) ?_
                          rotate_left
                          · intro w hSw
                            try dsimp only at hSw
                            go_simp
                            all_goals with_reducible rfl
                          simp only [List.getElem_toArray, List.getElem_cons_succ, List.getElem_cons_zero, Act.put, List.setIfInBounds_toArray, List.set_cons_zero, List.set_cons_succ]
                          refine wpAnyH_take (i := 9) (oi := _) (v := ?_) rfl (by kernel_rfl) (by kernel_rfl) (by kernel_rfl) (fun _ _ _ h => h) (Or.inl ⟨by rfl, ?_⟩) (by assumption) ?_
                          rotate_left
                          · intro w hSw
                            try dsimp only at hSw
                            go_simp
                            all_goals with_reducible rfl
                          simp only [List.getElem_toArray, List.getElem_cons_succ, List.getElem_cons_zero, Act.put, List.setIfInBounds_toArray, List.set_cons_zero, List.set_cons_succ]
                          refine wpAnyH_take (i := 10) (oi := _) (v := ?_) rfl (by kernel_rfl) (by kernel_rfl) (by kernel_rfl) (fun _ _ _ h => h) (Or.inl ⟨by rfl, ?_⟩) (by assumption) ?_
                          rotate_left
                          · intro w hSw
                            try dsimp only at hSw
                            go_simp
                            all_goals with_reducible rfl
                          simp only [List.getElem_toArray, List.getElem_cons_succ, List.getElem_cons_zero, Act.put, List.setIfInBounds_toArray, List.set_cons_zero, List.set_cons_succ]
                          refine wpAnyH_take (i := 11) (oi := _) (v := ?_) rfl (by kernel_rfl) (by kernel_rfl) (by kernel_rfl) (fun _ _ _ h => h) (Or.inl ⟨by rfl, ?_⟩) (by assumption) ?_
                          rotate_left
                          · intro w hSw
                            try dsimp only at hSw
                            go_simp
                            all_goals with_reducible rfl
                          simp only [List.getElem_toArray, List.getElem_cons_succ, List.getElem_cons_zero, Act.put, List.setIfInBounds_toArray, List.set_cons_zero, List.set_cons_succ]
                          refine wpAnyH_take (i := 12) (oi := _) (v := ?_) rfl (by kernel_rfl) (by kernel_rfl) (by kernel_rfl) (fun _ _ _ h => h) (Or.inl ⟨by rfl, ?_⟩) (by assumption) ?_
                          rotate_left
                          · intro w hSw
                            try dsimp only at hSw
                            go_simp
                            all_goals with_reducible rfl
                          simp only [List.getElem_toArray, List.getElem_cons_succ, List.getElem_cons_zero, Act.put, List.setIfInBounds_toArray, List.set_cons_zero, List.set_cons_succ]
                          refine wpAnyH_ready (rs := [6]) (by kernel_rfl) (by simp) ?_
                          refine AllReadyH.cons (o := _) rfl (fun K hK => ?_) AllReadyH.nil
                          go_simp
                          refine (HPX.out _ hHeld.1).mono ?_
                          rintro e u1 ⟨v1, rfl, hown1, kb1⟩
                          obtain ⟨aq, ac, rfl⟩ := slice_of_owns hown1
                          have hU1 : Below wo.heap.size wo u1 := hHeld.1.trans (kb1.mono hHeld.1.size)
                          refine hK.out _ _ (HS.out _ hU1) (fun hHeld1 => ?_)
                          clear kb1 hHeld
                          clear hK K
                          try simp only [List.getElem_toArray, List.getElem_cons_succ, List.getElem_cons_zero, Act.put, List.setIfInBounds_toArray, List.set_cons_zero, List.set_cons_succ]
                          refine wpAnyH_ready (rs := [13]) (by kernel_rfl) (by simp) ?_
                          refine AllReadyH.cons (o := _) rfl (fun K hK => ?_) AllReadyH.nil
                          go_simp
                          refine (HPY.out _ hU1).mono ?_
                          rintro e u2 ⟨v2, rfl, hown2, kb2⟩
                          obtain ⟨bq, bc, rfl⟩ := slice_of_owns hown2
                          have hU2 : Below wo.heap.size wo u2 := hU1.trans (kb2.mono hU1.size)
                          have hown1 := owns_below hown1 kb2
                          have HCM := Lib.hid (refCompare_any aq bq (pick xs key) (pick ys key) ac bc (by rw [pick_len]; omega) (by rw [pick_len]; omega) u2 (valsIn_of_owns hown1) (valsIn_of_owns hown2))
                          refine hK.out _ _ (HS.out _ hU2) (fun hHeld2 => ?_)
                          clear kb2 hHeld1 hU1 hown1 hown2
                          clear hK K
                          try simp only [List.getElem_toArray, List.getElem_cons_succ, List.getElem_cons_zero, Act.put, List.setIfInBounds_toArray, List.set_cons_zero, List.set_cons_succ]
                          refine wpAnyH_ready (rs := [14]) (by kernel_rfl) (by simp) ?_
                          refine AllReadyH.cons (o := _) rfl (fun K hK => ?_) AllReadyH.nil
                          go_simp
                          refine HCM.out.mono ?_
                          rintro e u3 ⟨rfl, kb3⟩
                          have hU3 : Below wo.heap.size wo u3 := hU2.trans (kb3.mono hU2.size)
                          refine hK.out _ _ (HS.out _ hU3) (fun hHeld3 => ?_)
                          clear kb3 hHeld2 hU2 HCM
                          clear hK K
                          try simp only [List.getElem_toArray, List.getElem_cons_succ, List.getElem_cons_zero, Act.put, List.setIfInBounds_toArray, List.set_cons_zero, List.set_cons_succ]
                          refine wpAnyH_take (i := 15) (oi := _) (v := ?_) rfl (by kernel_rfl) (by kernel_rfl) (by kernel_rfl) (fun _ _ _ h => h) (Or.inl ⟨by rfl, ?_⟩) (by assumption) ?_
                          rotate_left
                          · intro w hSw
                            try dsimp only at hSw
                            go_simp
                            all_goals with_reducible rfl
                          simp only [List.getElem_toArray, List.getElem_cons_succ, List.getElem_cons_zero, Act.put, List.setIfInBounds_toArray, List.set_cons_zero, List.set_cons_succ]
                          refine wpAnyH_done (by kernel_rfl) ?_ _
                          clear hHeld3
                          have HO3 := Lib.hid (owns_below HOWN.out hU3)
                          go_wp2_with fail
                          go_roundw
                          case rel => exact ⟨j + 1, ts, by go_num, by omega, HO3.out, HV2.out, hst, by omega, hBi.trans (hU3.mono hBis)⟩
                          case measure => simp [intOf]; omega
                        · have hq : (cmpRow (pick xs key) (pick ys key) != 0) = true := by rw [bne_iff_ne]; exact h0
                          have HV2 := Lib.hid (show vals (ts ++ [((xq, xs, xc), xn)]) = without key ys ((vals os).take (j + 1)) by
                            rw [HNW.out.2 (by unfold oneKey; exact beq_eq_false_iff_ne.2 h0), vals_app1]; rfl)
                          clear h0
                          go_wp2_with fail
                          refine wp_region_held_drew (S := fun w' : World => Below wo.heap.size wo w' ∧ w'.cell? ⟨b2, off2 + j * 2, none⟩ = some (.slice xq xs.length xc) ∧ w'.cell? ⟨b, off + i * 3 + 1, none⟩ = some (.slice yq ys.length yc)) (by kernel_rfl) (HS.out _ (Below.refl _ _).drew) (fun hHeld => ?_)
                          refine wpAnyH_take (i := 0) (oi := _) (v := ?_) rfl (by kernel_rfl) (by kernel_rfl) (by kernel_rfl) (fun _ _ _ h => h) (Or.inl ⟨by rfl, ?_⟩) (by assumption) ?_
                          rotate_left
                          · intro w hSw
                            try dsimp only at hSw
                            go_simp
                            all_goals with_reducible rfl
                          simp only [List.getElem_toArray, List.getElem_cons_zero, Act.put, List.setIfInBounds_toArray, List.set_cons_zero, List.set_cons_succ]
                          refine wpAnyH_take (i := 1) (oi := _) (v := ?_) rfl (by kernel_rfl) (by kernel_rfl) (by kernel_rfl) (fun _ _ _ h => h) (Or.inl ⟨by rfl, ?_⟩) (by assumption) ?_
                          rotate_left
                          · intro w hSw
                            try dsimp only at hSw
                            go_simp
                            all_goals with_reducible rfl
                          simp only [List.getElem_toArray, List.getElem_cons_succ, List.getElem_cons_zero, Act.put, List.setIfInBounds_toArray, List.set_cons_zero, List.set_cons_succ]
                          refine wpAnyH_take (i := 2) (oi := _) (v := ?_) rfl (by kernel_rfl) (by kernel_rfl) (by kernel_rfl) (fun _ _ _ h => h) (Or.inl ⟨by rfl, ?_⟩) (by assumption) ?_
                          rotate_left
                          · intro w hSw
                            try dsimp only at hSw
                            go_simp
                            all_goals with_reducible rfl
                          simp only [List.getElem_toArray, List.getElem_cons_succ, List.getElem_cons_zero, Act.put, List.setIfInBounds_toArray, List.set_cons_zero, List.set_cons_succ]
                          refine wpAnyH_take (i := 3) (oi := _) (v := ?_) rfl (by kernel_rfl) (by kernel_rfl) (by kernel_rfl) (fun _ _ _ h => h) (Or.inl ⟨by rfl, ?_⟩) (by assumption) ?_
                          rotate_left
                          · intro w hSw
                            try dsimp only at hSw
                            go_simp
                            all_goals with_reducible rfl
                          simp only [List.getElem_toArray, List.getElem_cons_succ, List.getElem_cons_zero, Act.put, List.setIfInBounds_toArray, List.set_cons_zero, List.set_cons_succ]
                          refine wpAnyH_take (i := 4) (oi := _) (v := ?_) rfl (by kernel_rfl) (by kernel_rfl) (by kernel_rfl) (fun _ _ _ h => h) (Or.inl ⟨by rfl, ?_⟩) (by assumption) ?_
                          rotate_left
                          · intro w hSw
                            try dsimp only at hSw
                            go_simp
                            all_goals with_reducible rfl
                          simp only [List.getElem_toArray, List.getElem_cons_succ, List.getElem_cons_zero, Act.put, List.setIfInBounds_toArray, List.set_cons_zero, List.set_cons_succ]
                          refine wpAnyH_take (i := 5) (oi := _) (v := ?_) rfl (by kernel_rfl) (by kernel_rfl) (by kernel_rfl) (fun _ _ _ h => h) (Or.inl ⟨by rfl, ?_⟩) (by assumption) ?_
                          rotate_left
                          · intro w hSw
                            try dsimp only at hSw
                            go_simp
                            all_goals with_reducible rfl
                          simp only [List.getElem_toArray, List.getElem_cons_succ, List.getElem_cons_zero, Act.put, List.setIfInBounds_toArray, List.set_cons_zero, List.set_cons_succ]
                          refine wpAnyH_take (i := 7) (oi := _) (v := ?_) rfl (by kernel_rfl) (by kernel_rfl) (by kernel_rfl) (fun _ _ _ h => h) (Or.inl ⟨by rfl, ?_⟩) (by assumption) ?_
                          rotate_left
                          · intro w hSw
                            try dsimp only at hSw
                            go_simp
                            all_goals with_reducible rfl
                          simp only [List.getElem_toArray, List.getElem_cons_succ, List.getElem_cons_zero, Act.put, List.setIfInBounds_toArray, List.set_cons_zero, List.set_cons_succ]
                          refine wpAnyH_take (i := 8) (oi := _) (v := ?_) rfl (by kernel_rfl) (by kernel_rfl) (by kernel_rfl) (fun _ _ _ h => h) (Or.inl ⟨by rfl, ?_⟩) (by assumption) ?_
                          rotate_left
                          · intro w hSw
                            try dsimp only at hSw
                            go_simp
                            all_goals with_reducible rfl
                          simp only [List.getElem_toArray, List.getElem_cons_succ, List.getElem_cons_zero, Act.put, List.setIfInBounds_toArray, List.set_cons_zero, List.set_cons_succ]
                          refine wpAnyH_take (i := 9) (oi := _) (v := ?_) rfl (by kernel_rfl) (by kernel_rfl) (by kernel_rfl) (fun _ _ _ h => h) (Or.inl ⟨by rfl, ?_⟩) (by assumption) ?_
                          rotate_left
                          · intro w hSw
                            try dsimp only at hSw
                            go_simp
                            all_goals with_reducible rfl
                          simp only [List.getElem_toArray, List.getElem_cons_succ, List.getElem_cons_zero, Act.put, List.setIfInBounds_toArray, List.set_cons_zero, List.set_cons_succ]
                          refine wpAnyH_take (i := 10) (oi := _) (v := ?_) rfl (by kernel_rfl) (by kernel_rfl) (by kernel_rfl) (fun _ _ _ h => h) (Or.inl ⟨by rfl, ?_⟩) (by assumption) ?_
                          rotate_left
                          · intro w hSw
                            try dsimp only at hSw
                            go_simp
                            all_goals with_reducible rfl
                          simp only [List.getElem_toArray, List.getElem_cons_succ, List.getElem_cons_zero, Act.put, List.setIfInBounds_toArray, List.set_cons_zero, List.set_cons_succ]
                          refine wpAnyH_take (i := 11) (oi := _) (v := ?_) rfl (by kernel_rfl) (by kernel_rfl) (by kernel_rfl) (fun _ _ _ h => h) (Or.inl ⟨by rfl, ?_⟩) (by assumption) ?_
                          rotate_left
                          · intro w hSw
                            try dsimp only at hSw
                            go_simp
                            all_goals with_reducible rfl
                          simp only [List.getElem_toArray, List.getElem_cons_succ, List.getElem_cons_zero, Act.put, List.setIfInBounds_toArray, List.set_cons_zero, List.set_cons_succ]
                          refine wpAnyH_take (i := 12) (oi := _) (v := ?_) rfl (by kernel_rfl) (by kernel_rfl) (by kernel_rfl) (fun _ _ _ h => h) (Or.inl ⟨by rfl, ?_⟩) (by assumption) ?_
                          rotate_left
                          · intro w hSw
                            try dsimp only at hSw
                            go_simp
                            all_goals with_reducible rfl
                          simp only [List.getElem_toArray, List.getElem_cons_succ, List.getElem_cons_zero, Act.put, List.setIfInBounds_toArray, List.set_cons_zero, List.set_cons_succ]
                          refine wpAnyH_ready (rs := [6]) (by kernel_rfl) (by simp) ?_
                          refine AllReadyH.cons (o := _) rfl (fun K hK => ?_) AllReadyH.nil
                          go_simp
                          refine (HPX.out _ hHeld.1).mono ?_
                          rintro e u1 ⟨v1, rfl, hown1, kb1⟩
                          obtain ⟨aq, ac, rfl⟩ := slice_of_owns hown1
                          have hU1 : Below wo.heap.size wo u1 := hHeld.1.trans (kb1.mono hHeld.1.size)
                          refine hK.out _ _ (HS.out _ hU1) (fun hHeld1 => ?_)
                          clear kb1 hHeld
                          clear hK K
                          try simp only [List.getElem_toArray, List.getElem_cons_succ, List.getElem_cons_zero, Act.put, List.setIfInBounds_toArray, List.set_cons_zero, List.set_cons_succ]
                          refine wpAnyH_ready (rs := [13]) (by kernel_rfl) (by simp) ?_
                          refine AllReadyH.cons (o := _) rfl (fun K hK => ?_) AllReadyH.nil
                          go_simp
                          refine (HPY.out _ hU1).mono ?_
                          rintro e u2 ⟨v2, rfl, hown2, kb2⟩
                          obtain ⟨bq, bc, rfl⟩ := slice_of_owns hown2
                          have hU2 : Below wo.heap.size wo u2 := hU1.trans (kb2.mono hU1.size)
                          have hown1 := owns_below hown1 kb2
                          have HCM := Lib.hid (refCompare_any aq bq (pick xs key) (pick ys key) ac bc (by rw [pick_len]; omega) (by rw [pick_len]; omega) u2 (valsIn_of_owns hown1) (valsIn_of_owns hown2))
                          refine hK.out _ _ (HS.out _ hU2) (fun hHeld2 => ?_)
                          clear kb2 hHeld1 hU1 hown1 hown2
                          clear hK K
                          try simp only [List.getElem_toArray, List.getElem_cons_succ, List.getElem_cons_zero, Act.put, List.setIfInBounds_toArray, List.set_cons_zero, List.set_cons_succ]
                          refine wpAnyH_ready (rs := [14]) (by kernel_rfl) (by simp) ?_
                          refine AllReadyH.cons (o := _) rfl (fun K hK => ?_) AllReadyH.nil
                          go_simp
                          refine HCM.out.mono ?_
                          rintro e u3 ⟨rfl, kb3⟩
                          have hU3 : Below wo.heap.size wo u3 := hU2.trans (kb3.mono hU2.size)
                          refine hK.out _ _ (HS.out _ hU3) (fun hHeld3 => ?_)
                          clear kb3 hHeld2 hU2 HCM
                          clear hK K
                          try simp only [List.getElem_toArray, List.getElem_cons_succ, List.getElem_cons_zero, Act.put, List.setIfInBounds_toArray, List.set_cons_zero, List.set_cons_succ]
                          refine wpAnyH_take (i := 15) (oi := _) (v := ?_) rfl (by kernel_rfl) (by kernel_rfl) (by kernel_rfl) (fun _ _ _ h => h) (Or.inl ⟨by rfl, ?_⟩) (by assumption) ?_
                          rotate_left
                          · intro w hSw
                            try dsimp only at hSw
                            go_simp
                            all_goals with_reducible rfl
                          simp only [List.getElem_toArray, List.getElem_cons_succ, List.getElem_cons_zero, Act.put, List.setIfInBounds_toArray, List.set_cons_zero, List.set_cons_succ]
                          refine wpAnyH_done (by kernel_rfl) ?_ _
                          clear hHeld3
                          have HROW := Lib.hid (owns_below HOWN.out hU3)
                          have hBu := hBi.trans (hU3.mono hBis)
                          have hbu := hBu.size
                          have HLT := Lib.hid fun k e => (HROW.out.lt k e).1
                          obtain ⟨d0, d1⟩ := HCC.out _ hU3
                          clear c0 c1 f1 f2
                          go_wp2_with (at_builtin; refine wpList_append_own _ rfl _ _ 23 rfl wb.heap.size 60 i0 (.agg #[.slice none 0 0, .int .i64 0]) 2 32 Tryz.underlying23 hii hz0 hz1 hz2 rfl (by decide) _ _ _ rfl (HROW.out.alloc _) ⟨u3.heap.size, 0, none⟩ 1 1 (cellsI ((xq, xs, xc), xn)) rfl rfl (cells_new _ _ _) (by simp [cellsI, rowv, Value.oneCell']) (by unfold maxLen; omega) (by omega) (by simp <;> omega) ?_; intro v' w6 hown' hgrow _; have hB6 : Below wb.heap.size wb w6 := (hBu.alloc hbu _).grown hgrow (by simp <;> omega) HLT.out)
                          have HO6 := Lib.hid (show w6.ownsRow wb.heap.size 60 2 v' (ts ++ [((xq, xs, xc), xn)]).length (flatI (ts ++ [((xq, xs, xc), xn)])) by
                            rw [List.length_append, flatI_app]; simpa [flatI] using hown')
                          have HS2 : Hid (∀ r ∈ ts ++ [((xq, xs, xc), xn)], r ∈ os) := (by intro r hr; rcases List.mem_append.1 hr with hr | hr; exact hst.out r hr; rw [List.mem_singleton] at hr; subst hr; exact HME.out)
                          clear hown' hgrow
                          go_wp2_with fail
                          go_roundw
                          case rel => exact ⟨j + 1, ts ++ [((xq, xs, xc), xn)], by go_num, by omega, HO6.out, HV2.out, HS2, (by simp <;> omega), hB6⟩
                          case measure => simp [intOf]; omega
                      · have hge : (os.length : Int) ≤ (j : Int) := by omega
                        have hje : j = os.length := by omega
                        have hvw : vals ts = without key ys (vals os) := by have := hvt.out; rwa [hje, ← vals_len os, List.take_length] at this
                        have hBw : Below w.heap.size w wo := hB.trans (hBi.mono hB.size)
                        obtain ⟨p2, c2, rfl, hc2⟩ := slice_of_own hown
                        have hz2' : p2 = none → c2 = 0 := fun e => by subst e; rcases hown.2 with ⟨e, _⟩ | ⟨_, _, _, e, _⟩ <;> simp at e; exact e.2
                        have hit : ItemsIn wo p2 ts := items_in_of rfl hown (HIO.out.belowV hBi) hst.out
                        have hat : Asc (vals ts) := by rw [hvw]; exact without_asc hao.out
                        have hsub : ∀ x ∈ vals ts, x ∈ vals os := fun x hx => by rw [hvw] at hx; exact (List.mem_filter.1 hx).1
                        have hbt : ∀ x ∈ vals ts, validRow x.1 = true ∧ -(1000000 + (i : Int)) ≤ x.2 ∧ x.2 ≤ 1000000 + (i : Int) := fun x hx => hbo.out x (hsub x hx)
                        have hkt : ∀ x ∈ vals ts, okCols key x.1.length = true := fun x hx => hko.out x (hsub x hx)
                        have hlt2 : ts.length ≤ rs.length + i := by omega
                        by_cases hyn : 0 < yn
                        · have HP := Lib.hid (Put_any p2 yq ts c2 ys yc 1 (by omega) hat.2 (fun r hr => by
                              have := hbt _ (mem_vals hr)
                              unfold big
                              simp only [itv] at this
                              omega) (by unfold big; omega) (fun r hr => by have := row_len (hbt _ (mem_vals hr)).1; simp only [itv] at this; omega) (by omega) wo hit (HE3.out.belowV hBi).2 HE4.out)
                          have HF := Lib.hid (show put (vals ts) ys 1 = ups key (vals rs) ((cvals cs).take (i + 1)) ∧ Asc (put (vals ts) ys 1) ∧ (∀ x ∈ put (vals ts) ys 1, validRow x.1 = true ∧ -(1000000 + ((i + 1 : Nat) : Int)) ≤ x.2 ∧ x.2 ≤ 1000000 + ((i + 1 : Nat) : Int)) ∧ ∀ x ∈ put (vals ts) ys 1, okCols key x.1.length = true by
                            refine ⟨?_, put_asc hat HOY.out.1, fun x hx => ?_, fun x hx => ?_⟩
                            · rw [HNX.out, hvw]; unfold ups1; rw [if_pos (show 0 < (yt, ys, yn).2.2 from hyn)]
                            · rcases put_num x hx with hx | ⟨e, e2⟩
                              · have := hbt x hx; exact ⟨this.1, by omega, by omega⟩
                              · rcases e2 with e2 | ⟨z, hz, e2⟩
                                · exact ⟨by rw [e]; exact HOY.out.1, by omega, by omega⟩
                                · have := hbt z hz; exact ⟨by rw [e]; exact HOY.out.1, by omega, by omega⟩
                            · rcases put_num x hx with hx | ⟨e, _⟩
                              · exact hkt x hx
                              · rw [e]; exact HOY.out.2)
                          clear hje hvt hvw hit hat hsub hbt hkt hown
                          go_wp2_with fail
                          refine HP.out.mono ?_
                          rintro e w7 ⟨p3, os3, c3, rfl, hv3, hoc3, hol3, hi3, hz3, hb3⟩
                          have HV3 := Lib.hid hv3
                          have HZ3 := Lib.hid hz3
                          clear hv3 hz3
                          go_wp2_with fail
                          go_roundw
                          case rel => exact ⟨i + 1, p3, os3, c3, rfl, by go_num, by omega, (by show _ = _; rw [HV3.out]; exact HF.out.1), (by show Asc _; rw [HV3.out]; exact HF.out.2.1), (by show ∀ x ∈ _, _; rw [HV3.out]; exact HF.out.2.2.1), (by show ∀ x ∈ _, _; rw [HV3.out]; exact HF.out.2.2.2), hoc3, by omega, hi3, HZ3.out, hBw.trans (hb3.mono hBw.size)⟩
                          case measure => simp [intOf]; omega
                        · have hyn' : yn ≤ 0 := by omega
                          have HF := Lib.hid (show vals ts = ups key (vals rs) ((cvals cs).take (i + 1)) by rw [HNX.out, hvw]; unfold ups1; rw [if_neg (show ¬ 0 < (yt, ys, yn).2.2 from hyn)])
                          have HB2 := Lib.hid (show ∀ x ∈ vals ts, validRow x.1 = true ∧ -(1000000 + ((i + 1 : Nat) : Int)) ≤ x.2 ∧ x.2 ≤ 1000000 + ((i + 1 : Nat) : Int) from fun x hx => by have := hbt x hx; exact ⟨this.1, by omega, by omega⟩)
                          have HAT := Lib.hid (And.intro hat (And.intro hkt hz2'))
                          have HIT := Lib.hid hit
                          clear hje hvt hvw hit hat hsub hbt hkt hown hyn hz2'
                          go_wp2_with fail
                          go_roundw
                          case rel => exact ⟨i + 1, p2, ts, c2, rfl, by go_num, by omega, HF.out, HAT.out.1, HB2.out, HAT.out.2.1, hc2, by omega, HIT.out, HAT.out.2.2, hBw⟩
                          case measure => simp [intOf]; omega
                  · have hge : (cs.length : Int) ≤ (i : Int) := by omega
                    have hie : i = cs.length := by omega
                    have hV : vals os = ups key (vals rs) (cvals cs) := by have := hvo.out; rwa [hie, ← cvals_len cs, List.take_length] at this
                    have hpl := PlusL_any none p' [] os 0 c' 1 (by simp; omega) wb (fun h => absurd h (by simp)) (fun _ => rfl) hio nil_asc (fun x hx => by cases hx) (fun x hx => by have := hbo.out x hx; exact ⟨this.1, by omega, by omega⟩)
                    rw [show vals ([] : List ItR) = [] from rfl, plus_one hao.out, hV] at hpl
                    have HPL := Lib.hid hpl
                    clear hie hV hpl hvo hio hbo hao hko
                    go_wp2_with fail
                    refine HPL.out.mono ?_
                    rintro e w7 ⟨p3, os3, c3, rfl, hv3, hoc3, hol3, hi3, _, hb3⟩
                    have hB3 : Below w.heap.size w w7 := hB.trans (hb3.mono hB.size)
                    have ht := told_any p3 os3 c3 hoc3 (by omega) w7 hi3
                    rw [hv3, ← HE.out.1, ← HE.out.2] at ht
                    have HT := Lib.hid ht
                    clear ht hv3 hi3 hb3
                    go_wp2_with fail
                    refine HT.out.mono ?_
                    rintro e w8 ⟨p4, s4, c4, rfl, h1, h2, h3, h4, h5⟩
                    have HH := Lib.hid (And.intro h1 (And.intro h2 (And.intro h3 (And.intro h4 h5))))
                    clear h1 h2 h3 h4 h5
                    go_wp2_with fail
                    go_ret2
                    exact ⟨p4, s4, c4, rfl, HH.out.1, HH.out.2.1, HH.out.2.2.1, HH.out.2.2.2.1, hB3.trans (HH.out.2.2.2.2.mono hB3.size)⟩

set_option maxRecDepth 100000 in
set_option maxHeartbeats 1000000 in
theorem refUpserts_any (p o q : Option Addr) (rs : List ItR) (cs : List ChR) (key : List Int) (c k d : Nat) (hm : rs.length ≤ 9223372036854775807) (hm2 : cs.length ≤ 9223372036854775807) (hc : rs.length ≤ c) (hmk : key.length ≤ 1000) (w : World) (hX : ItemsIn w p rs) (hz : p = none → c = 0) (hL : ChgIn w o cs) (hC : IntsIn w q key) :
    Calls Tryz.prog 28 #[.slice p rs.length c, .slice o cs.length k, .slice q key.length d] w (BagPost w.heap.size w (upsVal (vals rs) (cvals cs) key) (upsErr (vals rs) (cvals cs) key)) := by
  have h1 := refBagValid_any p rs c hm w hX
  have h2 := fun W (h : Below w.heap.size w W) => refVCs_any o cs k hm2 W (hL.belowV h)
  cases q1 : validBag (vals rs) with
  | false =>
    obtain ⟨e1, e2⟩ := upsNo (b := vals rs) (l := cvals cs) (key := key) (fun h => by rw [q1] at h; exact absurd h.1 (by decide))
    rw [e1, e2]
    rw [q1] at h1
    have H1 := Lib.hid h1
    clear h1 h2 hX hz hL hC q1 e1 e2
    go_enter Tryz.func28, Tryz.ntmps28
    go_wp2_with fail
    refine H1.out.mono ?_
    rintro e w1 ⟨rfl, hb1⟩
    go_wp2_with fail
    go_ret2
    exact bagPost_nil hb1
  | true =>
    cases q2 : validCs (cvals cs) with
    | false =>
      obtain ⟨e1, e2⟩ := upsNo (b := vals rs) (l := cvals cs) (key := key) (fun h => by rw [q2] at h; exact absurd h.2 (by decide))
      rw [e1, e2]
      rw [q1] at h1
      rw [q2] at h2
      have H1 := Lib.hid h1
      have H2 := Lib.hid h2
      clear h1 h2 hX hz hL hC q1 q2 e1 e2
      go_enter Tryz.func28, Tryz.ntmps28
      go_wp2_with fail
      refine H1.out.mono ?_
      rintro e w1 ⟨rfl, hb1⟩
      go_wp2_with fail
      refine (H2.out _ hb1).mono ?_
      rintro e w2 ⟨rfl, hb2⟩
      have hB2 := hb1.trans (hb2.mono hb1.size)
      go_wp2_with fail
      go_ret2
      exact bagPost_nil hB2
    | true =>
      exact refUpserts_yes p o q rs cs key c k d (by have := (validBag_iff.1 q1).1; rwa [vals_len] at this) (by have := (validCs_iff.1 q2).1; rwa [cvals_len] at this) hc hmk w hX hz hL hC q1 q2
end Go.Proofs.YthoimepdioeckaaGreatDoor

/-!
  Rows by their keys, in groups, as a map by the keys' texts: plain facts. What is in the groups at the end is what the document's Upserts has.
-/
namespace Go.Proofs.YthoimepdioeckaaGreatDoor
open Go.RowKit

/-! ### An element taken out of the map -/
section
variable {E : Type} {row : E → List Val}
theorem del_len {acc : List E} {k : List Val} (hd : Diff row acc) : (acc.filter fun y => decide (row y ≠ k)).length + (if ∃ y ∈ acc, row y = k then 1 else 0) = acc.length := by
  induction acc with
  | nil => simp
  | cons x l ih =>
    unfold Diff at hd
    rw [List.pairwise_cons] at hd
    have := ih hd.2
    by_cases e : row x = k
    · have hno : ¬ ∃ y ∈ l, row y = k := fun ⟨y, hy, e2⟩ => hd.1 y hy (e.trans e2.symm)
      rw [if_neg hno] at this
      rw [List.filter_cons_of_neg (by simp [e]), if_pos ⟨x, by simp, e⟩, List.length_cons]; omega
    · have hiff : (∃ y ∈ x :: l, row y = k) ↔ ∃ y ∈ l, row y = k := by simp [e]
      rw [List.filter_cons_of_pos (by simp [e]), List.length_cons, List.length_cons]
      by_cases e2 : ∃ y ∈ l, row y = k
      · rw [if_pos e2] at this
        rw [if_pos (hiff.2 e2)]; omega
      · rw [if_neg e2] at this
        rw [if_neg (fun h => e2 (hiff.1 h))]; omega
theorem GatOf.del {enc : E → Value} {acc : List E} {D : DataW Value} (h : GatOf row enc acc D) (ht : Maps.Tidy D) {k : List Val} (hk : validRow k = true) : GatOf row enc (acc.filter fun y => decide (row y ≠ k)) (D.del (.string (textOf k))) := by
  have lne : ∀ {s t : List UInt8}, s ≠ t → Lit.string s ≠ Lit.string t := fun h e => h (by simpa using e)
  have hm : ∀ y, y ∈ (acc.filter fun y => decide (row y ≠ k)) ↔ y ∈ acc ∧ row y ≠ k := fun y => by rw [List.mem_filter, decide_eq_true_eq]
  have hne : ∀ y ∈ acc, row y ≠ k → textOf (row y) ≠ textOf k := fun y hy e e2 => e (text_inj (h.valid y hy) hk e2)
  have hh : Maps.has D (.string (textOf k)) = true ↔ ∃ y ∈ acc, row y = k := by
    rw [h.has]
    exact ⟨fun ⟨y, hy, e⟩ => ⟨y, hy, text_inj (h.valid y hy) hk e⟩, fun ⟨y, hy, e⟩ => ⟨y, hy, by rw [e]⟩⟩
  refine ⟨fun s => ?_, fun y hy z => ?_, ?_, fun y hy => h.valid y ((hm y).1 hy).1, ?_⟩
  · by_cases e : s = textOf k
    · subst e
      rw [Maps.has_del_same]
      refine ⟨fun h => (by cases h), fun ⟨y, hy, e⟩ => ?_⟩
      obtain ⟨h1, h2⟩ := (hm y).1 hy
      exact absurd e (hne y h1 h2)
    · rw [Maps.has_del_other (lne e), h.has s]
      constructor
      · rintro ⟨y, hy, e2⟩
        exact ⟨y, (hm y).2 ⟨hy, fun e3 => e (by rw [← e2, e3])⟩, e2⟩
      · rintro ⟨y, hy, e2⟩
        exact ⟨y, ((hm y).1 hy).1, e2⟩
  · obtain ⟨h1, h2⟩ := (hm y).1 hy
    rw [Maps.atKey_del_other (lne (hne y h1 h2))]
    exact h.at_ y h1 z
  · have := h.diff
    unfold Diff at *
    exact this.filter _
  · have h1 := Maps.size_del (k := .string (textOf k)) ht
    have h2 := del_len (k := k) h.diff
    rw [h.size] at h1
    by_cases e : ∃ y ∈ acc, row y = k
    · rw [if_pos (hh.2 e)] at h1
      rw [if_pos e] at h2
      omega
    · rw [if_neg e] at h2
      rw [if_neg (fun h3 => e (hh.1 h3))] at h1
      omega
end

/-! ### Groups -/
abbrev Grp := List Val × (Option Addr × Nat) × List ItR
abbrev rowG (g : Grp) : List Val := g.1
abbrev vG (g : Grp) : Value := .slice g.2.1.1 g.2.2.length g.2.1.2
abbrev togG (a b : Grp) : Grp := (a.1, b.2)
theorem togG_row (a b : Grp) : rowG (togG a b) = rowG a := rfl
def flatG (acc : List Grp) : List ItR := acc.flatMap (·.2.2)
theorem flatG_app (a b : List Grp) : flatG (a ++ b) = flatG a ++ flatG b := by unfold flatG; rw [List.flatMap_append]
/-- Each group holds rows of its key alone. -/
def Keyed1 (cols : List Int) (acc : List Grp) : Prop := ∀ g ∈ acc, ∀ x ∈ g.2.2, pick x.1.2.1 cols = g.1
theorem flat_old {acc : List Grp} {y : Grp} {v : Option Addr × Nat} {x : ItR} (hd : Diff rowG acc) (hy : y ∈ acc) : (flatG (gstep rowG togG acc (y.1, v, y.2.2 ++ [x]))).Perm (flatG acc ++ [x]) := by
  rw [gstep_yes (x := (y.1, v, y.2.2 ++ [x])) hy rfl]
  induction acc with
  | nil => cases hy
  | cons z l ih =>
    unfold Diff at hd
    rw [List.pairwise_cons] at hd
    rcases List.mem_cons.1 hy with rfl | hy
    · have hl : l.map (fun z => if rowG z = rowG (y.1, v, y.2.2 ++ [x]) then togG z (y.1, v, y.2.2 ++ [x]) else z) = l := by
        rw [List.map_congr_left (g := id) (fun u hu => by rw [if_neg (fun e2 => hd.1 u hu e2.symm)]; rfl), List.map_id]
      rw [List.map_cons, hl, if_pos rfl]
      show ((y.2.2 ++ [x]) ++ flatG l).Perm ((y.2.2 ++ flatG l) ++ [x])
      rw [List.append_assoc, List.append_assoc]
      exact List.Perm.append_left _ List.perm_append_comm
    · have hne : ¬ rowG z = rowG (y.1, v, y.2.2 ++ [x]) := hd.1 y hy
      rw [List.map_cons, if_neg hne]
      show (z.2.2 ++ flatG _).Perm ((z.2.2 ++ flatG l) ++ [x])
      rw [List.append_assoc]
      exact List.Perm.append_left _ (ih hd.2 hy)
theorem flat_drop {cols : List Int} {acc : List Grp} {k : List Val} (hi : Keyed1 cols acc) : flatG (acc.filter fun g => decide (rowG g ≠ k)) = (flatG acc).filter fun x => decide (pick x.1.2.1 cols ≠ k) := by
  induction acc with
  | nil => rfl
  | cons g l ih =>
    have ih := ih fun g hg => hi g (by simp [hg])
    have hg := hi g (by simp)
    show _ = (g.2.2 ++ flatG l).filter _
    rw [List.filter_append]
    by_cases e : rowG g = k
    · rw [List.filter_cons_of_neg (by simp [e]), ih]
      have : g.2.2.filter (fun x => decide (pick x.1.2.1 cols ≠ k)) = [] := by
        rw [List.filter_eq_nil_iff]
        intro x hx
        have e2 : pick x.1.2.1 cols = k := (hg x hx).trans e
        simp [e2]
      rw [this]; rfl
    · rw [List.filter_cons_of_pos (by simp [e])]
      show g.2.2 ++ flatG _ = _
      rw [ih]
      congr 1
      rw [eq_comm, List.filter_eq_self]
      intro x hx
      have e2 : pick x.1.2.1 cols ≠ k := fun h => e ((hg x hx).symm.trans h)
      simp [e2]

/-! ### One key, however it is named -/
theorem pick_same {a b : List Val} {cs ds : List Int} (h : ∀ t, t ∈ cs ↔ t ∈ ds) : pick a cs = pick b cs ↔ pick a ds = pick b ds := by
  have : ∀ es : List Int, pick a es = pick b es ↔ ∀ t ∈ es, a[t.toNat]?.getD v0 = b[t.toNat]?.getD v0 := fun es => by
    unfold pick
    exact List.map_inj_left
  rw [this, this]
  exact ⟨fun hh t ht => hh t ((h t).2 ht), fun hh t ht => hh t ((h t).1 ht)⟩
theorem oneKey_iff {a b : List Val} {key : List Int} (ha : validRow a = true) (hb : validRow b = true) (oa : okCols key a.length = true) (ob : okCols key b.length = true) : oneKey key a b = true ↔ pick a key = pick b key := by
  have hall : ∀ {xs : List Val}, validRow xs = true → okCols key xs.length = true → ∀ x ∈ pick xs key, validV x.1 x.2.1 x.2.2 = true := fun {xs} hx ho x hm => by
    obtain ⟨t, ht, rfl⟩ := List.mem_map.1 hm
    have h1 := List.all_eq_true.1 ho t ht
    have h2 := of_decide_eq_true h1
    unfold validRow at hx
    rw [Bool.and_eq_true] at hx
    have h3 := List.all_eq_true.1 hx.2
    rw [List.getElem?_eq_getElem (by omega)]
    exact h3 _ (List.getElem_mem _)
  unfold oneKey
  rw [beq_iff_eq]
  exact ⟨fun h => lexL_zero (P := fun x : Val => validV x.1 x.2.1 x.2.2 = true) (fun x y h1 h2 e => val_eq h1 h2 e) _ _ (hall ha oa) (hall hb ob) h, fun h => by rw [h]; exact cmpRow_ok.refl _⟩

/-! ### Put at the place where it belongs is put anywhere -/
theorem put_perm {l : List It} {r : List Val} {n : Int} (hn : n ≠ 0) (h : ∀ x ∈ l, cmpRow r x.1 ≠ 0) : (put l r n).Perm (l ++ [(r, n)]) := by
  induction l with
  | nil => rw [put, if_neg hn]; exact .refl _
  | cons x l ih =>
    have hx := h x (by simp)
    obtain ⟨xs, xn⟩ := x
    obtain ⟨p1, p2, p3⟩ := put_at (l := l) (xs := xs) (xn := xn) (ys := r) (n := n)
    rcases Int.lt_or_gt_of_ne hx with hl | hl
    · rw [p1 hl, if_neg hn]
      exact (List.perm_append_comm (l₁ := [(r, n)]) (l₂ := (xs, xn) :: l))
    · rw [p3 hl]
      exact List.Perm.cons _ (ih fun y hy => h y (by simp [hy]))
/-- Two lists that ascend by rows and have the same items are one. -/
theorem up_perm {a b : List It} (ha : Asc a) (hb : Asc b) (h : a.Perm b) : a = b :=
  bag_ext ha hb fun q => by rw [← sumC_up ha.2, ← sumC_up hb.2, sumC_perm h]
theorem sorted_up {zs A : List It} (hA : Asc A) (hp : zs.Perm A) (hs : zs.Pairwise fun x y => 0 ≤ cmpRow y.1 x.1) : zs = A := by
  refine up_perm ⟨fun x hx => hA.1 x (hp.mem_iff.1 hx), ?_⟩ hA hp
  have hd : zs.Pairwise fun x y => cmpRow x.1 y.1 ≠ 0 := by
    have hA2 : A.Pairwise fun x y => cmpRow x.1 y.1 < 0 := hA.2
    exact (hp.pairwise_iff (fun {x y} (h : cmpRow x.1 y.1 ≠ 0) (e : cmpRow y.1 x.1 = 0) => h (by have := cmpRow_ok.anti x.1 y.1; omega))).2 (hA2.imp fun {x y} (h : cmpRow x.1 y.1 < 0) => (by omega : cmpRow x.1 y.1 ≠ 0))
  have h2 := List.pairwise_iff_getElem.1 hs
  have h3 := List.pairwise_iff_getElem.1 hd
  refine List.pairwise_iff_getElem.2 fun i j hi hj hij => ?_
  have a1 := h2 i j hi hj hij
  have a2 := h3 i j hi hj hij
  have a3 := cmpRow_ok.anti (zs[i]).1 (zs[j]).1
  show cmpRow (zs[i]).1 (zs[j]).1 < 0
  omega
end Go.Proofs.YthoimepdioeckaaGreatDoor

/-!
  Upserts with the same changes twice is once: plain facts.
-/
namespace Go.Proofs.YthoimepdioeckaaGreatDoor
open Go.RowKit

theorem oneKey_refl_of {key : List Int} {a b : List Val} (h : a = b) : oneKey key a b = true := by
  subst h; unfold oneKey; rw [cmpRow_ok.refl]; rfl
theorem mem_without {key : List Int} {r : List Val} {o : List It} {x : It} : x ∈ without key r o ↔ x ∈ o ∧ oneKey key x.1 r = false := by
  unfold without; rw [List.mem_filter]; simp
theorem mem_ups1 {key : List Int} {o : List It} {c : Ch} (ho : ∀ x ∈ o, validRow x.1 = true) (hc : validRow c.2.1 = true) {x : It} : x ∈ ups1 key o c ↔ (x ∈ o ∧ oneKey key x.1 c.2.1 = false) ∨ (0 < c.2.2 ∧ x = (c.2.1, 1)) := by
  unfold ups1
  by_cases h : 0 < c.2.2
  · rw [if_pos h, (put_perm (by decide) fun y hy e => by
      obtain ⟨h1, h2⟩ := mem_without.1 hy
      rw [oneKey_refl_of (row_eq hc (ho y h1) e).symm] at h2
      cases h2).mem_iff, List.mem_append, mem_without, List.mem_singleton]
    exact ⟨fun hh => hh.imp id fun e => ⟨h, e⟩, fun hh => hh.imp id fun e => e.2⟩
  · rw [if_neg h, mem_without]
    exact ⟨.inl, fun hh => hh.elim id fun e => absurd e.1 h⟩
theorem ups_rows {key : List Int} {l : List Ch} {o : List It} (ho : ∀ x ∈ o, validRow x.1 = true) (hl : ∀ c ∈ l, validRow c.2.1 = true) : ∀ x ∈ ups key o l, validRow x.1 = true := by
  induction l generalizing o with
  | nil => exact ho
  | cons c l ih =>
    refine ih (o := ups1 key o c) (fun x hx => ?_) fun d hd => hl d (by simp [hd])
    rcases (mem_ups1 ho (hl c (by simp))).1 hx with h | h
    · exact ho x h.1
    · rw [h.2]; exact hl c (by simp)
theorem mem_ups {key : List Int} {l : List Ch} (hl : ∀ c ∈ l, validRow c.2.1 = true) {x : It} : ∀ i, i ≤ l.length → ∀ {o : List It}, (∀ x ∈ o, validRow x.1 = true) →
    (x ∈ ups key o (l.take i) ↔ (x ∈ o ∧ ∀ c ∈ l.take i, oneKey key x.1 c.2.1 = false) ∨ x ∈ ups key [] (l.take i))
  | 0, _, o, _ => by simp [ups]
  | i + 1, hi, o, ho => by
    have hlt : i < l.length := by omega
    have hc : validRow (l[i]).2.1 = true := hl _ (List.getElem_mem hlt)
    have ht : ∀ c ∈ l.take i, validRow c.2.1 = true := fun c hc => hl c (List.mem_of_mem_take hc)
    have e1 : ∀ o : List It, ups key o (l.take (i + 1)) = ups1 key (ups key o (l.take i)) l[i] := fun o => by
      rw [ups_next hlt, List.getElem?_eq_getElem hlt]; rfl
    have ih := mem_ups hl (x := x) (key := key) i (by omega) ho
    rw [e1, e1, mem_ups1 (ups_rows ho ht) hc, mem_ups1 (ups_rows (by simp) ht) hc, ih, List.take_succ_eq_append_getElem hlt]
    constructor
    · rintro (⟨h | h, h2⟩ | h)
      · refine .inl ⟨h.1, fun c hc => ?_⟩
        rcases List.mem_append.1 hc with hc | hc
        · exact h.2 c hc
        · rw [List.mem_singleton] at hc; rw [hc]; exact h2
      · exact .inr (.inl ⟨h, h2⟩)
      · exact .inr (.inr h)
    · rintro (⟨h, h2⟩ | h | h)
      · exact .inl ⟨.inl ⟨h, fun c hc => h2 c (List.mem_append_left _ hc)⟩, h2 _ (List.mem_append_right _ (List.mem_singleton.2 rfl))⟩
      · exact .inl ⟨.inr h.1, h.2⟩
      · exact .inr h
theorem asc_mem {a b : List It} (ha : Asc a) (hb : Asc b) (h : ∀ x, x ∈ a ↔ x ∈ b) : a = b := by
  have nd : ∀ {a : List It}, Asc a → a.Nodup := fun {a} ha => by
    have h1 : a.Pairwise fun x y => cmpRow x.1 y.1 < 0 := ha.2
    exact h1.imp fun {x y} (h : cmpRow x.1 y.1 < 0) e => by rw [e, cmpRow_ok.refl] at h; omega
  exact up_perm ha hb ((List.perm_ext_iff_of_nodup (nd ha) (nd hb)).2 h)
theorem ups_twice {key : List Int} {l : List Ch} {o : List It} (ho : Asc o) (hl : ∀ c ∈ l, validRow c.2.1 = true) : ups key (ups key o l) l = ups key o l := by
  have h1 := ups_asc (key := key) ho hl
  refine asc_mem (ups_asc h1 hl) h1 fun x => ?_
  have g1 := mem_ups hl (x := x) (key := key) l.length (Nat.le_refl _) (o := ups key o l) fun x hx => (h1.1 x hx).1
  have g2 := mem_ups hl (x := x) (key := key) l.length (Nat.le_refl _) (o := o) fun x hx => (ho.1 x hx).1
  rw [List.take_length] at g1 g2
  rw [g1, g2]
  constructor
  · rintro (⟨h | h, h2⟩ | h)
    · exact .inl h
    · exact .inr h
    · exact .inr h
  · rintro (h | h)
    · exact .inl ⟨.inl h, h.2⟩
    · exact .inr h
/-- P3.5: twice with the same changes is once. -/
theorem ups_back {b : List It} {l : List Ch} {key : List Int} (h : upsErr b l key = 0) : upsErr (upsVal b l key) l key = 0 ∧ upsVal (upsVal b l key) l key = upsVal b l key := by
  have hv : validBag b = true ∧ validCs l = true := by
    by_cases hv : validBag b = true ∧ validCs l = true
    · exact hv
    · unfold upsErr at h; rw [if_neg hv] at h; exact absurd h (by decide)
  have hk : keyOK key b l = true := by
    cases hk : keyOK key b l with
    | true => rfl
    | false => unfold upsErr at h; rw [if_pos hv, hk, if_neg (by decide)] at h; exact absurd h (by decide)
  have ho : validBag (ups key b l) = true := by
    cases ho : validBag (ups key b l) with
    | true => rfl
    | false => unfold upsErr toldErr at h; rw [if_pos hv, if_pos hk, ho, if_neg (by decide)] at h; exact absurd h (by decide)
  have ha := asc_of_valid hv.1
  have hl : ∀ c ∈ l, validRow c.2.1 = true := fun c hc => (okC_is ((validCs_iff.1 hv.2).2 c hc)).2.1
  have e1 : upsVal b l key = ups key b l := by unfold upsVal toldVal; rw [if_pos ⟨hv, hk⟩, if_pos ho]
  have hk2 : keyOK key (ups key b l) l = true := by
    rw [keyOK_eq, Bool.and_eq_true, Bool.and_eq_true, List.all_eq_true, List.all_eq_true] at hk ⊢
    refine ⟨⟨hk.1.1, fun x hx => ?_⟩, hk.2⟩
    have g := (mem_ups hl (x := x) (key := key) l.length (Nat.le_refl _) (o := b) fun x hx => (ha.1 x hx).1).1 (by rw [List.take_length]; exact hx)
    rcases g with g | g
    · exact hk.1.2 x g.1
    · have g2 : ∀ i, i ≤ l.length → ∀ x ∈ ups key [] (l.take i), okCols key x.1.length = true := fun i => by
        induction i with
        | zero => intro _ x hx; simp [ups] at hx
        | succ i ih =>
          intro hi x hx
          have hlt : i < l.length := by omega
          rw [ups_next hlt, List.getElem?_eq_getElem hlt] at hx
          rcases (mem_ups1 (ups_rows (by simp) fun c hc => hl c (List.mem_of_mem_take hc)) (hl _ (List.getElem_mem hlt))).1 hx with h | h
          · exact ih (by omega) x h.1
          · rw [h.2]
            exact hk.2 (chI l[i]) (List.mem_map_of_mem (List.getElem_mem hlt))
      exact g2 l.length (Nat.le_refl _) x g
  have ht := ups_twice (key := key) ha hl
  rw [e1]
  unfold upsErr upsVal toldErr toldVal
  rw [if_pos ⟨ho, hv.2⟩, if_pos hk2, ht, if_pos ho, if_pos ho, if_pos ⟨⟨ho, hv.2⟩, hk2⟩]
  exact ⟨rfl, rfl⟩
end Go.Proofs.YthoimepdioeckaaGreatDoor

/-!
  What Upserts of package bag calls: how many columns all rows of a bag and of changes have; a key's text; the order by rows. As contracts.
-/
namespace Go.Proofs.YthoimepdioeckaaGreatDoor
open Go.RowKit

set_option maxRecDepth 100000 in
set_option maxHeartbeats 1000000 in
theorem commonL_any (p o : Option Addr) (rs : List ItR) (cs : List ChR) (c k : Nat) (hm : rs.length ≤ 9223372036854775807) (hm2 : cs.length ≤ 9223372036854775807) (w : World) (hX : ItemsIn w p rs) (hL : ChgIn w o cs) :
    Calls Tryz.prog 60 #[.slice p rs.length c, .slice o cs.length k] w (BelowInt w (commN (vals rs ++ its (cvals cs)) : Nat)) := by
  have HX := Lib.hid hX
  have HL := Lib.hid hL
  clear hX hL
  go_enter Tryz.func60, Tryz.ntmps60
  go_wp2_with fail
  go_loopw [5, 12] (fun t s wr => ∃ (i m : Nat), t = .int .i64 m ∧ s = .int .i64 i ∧ i ≤ rs.length ∧ Hid (m = commN ((vals rs).take i)) ∧ m ≤ 8 ∧ Below w.heap.size w wr) (fun _ s _ => rs.length - (intOf s).toNat)
  case atStart => exact ⟨0, 8, rfl, rfl, Nat.zero_le _, rfl, Nat.le_refl _, Below.refl _ _⟩
  case round =>
    obtain ⟨i, m, rfl, rfl, hi, hmm, hm8, hB⟩ := hrel
    by_cases hlt : i < rs.length
    · obtain ⟨b, off, rfl, hbl, hra⟩ := HX.out (by omega)
      obtain ⟨c0, c1, c2, _⟩ := (hra.belowV hB hbl) i hlt
      have hi0 : (0 : Int) ≤ (i : Int) := by omega
      have hi1 : (i : Int) < (rs.length : Int) := by omega
      have hnx := commN_next (show i < (vals rs).length by rw [vals_len]; exact hlt)
      rw [vals_get, ← hmm.out] at hnx
      have hxl := c2.1
      clear hra c2
      generalize (rs[i]?.getD ir0) = x at *
      obtain ⟨⟨xq, xs, xc⟩, xn⟩ := x
      dsimp only [rowv, itv] at *
      have HNX := Lib.hid hnx
      clear hnx
      have hB2 := hB.alloc hB.size (.cells #[.slice xq xs.length xc, .int .i64 xn] 60)
      by_cases hle : m ≤ xs.length
      · have hle' : (m : Int) ≤ (xs.length : Int) := by omega
        have hmn : min (m : Int) (xs.length : Int) = (m : Int) := by omega
        have HN := Lib.hid (show m = commN ((vals rs).take (i + 1)) by rw [HNX.out]; omega)
        go_wp2_with fail
        go_roundw
        case rel => exact ⟨i + 1, m, by first | rfl | (rw [hmn]) | (go_num), by go_num, by omega, HN.out, hm8, hB2⟩
        case measure => simp [intOf]; omega
      · have hle' : (xs.length : Int) ≤ (m : Int) := by omega
        have hmn : min (m : Int) (xs.length : Int) = (xs.length : Int) := by omega
        have HN := Lib.hid (show xs.length = commN ((vals rs).take (i + 1)) by rw [HNX.out]; omega)
        go_wp2_with fail
        go_roundw
        case rel => exact ⟨i + 1, xs.length, by first | rfl | (rw [hmn]) | (go_num), by go_num, by omega, HN.out, by omega, hB2⟩
        case measure => simp [intOf]; omega
    · have hge : (rs.length : Int) ≤ (i : Int) := by omega
      have hie : i = rs.length := by omega
      have hm0 : m = commN (vals rs ++ (its (cvals cs)).take 0) := by rw [List.take_zero, List.append_nil]; have := hmm.out; rwa [hie, ← vals_len rs, List.take_length] at this
      clear hie hmm
      go_wp2_with fail
      go_loopw [5, 24] (fun t s wr => ∃ (i m : Nat), t = .int .i64 m ∧ s = .int .i64 i ∧ i ≤ cs.length ∧ Hid (m = commN (vals rs ++ (its (cvals cs)).take i)) ∧ m ≤ 8 ∧ Below w.heap.size w wr) (fun _ s _ => cs.length - (intOf s).toNat)
      case atStart => exact ⟨0, m, rfl, rfl, Nat.zero_le _, hm0, hm8, hB⟩
      case round =>
        clear hm0 hm8 hB hge
        obtain ⟨i, m, rfl, rfl, hi, hmm, hm8, hB⟩ := hrel
        by_cases hlt : i < cs.length
        · obtain ⟨b, off, rfl, hbl, hra⟩ := HL.out (by omega)
          obtain ⟨c0, c1, c2, c3, _⟩ := (hra.belowV hB hbl) i hlt
          have hi0 : (0 : Int) ≤ (i : Int) := by omega
          have hi1 : (i : Int) < (cs.length : Int) := by omega
          have hit : (its (cvals cs))[i]?.getD it0 = chI (chv (cs[i]?.getD cr0)) := by
            rw [← cvals_get]; unfold its; rw [List.getElem?_map]
            cases (cvals cs)[i]? <;> rfl
          have hnx : commN (vals rs ++ (its (cvals cs)).take (i + 1)) = min (commN (vals rs ++ (its (cvals cs)).take i)) (chI (chv (cs[i]?.getD cr0))).1.length := by
            have hl : i < (its (cvals cs)).length := by rw [its_len, cvals_len]; exact hlt
            rw [List.take_succ_eq_append_getElem hl, ← List.append_assoc, ← hit, List.getElem?_eq_getElem hl]
            unfold commN
            rw [List.foldl_append]; rfl
          rw [← hmm.out] at hnx
          have hxl := c3.1
          clear hra c3 hit
          generalize (cs[i]?.getD cr0) = x at *
          obtain ⟨xt, ⟨xq, xs, xc⟩, xn⟩ := x
          dsimp only [rowv, chv, chI] at *
          have HNX := Lib.hid hnx
          clear hnx
          have hB2 := hB.alloc hB.size (.cells #[.int .i64 xt, .slice xq xs.length xc, .int .i64 xn] 40)
          by_cases hle : m ≤ xs.length
          · have hle' : (m : Int) ≤ (xs.length : Int) := by omega
            have hmn : min (m : Int) (xs.length : Int) = (m : Int) := by omega
            have HN := Lib.hid (show m = commN (vals rs ++ (its (cvals cs)).take (i + 1)) by rw [HNX.out]; omega)
            go_wp2_with fail
            go_roundw
            case rel => exact ⟨i + 1, m, by first | rfl | (rw [hmn]) | (go_num), by go_num, by omega, HN.out, hm8, hB2⟩
            case measure => simp [intOf]; omega
          · have hle' : (xs.length : Int) ≤ (m : Int) := by omega
            have hmn : min (m : Int) (xs.length : Int) = (xs.length : Int) := by omega
            have HN := Lib.hid (show xs.length = commN (vals rs ++ (its (cvals cs)).take (i + 1)) by rw [HNX.out]; omega)
            go_wp2_with fail
            go_roundw
            case rel => exact ⟨i + 1, xs.length, by first | rfl | (rw [hmn]) | (go_num), by go_num, by omega, HN.out, by omega, hB2⟩
            case measure => simp [intOf]; omega
        · have hge : (cs.length : Int) ≤ (i : Int) := by omega
          have hie : i = cs.length := by omega
          have HN := Lib.hid (show m = commN (vals rs ++ its (cvals cs)) by have := hmm.out; rwa [hie, ← cvals_len cs, ← its_len, List.take_length] at this)
          clear hie hmm
          go_wp2_with fail
          go_ret
          exact ⟨by rw [HN.out] <;> rfl, hB⟩

set_option maxRecDepth 100000 in
theorem keyText_any (p q : Option Addr) (xs : List Val) (cs : List Int) (c d : Nat) (hm : xs.length ≤ 9223372036854775807) (h8 : cs.length ≤ 8) (hv : validRow xs = true) (hok : okCols cs xs.length = true) (w : World) (hX : ValsIn w p xs) (hC : IntsIn w q cs) (hT : Tab w.heap.size w) :
    Calls Tryz.prog 72 #[.slice p xs.length c, .slice q cs.length d] w (TextPost w (textOf (pick xs cs))) := by
  have e0 : projErr xs cs = 0 := by unfold projErr; rw [hv, hok, if_neg (by decide), if_neg (by decide), if_neg (by omega)]
  have hp := rowProject_any p q xs cs c d hm (by omega) w hX hC
  have e1 : projVal xs cs = pick xs cs := by unfold projVal; rw [if_pos e0]
  rw [e0, e1] at hp
  have HP := Lib.hid hp
  have HT := Lib.hid hT
  clear hp e0 e1 hX hC hT hv hok
  go_enter Tryz.func72, Tryz.ntmps72
  go_wp2_with fail
  refine HP.out.mono ?_
  rintro e w1 ⟨v1, rfl, hown, hb1⟩
  obtain ⟨yq, yc, rfl⟩ := slice_of_owns hown
  have HX := Lib.hid (rowText_any yq (pick xs cs) yc w1 (valsIn_of_owns hown) (HT.out.up hb1 hb1.size))
  clear hown
  unfold TextPost at HX ⊢
  go_wp2_with fail
  refine HX.out.mono ?_
  rintro e w2 ⟨rfl, hb2⟩
  go_wp2_with fail
  go_ret
  exact ⟨rfl, hb1.trans (hb2.mono hb1.size)⟩

set_option maxRecDepth 100000 in
set_option maxHeartbeats 2000000 in
theorem byRowU_d (q : Option Addr) (xs : List Val) (qc : Nat) (n : Int) (p : Option Addr) (ys : List Val) (pc : Nat) (m : Int) (w : World) (hx : RowOK w (q, xs, qc)) (hy : RowOK w (p, ys, pc)) :
    Calls Tryz.prog 77 #[.agg #[.slice q xs.length qc, .int .i64 n], .agg #[.slice p ys.length pc, .int .i64 m]] w (BelowIntD w (cmpRow xs ys)) := by
  have e1 : (w.alloc (.cells #[.slice q xs.length qc, .int .i64 n] 60)).heap.size = w.heap.size + 1 := by simp
  have b1 : BelowD w.heap.size w (w.alloc (.cells #[.slice q xs.length qc, .int .i64 n] 60)) := (BelowD.refl _ _).alloc (Nat.le_refl _) _
  have b2 : BelowD (w.heap.size + 1) (w.alloc (.cells #[.slice q xs.length qc, .int .i64 n] 60)) ((w.alloc (.cells #[.slice q xs.length qc, .int .i64 n] 60)).alloc (.cells #[.slice p ys.length pc, .int .i64 m] 60)) := (BelowD.refl _ _).alloc (by omega) _
  have hB1 : BelowD w.heap.size w ((w.alloc (.cells #[.slice q xs.length qc, .int .i64 n] 60)).alloc (.cells #[.slice p ys.length pc, .int .i64 m] 60)) := b1.trans (b2.mono (by omega))
  have hx1 := (RowOK.belowV hx hB1.toBelow).2
  have hy1 := (RowOK.belowV hy hB1.toBelow).2
  have HC := Lib.hid (rowCompareD_any q p xs ys qc pc hx.1 hy.1 _ hx1 hy1)
  clear b1 b2 hx hy hx1 hy1 e1
  go_enter Tryz.func77, Tryz.ntmps77
  go_wp2_with fail
  refine HC.out.mono ?_
  rintro e w2 ⟨rfl, hb2⟩
  go_wp2_with fail
  go_ret
  exact ⟨rfl, hB1.trans (hb2.mono hB1.size)⟩
end Go.Proofs.YthoimepdioeckaaGreatDoor

/-!
  slices.SortFunc at items, under Upserts' own order, over a slice of the call's own.
-/
namespace Go.Proofs.YthoimepdioeckaaGreatDoor
open Go.Shelf Go.RowKit Go.Lib Go.Sort

theorem cmpLaysU (B g size : Nat) (w : World) (hB : B ≤ w.heap.size) (hg : B ≤ g) :
    CmpLays Tryz.prog 77 #[] (cellsRI (B := B) (w := w)) 2 cmpRI g 0 size w := fun m os dk _ x y => by
  have hgr := grownBy_sortedK (w := w) (g := g) (n := m) (os := os) dk
  generalize sortWorldK cellsRI 2 w g 0 m dk os = W at hgr ⊢
  have hBW : B ≤ W.heap.size := Nat.le_trans hB hgr.size
  obtain ⟨⟨⟨q, xs, qc⟩, n⟩, hx⟩ := x
  obtain ⟨⟨⟨p, ys, pc⟩, k⟩, hy⟩ := y
  exact (byRowU_d q xs qc n p ys pc k W ((hx.grownX hgr hB hg).okW hBW) ((hy.grownX hgr hB hg).okW hBW)).mono fun e w' ⟨he, hb⟩ => ⟨he, below_block W w' hb⟩

/-- The library's sort, over a slice that the call owns. -/
theorem sort_itemsU (ys : List ItR) (base : Nat) (v : Value) (w : World) (hN : ys.length < 4611686018427387904) (hbase : base ≤ w.heap.size)
    (hrow : ∀ y ∈ ys, RowB base w y.1) (h : w.ownsRow base 60 2 v ys.length (flatI ys)) :
    Calls Tryz.prog 76 #[v, .func (.func 77) #[] #[]] w fun e w' =>
      e = .returned (.tuple #[]) ∧ ∃ zs : List ItR, zs.Perm ys ∧ (zs.Pairwise fun x y => 0 ≤ cmpRow y.1.2.1 x.1.2.1) ∧ w'.ownsRow base 60 2 v ys.length (flatI zs) ∧ w.grownBy w' v.ownBlock := by
  obtain ⟨hlen, hr⟩ := h
  rcases hr with ⟨rfl, hn⟩ | ⟨g, cap, cur, rfl, hbs, hb, h1, h2, h3, h4⟩
  · rw [hn]
    have hy : ys = [] := List.length_eq_zero_iff.1 hn
    subst hy
    have hcon := AnyF.slices_SortFunc_none Tryz.sortI none 0 (.func (.func 77) #[] #[]) w
    change Calls Tryz.prog 76 _ _ _ at hcon
    refine hcon.mono ?_
    rintro e w' ⟨rfl, rfl⟩
    exact ⟨rfl, [], .refl _, List.Pairwise.nil, ⟨by simp [flatI], .inl ⟨rfl, rfl⟩⟩, ⟨rfl, rfl, rfl, Nat.le_refl _, fun _ _ _ => rfl⟩⟩
  · obtain ⟨ls, hasl⟩ : ∃ ls : List (RI base w), ls.map (·.1) = ys := ⟨ys.attach.map fun y => ⟨y.1, hrow y.1 y.2⟩, by rw [List.map_map]; exact List.attach_map_subtype_val ys⟩
    have hal : ls.length = ys.length := by rw [← hasl]; simp
    rw [← hasl] at h4
    have eg : ∀ args w, (callFunc 77 args).run Tryz.prog w = .ok (.enter 77 args) w := enters_of Tryz.func77 (by kernel_rfl) rfl
    have hcon := AnyQ.slices_SortFunc Tryz.sortI 2 Tryz.isAgg60 Tryz.sizeOf60 (cellsRI (B := base) (w := w)) (fun _ => rfl) (fun x v hv => by simp [cellsRI, cellsI, rowv] at hv; rcases hv with rfl | rfl <;> rfl) cmpRI (swoRI base w) 77 #[] g 0 cap ls.toArray w eg
      (cmpLaysU base g _ w hbase hbs) (holdsK_of_block hb (by rw [← h4]; simp)) ((Array.getElem?_eq_some_iff.1 hb).1) (by simpa [hal] using hN)
    change Calls Tryz.prog 76 _ _ _ at hcon
    rw [List.size_toArray, hal] at hcon
    refine hcon.mono ?_
    rintro e w' ⟨rfl, d', n, os, hp, hs, rfl⟩
    obtain ⟨p1, p2, p3⟩ := hp
    have p1' : d'.size = ls.length := by simpa using p1
    refine ⟨rfl, d'.toList.map (·.1), ?_, ?_, ?_, grownBy_sortedK d'⟩
    · have e1 : d'.extract 0 ys.length = d' := by rw [← hal, ← p1']; exact Array.extract_size
      have e2 : ls.toArray.extract 0 ys.length = ls.toArray := by rw [← hal]; simp
      rw [e1, e2] at p3
      have p4 := p3.map (·.1)
      rw [← hasl]
      simpa using p4
    · rw [List.pairwise_map, List.pairwise_iff_getElem]
      intro i j hi hj hij
      have hi' : i < d'.size := by simpa using hi
      have hj' : j < d'.size := by simpa using hj
      have := hs i j (Nat.zero_le _) hij (by omega)
      rw [getElem!_pos _ i hi', getElem!_pos _ j hj'] at this
      have h5 := of_decide_eq_false this
      simpa [cmpRI] using h5
    · have hk : d'.toList.length * 2 ≤ cur.size := by simp [p1', h3, hal]; omega
      have ht := take_putCellsK cur d'.toList hk
      refine ⟨by rw [flatI_len]; simp [p1', hal], .inr ⟨g, cap, _, rfl, hbs, heap_sortedK _ hb, h1, h2, by simp [putCells, h3], ?_⟩⟩
      have : d'.toList.length = ys.length := by simpa [hal] using p1'
      rw [this] at ht
      simpa using ht
end Go.Proofs.YthoimepdioeckaaGreatDoor

/-!
  slices.AppendSeq and slices.Collect at items, against whatever iterator.
-/
namespace Go.Proofs.YthoimepdioeckaaGreatDoor
open Go.RowKit Go.Shelf
attribute [local go_sem] Oper.semAt_some

abbrev encG (x : Grp) : Array Value := #[vG x]
abbrev flatL (xs : List Grp) : List Value := xs.map vG
theorem flatL_snoc (xs : List Grp) (x : Grp) : flatL (xs ++ [x]) = flatL xs ++ [vG x] := by simp
theorem infoL : (Tryz.prog.info? 22).map (fun i => (i.zero, i.size, i.bytes)) = some (some (.slice none 0 0), 1, 24) := by kernel_rfl

set_option maxRecDepth 100000 in
set_option maxHeartbeats 2000000 in
theorem appendSeqL_in (n : Nat) (hn : 1 ≤ n) (gf : Nat) (lb : Array Value) (eg : ∀ args w, (callFunc gf args).run Tryz.prog w = .ok (.enter gf args) w) (S Sp : List Grp → Prop) (N : Nat)
    (hN : N ≤ maxLen) (hNb : N * 24 ≤ 140737488355328) (w : World) (hseq : SeqStopsK Fence.wide (n - 1) Tryz.prog gf lb encG KeepsWalks S Sp N w) :
    CallsIn Fence.wide n Tryz.prog 120 #[.slice none 0 0, .func (.func gf) #[] lb] w fun e w' =>
      ∃ v xs, e = .returned v ∧ S xs ∧ w'.ownsRow w.heap.size 22 1 v xs.length (flatL xs) ∧ Below w.heap.size w w' := by
  have h1 : 1 ≤ n := hn
  obtain ⟨i0, hi, hz0, hz1, hz2⟩ := info_parts infoL
  refine callsIn_of_wp_marks Tryz.func120 rfl trivial ?_ rfl
  simp only [Tryz.ntmps120, List.size_toArray, List.length_cons, List.length_nil, Nat.reduceAdd, Nat.reduceSub, Array.replicate_succ, Array.replicate_zero, List.push_toArray, List.append_toArray, List.nil_append, List.cons_append]
  gi_wp2_with fail
  have bO := Boxed.new w 97 (.slice none 0 0)
  have hB0 : Below w.heap.size w (w.alloc (.cells #[.slice none 0 0] 97)) := (Below.refl _ w).alloc (Nat.le_refl _) _
  refine wpIn_rangeFunc_ownH (F := Fence.wide) rfl h1 (gf := gf) (lb := lb) rfl trivial eg hseq walksK_t walksK_b hB0 (fun _ => rfl)
    (fun pre W => (∃ v, Boxed W w.heap.size 97 v ∧ W.ownsRow w.heap.size 22 1 v pre.length (flatL pre) ∧ True) ∧ Below w.heap.size w W)
    (fun _ _ _ => False)
    (OwnFrom.and (Own.from (holdsRow_own w.heap.size w.heap.size 97 22 1 (fun pre => pre.length) (fun pre => flatL pre) (fun _ _ => True)) _) (ownFrom_below (Nat.le_refl _) (by simp)))
    (fun _ _ _ _ _ hs _ _ => hs)
    ⟨⟨_, bO, World.ownsRow_nil _ _ _ _, trivial⟩, hB0⟩
    (fun x a' _ => a' = { tmps := #[.slice none 0 0, .func (.func gf) #[] lb, .pointer (some ⟨w.heap.size, 0, none⟩), undef, .slice none 0 0, vG x, .func (.func gf) #[] lb, vG x, undef, undef, undef, undef, undef], defers := [] })
    (fun _ _ _ _ _ _ hs _ _ => hs)
    ?assign ?body ?done ?stop
  case assign =>
    rintro l pre x W K ⟨⟨v, hv, hrow, _⟩, hB⟩ hK
    simp only [encG]
    gi_wp2_with fail
    exact hK _ _ ((KeepsOthers.refl _).from _) (KeepsWalks.refl _) ⟨⟨v, hv, hrow, trivial⟩, hB⟩ rfl
  case body =>
    rintro l pre x a' W hl ⟨r, hr⟩ ⟨⟨v, hv, hrow, _⟩, hB⟩ rfl hlt
    have hc := hv.cell
    gi_wp2_with (gi_at_builtin; refine wpListIn_append_own _ rfl _ _ 97 rfl w.heap.size 22 i0 (.slice none 0 0) 1 24 Tryz.underlying97 hi hz0 hz1 hz2 rfl (by decide) _ _ _ rfl (hrow.alloc _) ⟨W.heap.size, 0, none⟩ 1 1 [vG x] rfl rfl (cells_new _ _ _) (by simp [Value.oneCell']) (by omega) (by omega) (by have := hB.size; simp; omega) ?_; intro v' w1 hown' hgrow _; obtain ⟨g', cap', rfl⟩ := ownsRow_succ hown'; obtain ⟨hv1, hv2, hr2, hk2, hb2⟩ := hv.appended (by decide) hrow hB.size (Nat.le_refl _) hown' hgrow; have hc1 := hv1.cell; have hf1 := hv1.frozen)
    refine ⟨hk2.from _, hk2.walks, ⟨_, hv2, ?_, trivial⟩, hB.trans hb2⟩
    rw [flatL_snoc, List.length_append]
    exact hr2
  case done =>
    rintro D ys W hD hS ⟨⟨v, hv, hrow, _⟩, hB⟩ hK
    have hc := hv.cell
    gi_wp2
    refine ⟨by simp, .inl ⟨_, _, rfl, run_takeDeferred hK, ?_⟩⟩
    exact ⟨_, results_tmp rfl _ _ _, v, ys, rfl, hS, ownsRow_putObj hrow _ hK rfl, hB.trans (belowK_b (w := w) (Nat.le_refl _) W D _ _ (by simp at hD; omega) hK rfl rfl)⟩
  case stop =>
    rintro D c pre W _ _ h _
    exact h.elim

theorem collectL_in (n : Nat) (hn : 2 ≤ n) (gf : Nat) (lb : Array Value) (eg : ∀ args w, (callFunc gf args).run Tryz.prog w = .ok (.enter gf args) w) (S Sp : List Grp → Prop) (N : Nat)
    (hN : N ≤ maxLen) (hNb : N * 24 ≤ 140737488355328) (w : World) (hseq : SeqStopsK Fence.wide (n - 1 - 1) Tryz.prog gf lb encG KeepsWalks S Sp N w) :
    Calls Tryz.prog 74 #[.func (.func gf) #[] lb] w fun e w' =>
      ∃ v xs, e = .returned v ∧ S xs ∧ w'.ownsRow w.heap.size 22 1 v xs.length (flatL xs) ∧ Below w.heap.size w w' := by
  have hc := Lib.hid (callsIn_wide.1 (appendSeqL_in (n - 1) (by omega) gf lb eg S Sp N hN hNb w hseq))
  go_enter Tryz.func74, Tryz.ntmps74
  go_wp2_with (go_at_call 120; refine hc.out.mono ?_; rintro e w' ⟨v, xs, rfl, hS, hrow, hb⟩)
  go_ret
  exact ⟨v, xs, rfl, hS, hrow, hb⟩
end Go.Proofs.YthoimepdioeckaaGreatDoor

/-!
  maps.Values at the map that gathered makes of items, as an iterator: its elements, each once, in whatever order.
-/
namespace Go.Proofs.YthoimepdioeckaaGreatDoor
open Go.RowKit Go.Shelf Go.Sort
attribute [local go_sem] Oper.semAt_some

theorem mapTL : Tryz.prog.underlying 94 = some (.map 9 22) := by kernel_rfl

set_option maxRecDepth 100000 in
set_option maxHeartbeats 2000000 in
theorem valuesL1_in (n : Nat) (hn : 1 ≤ n) (l Bm b nn : Nat) (acc : List Grp) (D0 : DataW Value) (hG : GatOf rowG vG acc D0) (J Jx : List Grp → World → Prop) (W : World) (hJ : AbidesFrom W.heap.size J)
    (hm : W.cell? ⟨Bm, 0, none⟩ = some (.map (some b))) (hown : W.ownsMap Tryz.prog 9 heldR b nn D0)
    (hY : ∀ pre x W1, J pre W1 → pre.length < acc.length → YieldAt Fence.wide (n - 1) Tryz.prog l (encG x) W1 fun e W' =>
      (e = .returned (.bool true) ∧ J (pre ++ [x]) W' ∧ KeepsWalks W1 W') ∨ (e = .returned (.bool false) ∧ Jx (pre ++ [x]) W')) (h0 : J [] W) :
    CallsIn Fence.wide n Tryz.prog 121 #[.func (.yield l) #[] #[], .pointer (some ⟨Bm, 0, none⟩)] W fun e W' => (∃ v, e = .returned v) ∧
      ((∃ ys, ys.Perm acc ∧ J ys W') ∨ (∃ pre, True ∧ Jx pre W')) := by
  have HY := Lib.hid hY
  have HG := Lib.hid hG
  clear hY hG
  refine callsIn_of_wp Tryz.func121 rfl trivial ?_ rfl
  simp only [Tryz.ntmps121, List.size_toArray, List.length_cons, List.length_nil, Nat.reduceAdd, Nat.reduceSub, Array.replicate_succ, Array.replicate_zero, List.push_toArray, List.append_toArray, List.nil_append, List.cons_append]
  gi_wp2_with (first
    | (gi_at_range; refine wpListIn_range_own _ rfl _ 94 rfl 9 22 (Maps.string_keyed Tryz.underlying9) mapTL _ b nn _ rfl hown ?_; intro w0 hrg0 hg0 hs0)
    | gi_in)
  go_frame
  gi_loopw [4] (fun _ wr => ∃ (left : Lit → Bool) (cnt : Nat) (ps : List Grp), wr.ranges Tryz.prog 9 heldR b W.heap.size nn D0 left cnt ∧ Hid (ps.length + cnt ≤ acc.length) ∧ Hid (Taken rowG acc left ps) ∧ J ps wr)
    (fun _ wr => wr.rangeLeft b W.heap.size)
  case atStart =>
    exact ⟨_, _, [], hrg0, (by show [].length + _ ≤ _; rw [HG.out.size]; simp), Taken.start HG.out, hJ [] W w0 none h0 hg0 (fun r e => by cases e)⟩
  case round =>
    obtain ⟨left, cnt, ps, hrg, hcs, hC, hJs⟩ := hrel
    gi_wp2_with (first
      | (gi_at_next; (refine wpListIn_next_ranges _ rfl _ rfl 9 (Maps.string_keyed Tryz.underlying9) heldR encStr (id : Value → Value) (fun key kl hk => by obtain ⟨x, hx, _⟩ := Maps.keyOf_str Tryz.underlying9 hk; exact ⟨x, hx⟩) (fun v y hv => ⟨v, rfl⟩) b W.heap.size nn _ _ _ rfl hrg ?_ ?_))
      | gi_in)
    · intro hc0 hl0
      gi_wp2
      go_end0
      exact ⟨⟨_, rfl⟩, .inl ⟨ps, hC.out.end_ HG.out.diff hl0, hJs⟩⟩
    · intro x c kl yd yp w2 cnt2 hkey hlk hv hat hrg2 hlt hg2 hs2 hen
      obtain ⟨x', ex, rfl, _⟩ := Maps.keyOf_str Tryz.underlying9 hkey
      obtain rfl : x = x' := encStr_inj ex
      obtain ⟨rfl, rfl⟩ : yd = .held c ∧ yp = [] := by have := heldR_inv hv; simpa using this
      obtain ⟨e, he, hte⟩ := (HG.out.has x).1 (Maps.has_true_of_atKey hat)
      subst hte
      have hce : c = vG e := by
        have h1 := HG.out.at_ e he .nil
        rw [hat .nil] at h1
        simpa using h1
      subst hce
      have hC2 := Lib.hid (hC.out.step HG.out he hlk)
      have hJ2 : J ps w2 := hJ ps wr w2 (some W.heap.size) hJs hg2 (fun r e => by cases e; exact ⟨Nat.le_refl _, hrg.iter_walk⟩)
      have hlt2 : ps.length < acc.length := by have := hcs.out; omega
      have hcs2 : Hid ((ps ++ [e]).length + cnt2 ≤ acc.length) := by have := hcs.out; show _ ≤ _; simp; omega
      have hy1 := HY.out ps e w2 hJ2 hlt2
      try dsimp only [id] at hen
      obtain ⟨fn, tmps, assign, body, hy, hR⟩ := hy1
      dsimp only [encG] at hy
      clear hs2 hkey hlk hv hat
      gi_wp2_with fail
      refine hR.mono ?_
      rintro e' W3 (⟨rfl, hJ3, hk3⟩ | ⟨rfl, hJx3⟩)
      · have hrg3 := hrg2.of_walks hk3
        gi_wp2_with fail
        go_roundw
        case rel => exact ⟨_, cnt2, ps ++ [e], hrg3, hcs2, hC2.out, hJ3⟩
        case measure => rw [hrg3.left_eq, hrg.left_eq]; omega
      · gi_wp2_with fail
        refine bodyPost_ret (results_none rfl _ _ _) rfl ?_
        exact ⟨⟨_, rfl⟩, .inr ⟨_, trivial, hJx3⟩⟩
end Go.Proofs.YthoimepdioeckaaGreatDoor

/-!
  slices.Concat over lists of items, as a contract.
-/
namespace Go.Proofs.YthoimepdioeckaaGreatDoor
open Go.RowKit

theorem wpList_append_itemsG {w : World} {ops : Array Oper} {rest : List Oper} {o : Oper} {a : Act} {Q : Exit → Act → World → Prop} (hgd : o.guard = none) (s x : Operand)
    (ho : o.op = .call { callee := .builtin .append, args := #[s, x], argTypes := #[22, 22] })
    (base : Nat) (v : Value) (os : List ItR) (hs : a.eval s = v) (hown : w.ownsRow base 60 2 v os.length (flatI os)) (p : Option Addr) (rs : List ItR) (cap : Nat) (hx : a.eval x = .slice p rs.length cap) (hX : ItemsIn w p rs) (hz : p = none → cap = 0)
    (hn : os.length + rs.length ≤ 1000000) (hbase : base ≤ w.heap.size)
    (h : ∀ v' w', w'.ownsRow base 60 2 v' (os.length + rs.length) (flatI (os ++ rs)) → Below base w w' → wpList Tryz.prog ops Q rest (a.put o.dst v') w') : wpList Tryz.prog ops Q (o :: rest) a w := by
  obtain ⟨i0, hi, hz0, hz1, hz2⟩ := info_parts infoI
  rcases p with _ | ad
  · have hc := hz rfl
    subst hc
    have hrs : rs = [] := by
      cases rs with
      | nil => rfl
      | cons y ys => obtain ⟨_, _, h, _⟩ := hX (by simp); cases h
    subst hrs
    refine wpList_append_own_none hgd s x 22 ho base 60 i0 2 Tryz.underlying22 hi v os.length (flatI os) hs hown hx (h _ w ?_ (Below.refl _ _))
    simpa using hown
  · refine wpList_append_own _ hgd s x 22 ho base 60 i0 (.agg #[.slice none 0 0, .int .i64 0]) 2 32 Tryz.underlying22 hi hz0 hz1 hz2 rfl (by decide) v os.length (flatI os) hs hown ad rs.length cap (flatI rs) hx (flatI_len rs) ?_ ?_ (by unfold maxLen; omega) (by omega) hbase (fun v' w' h1 h2 _ => h v' w' (by rw [flatI_app]; exact h1) ((Below.refl base w).grown h2 hbase (fun k e => (hown.lt k e).1)))
    · intro j u hu
      have hj : j < rs.length * 2 := by rw [← flatI_len]; exact (List.getElem?_eq_some_iff.1 hu).1
      obtain ⟨b, off, e, _, hra⟩ := hX (by omega)
      cases e
      rw [Go.WideShapes.add_plain]
      obtain ⟨g0, g1⟩ := flatI_get rs (j / 2) (by omega)
      obtain ⟨c0, c1, _⟩ := hra (j / 2) (by omega)
      have h2 : j % 2 = 0 ∨ j % 2 = 1 := by omega
      rcases h2 with h2 | h2
      · have e : j / 2 * 2 = j := by omega
        rw [e] at g0 c0
        rw [c0, ← hu, g0]
      · have e : j / 2 * 2 + 1 = j := by omega
        rw [Nat.add_assoc, e] at c1
        rw [e] at g1
        rw [c1, ← hu, g1]
    · intro u hu
      simp only [flatI, List.mem_flatMap, cellsI, List.mem_cons, List.not_mem_nil, or_false] at hu
      obtain ⟨y, _, rfl | rfl⟩ := hu <;> rfl
def OwnsI (W : World) (B : Nat) (v : Value) (os : List ItR) : Prop := W.ownsRow B 60 2 v os.length (flatI os)
def CatPost (w : World) (os : List ItR) (e : Ending) (w' : World) : Prop := ∃ v, e = .returned v ∧ OwnsI w' w.heap.size v os ∧ Below w.heap.size w w'
set_option maxRecDepth 100000 in
set_option maxHeartbeats 1000000 in
theorem GrowI_any (n : Nat) (hn : n ≤ 100000) (w : World) :
    Calls Tryz.prog 119 #[.slice none 0 0, .int .i64 (n : Int)] w (CatPost w []) := by
  by_cases h0 : 0 < n
  · have h0' : (0 : Int) < (n : Int) := by omega
    obtain ⟨i0, hi, hz0, hz1, hz2⟩ := info_parts infoI
    have happ := Lib.run_append_nil_zeros (P := Tryz.prog) w 22 3 22 60 i0 (.agg #[.slice none 0 0, .int .i64 0]) .i64 .i64 Tryz.underlying22 Tryz.underlying3 hi hz0 n (by omega) (by omega) (by omega) (by rw [hz2]; omega)
    generalize hcap : grownCap w n 0 60 = cap2 at happ
    have hcapge : n ≤ cap2 := by rw [← hcap]; exact grownCap_ge w _ 0 _
    have hcaple : cap2 ≤ maxLen := by rw [← hcap]; exact grownCap_le_maxLen w _ 0 _ (by unfold maxLen; omega)
    generalize hZ : (Builtin.zeroCells (Value.agg #[.slice none 0 0, .int .i64 0]).cells n ++ Builtin.zeroCells (Value.agg #[.slice none 0 0, .int .i64 0]).cells (cap2 - n)) = Z at happ
    have hZs : Z.size = cap2 * 2 := by rw [← hZ]; simp [size_zeroCells, Value.cells]; omega
    clear hcap hZ
    have hown : (w.drew.alloc (.cells Z 60)).ownsRow w.heap.size 60 2 (.slice (some ⟨w.heap.size, 0, none⟩) 0 cap2) 0 [] := World.ownsRow_made w.drew Z cap2 (Nat.le_refl _) hcaple hZs
    have hB : Below w.heap.size w (w.drew.alloc (.cells Z 60)) := ((Below.refl _ w).drew).alloc (Nat.le_refl _) _
    generalize w.drew.alloc (.cells Z 60) = w5 at happ hown hB
    go_enter Tryz.func119, Tryz.ntmps119
    go_wp2_with (at_builtin; refine Lib.wpList_append_run _ rfl _ _ _ _ rfl _ _ rfl rfl _ _ happ ?_)
    go_ret
    exact ⟨_, rfl, hown, hB⟩
  · obtain rfl : n = 0 := by omega
    go_enter Tryz.func119, Tryz.ntmps119
    go_wp2_with fail
    go_ret
    exact ⟨_, rfl, World.ownsRow_nil _ _ _ _, Below.refl _ _⟩

theorem flatG_next {gs : List Grp} {i : Nat} (h : i < gs.length) : flatG (gs.take (i + 1)) = flatG (gs.take i) ++ (gs[i]).2.2 := by
  rw [List.take_succ_eq_append_getElem h, flatG_app]; simp [flatG]
theorem flatG_le {gs : List Grp} {i : Nat} : (flatG (gs.take i)).length ≤ (flatG gs).length := by
  have : flatG gs = flatG (gs.take i) ++ flatG (gs.drop i) := by rw [← flatG_app, List.take_append_drop]
  rw [this, List.length_append]; omega

set_option maxRecDepth 100000 in
set_option maxHeartbeats 1000000 in
theorem concatG_any (B : Nat) (v : Value) (gs : List Grp) (hm : gs.length ≤ 100000) (hf : (flatG gs).length ≤ 100000) (w : World) (hown : w.ownsRow B 22 1 v gs.length (flatL gs)) (hg : ∀ g ∈ gs, ItemsIn w g.2.1.1 g.2.2 ∧ (g.2.1.1 = none → g.2.1.2 = 0)) :
    Calls Tryz.prog 73 #[v] w (CatPost w (flatG gs)) := by
  obtain ⟨p, c, rfl⟩ := slice_of_owns hown
  have hcell : ∀ i (h : i < gs.length), ∃ b, p = some ⟨b, 0, none⟩ ∧ b < w.heap.size ∧ w.cell? ⟨b, i, none⟩ = some (vG gs[i]) := fun i h => by
    rcases hown.2 with ⟨_, h0⟩ | ⟨b, cap, cur, he, _, hb, _⟩
    · omega
    · have hc := hown
      simp only [Value.slice.injEq, true_and] at he
      obtain ⟨rfl, rfl⟩ := he
      refine ⟨b, rfl, (Array.getElem?_eq_some_iff.1 hb).1, ?_⟩
      rw [hc.cellAt i (by omega)]
      simp [h]
  have HC := Lib.hid hcell
  have HG := Lib.hid hg
  have HGR := Lib.hid fun n h W => GrowI_any n h W
  clear hcell hg hown
  go_enter Tryz.func73, Tryz.ntmps73
  go_wp2_with fail
  go_loop [3, 5, 11] (fun t _ s => ∃ (i : Nat) (m : Nat), t = .int .i64 m ∧ s = .int .i64 i ∧ i ≤ gs.length ∧ Hid (m = (flatG (gs.take i)).length)) (fun _ _ s => gs.length - (intOf s).toNat)
  case atStart => exact ⟨0, 0, rfl, rfl, Nat.zero_le _, rfl⟩
  case round =>
    obtain ⟨i, m, rfl, rfl, hi, hmm⟩ := hrel
    by_cases hlt : i < gs.length
    · obtain ⟨b, rfl, hbl, c0⟩ := HC.out i hlt
      have hi0 : (0 : Int) ≤ (i : Int) := by omega
      have hi1 : (i : Int) < (gs.length : Int) := by omega
      have hnx := flatG_next hlt
      have hle : (flatG (gs.take (i + 1))).length ≤ (flatG gs).length := flatG_le
      have hl2 : (flatG (gs.take (i + 1))).length = m + (gs[i]).2.2.length := by rw [hnx, List.length_append, ← hmm.out]
      have HL := Lib.hid hl2.symm
      rw [hl2] at hle
      clear hnx hl2 hmm
      generalize gs[i] = g at c0 hle HL
      obtain ⟨gk, ⟨gp, gc⟩, gl⟩ := g
      dsimp only [vG] at c0 hle HL
      have hwr : IntKind.i64.wrap ((m : Int) + (gl.length : Int)) = ((m + gl.length : Nat) : Int) := by rw [IntWalk.i64_in _ (by omega)]; omega
      have hwr2 : wrap64 ((m : Int) + (gl.length : Int)) = ((m + gl.length : Nat) : Int) := by rw [IntWalk.wrap64_in _ (by omega)]; omega
      have hng : ¬ (((m + gl.length : Nat) : Int) < 0) := by omega
      have hng2 : decide (((m + gl.length : Nat) : Int) < 0) = false := decide_eq_false hng
      go_wp2_with fail
      go_round
      case rel => exact ⟨i + 1, m + gl.length, by first | rfl | go_num, by go_num, by omega, HL.out⟩
      case measure => simp [intOf]; omega
    · have hge : gs.length ≤ i := by omega
      have hie : i = gs.length := by omega
      have hme : m = (flatG gs).length := by have := hmm.out; rwa [hie, List.take_length] at this
      have hg := HGR.out m (by omega) w
      have HGW := Lib.hid hg
      clear hie hmm hg HGR hme
      go_wp2_with fail
      refine HGW.out.mono ?_
      rintro e w1 ⟨v1, rfl, hrow1, hB1⟩
      have HR1 := Lib.hid hrow1
      clear hrow1
      go_wp2_with fail
      go_loopw [6, 8, 27] (fun o _ s wr => ∃ (i : Nat), s = .int .i64 i ∧ i ≤ gs.length ∧ Hid (OwnsI wr w.heap.size o (flatG (gs.take i))) ∧ Below w.heap.size w wr) (fun _ _ s _ => gs.length - (intOf s).toNat)
      case atStart => exact ⟨0, rfl, Nat.zero_le _, HR1.out, hB1⟩
      case round =>
        clear hB1 HR1 hge
        obtain ⟨i, rfl, hi2, how, hB⟩ := hrel
        by_cases hlt : i < gs.length
        · obtain ⟨b, rfl, hbl, hc0⟩ := HC.out i hlt
          have c0 := (hB.cell (p := ⟨b, i, none⟩) hbl).trans hc0
          have hi0 : (0 : Int) ≤ (i : Int) := by omega
          have hi1 : (i : Int) < (gs.length : Int) := by omega
          have hnx := flatG_next hlt
          have hle : (flatG (gs.take (i + 1))).length ≤ (flatG gs).length := flatG_le
          rw [hnx, List.length_append] at hle
          have hgi := HG.out gs[i] (List.getElem_mem hlt)
          have hBs := hB.size
          clear hc0
          generalize gs[i] = g at c0 hle hnx hgi
          obtain ⟨gk, ⟨gp, gc⟩, gl⟩ := g
          dsimp only [vG] at c0 hle hnx hgi
          have HNX := Lib.hid hnx
          have HIT := Lib.hid (hgi.1.belowV hB)
          have HNN := Lib.hid hgi.2
          generalize flatG (gs.take i) = fl at how hle HNX
          clear hnx hgi
          go_wp2_with (at_builtin; refine wpList_append_itemsG rfl _ _ rfl w.heap.size _ fl rfl how.out gp gl gc rfl HIT.out HNN.out (by omega) hBs ?_; intro v2 w2 hown2 hb2)
          have HO2 := Lib.hid (show OwnsI w2 w.heap.size v2 (flatG (gs.take (i + 1))) by rw [HNX.out]; unfold OwnsI; rw [List.length_append]; exact hown2)
          clear hown2
          go_wp2_with fail
          go_roundw
          case rel => exact ⟨i + 1, by go_num, by omega, HO2.out, hB.trans hb2⟩
          case measure => simp [intOf]; omega
        · have hge : (gs.length : Int) ≤ (i : Int) := by omega
          have hie : i = gs.length := by omega
          have HF := Lib.hid (show OwnsI wr w.heap.size _ (flatG gs) by have := how.out; rwa [hie, List.take_length] at this)
          clear hie how
          go_wp2_with fail
          go_ret
          exact ⟨_, rfl, HF.out, hB⟩
end Go.Proofs.YthoimepdioeckaaGreatDoor

/-!
  slices.AppendSeq, slices.Collect and slices.Values at ints, against whatever iterator.
-/
namespace Go.Proofs.YthoimepdioeckaaGreatDoor
open Go.RowKit Go.Shelf
attribute [local go_sem] Oper.semAt_some

abbrev encK (x : Int) : Array Value := #[.int .i64 x]
abbrev intsL (xs : List Int) : List Value := xs.map (Value.int .i64)
theorem intsL_snoc (xs : List Int) (x : Int) : intsL (xs ++ [x]) = intsL xs ++ [.int .i64 x] := by simp
theorem infoK : (Tryz.prog.info? 3).map (fun i => (i.zero, i.size, i.bytes)) = some (some (.int .i64 0), 1, 8) := by kernel_rfl

set_option maxRecDepth 100000 in
set_option maxHeartbeats 2000000 in
theorem appendSeqK_in (n : Nat) (hn : 1 ≤ n) (gf : Nat) (lb : Array Value) (eg : ∀ args w, (callFunc gf args).run Tryz.prog w = .ok (.enter gf args) w) (n₀ : Nat) (S Sp : List Int → Prop) (N : Nat)
    (hN : N ≤ maxLen) (hNb : N * 8 ≤ 140737488355328) (w : World) (hn₀ : n₀ ≤ w.heap.size) (hseq : SeqStopsK Fence.wide (n - 1) Tryz.prog gf lb encK (Below n₀) S Sp N w) :
    CallsIn Fence.wide n Tryz.prog 151 #[.slice none 0 0, .func (.func gf) #[] lb] w fun e w' =>
      ∃ v xs, e = .returned v ∧ S xs ∧ w'.ownsRow w.heap.size 3 1 v xs.length (intsL xs) ∧ Below w.heap.size w w' := by
  have h1 : 1 ≤ n := hn
  obtain ⟨i0, hi, hz0, hz1, hz2⟩ := info_parts infoK
  refine callsIn_of_wp_marks Tryz.func151 rfl trivial ?_ rfl
  simp only [Tryz.ntmps151, List.size_toArray, List.length_cons, List.length_nil, Nat.reduceAdd, Nat.reduceSub, Array.replicate_succ, Array.replicate_zero, List.push_toArray, List.append_toArray, List.nil_append, List.cons_append]
  gi_wp2_with fail
  have bO := Boxed.new w 43 (.slice none 0 0)
  have hB0 : Below w.heap.size w (w.alloc (.cells #[.slice none 0 0] 43)) := (Below.refl _ w).alloc (Nat.le_refl _) _
  refine wpIn_rangeFunc_ownH (F := Fence.wide) rfl h1 (gf := gf) (lb := lb) rfl trivial eg hseq belowK_t (belowK_b (by simp; omega)) hB0 (fun _ => rfl)
    (fun pre W => (∃ v, Boxed W w.heap.size 43 v ∧ W.ownsRow w.heap.size 3 1 v pre.length (intsL pre) ∧ True) ∧ Below w.heap.size w W)
    (fun _ _ _ => False)
    (OwnFrom.and (Own.from (holdsRow_own w.heap.size w.heap.size 43 3 1 (fun pre => pre.length) (fun pre => intsL pre) (fun _ _ => True)) _) (ownFrom_below (Nat.le_refl _) (by simp)))
    (fun _ _ _ _ _ hs _ _ => hs)
    ⟨⟨_, bO, World.ownsRow_nil _ _ _ _, trivial⟩, hB0⟩
    (fun x a' _ => a' = { tmps := #[.slice none 0 0, .func (.func gf) #[] lb, .pointer (some ⟨w.heap.size, 0, none⟩), undef, .slice none 0 0, .int .i64 x, .func (.func gf) #[] lb, .int .i64 x, undef, undef, undef, undef, undef], defers := [] })
    (fun _ _ _ _ _ _ hs _ _ => hs)
    ?assign ?body ?done ?stop
  case assign =>
    rintro l pre x W K ⟨⟨v, hv, hrow, _⟩, hB⟩ hK
    simp only [encK]
    gi_wp2_with fail
    exact hK _ _ ((KeepsOthers.refl _).from _) (Below.refl _ _) ⟨⟨v, hv, hrow, trivial⟩, hB⟩ rfl
  case body =>
    rintro l pre x a' W hl ⟨r, hr⟩ ⟨⟨v, hv, hrow, _⟩, hB⟩ rfl hlt
    have hc := hv.cell
    gi_wp2_with (gi_at_builtin; refine wpListIn_append_own _ rfl _ _ 43 rfl w.heap.size 3 i0 (.int .i64 0) 1 8 Tryz.underlying43 hi hz0 hz1 hz2 rfl (by decide) _ _ _ rfl (hrow.alloc _) ⟨W.heap.size, 0, none⟩ 1 1 [.int .i64 x] rfl rfl (cells_new _ _ _) (by simp [Value.oneCell']) (by omega) (by omega) (by have := hB.size; simp; omega) ?_; intro v' w1 hown' hgrow _; obtain ⟨g', cap', rfl⟩ := ownsRow_succ hown'; obtain ⟨hv1, hv2, hr2, hk2, hb2⟩ := hv.appended (by decide) hrow hB.size (Nat.le_refl _) hown' hgrow; have hc1 := hv1.cell; have hf1 := hv1.frozen)
    refine ⟨hk2.from _, hb2.mono hn₀, ⟨_, hv2, ?_, trivial⟩, hB.trans hb2⟩
    rw [intsL_snoc, List.length_append]
    exact hr2
  case done =>
    rintro D ys W hD hS ⟨⟨v, hv, hrow, _⟩, hB⟩ hK
    have hc := hv.cell
    gi_wp2
    refine ⟨by simp, .inl ⟨_, _, rfl, run_takeDeferred hK, ?_⟩⟩
    exact ⟨_, results_tmp rfl _ _ _, v, ys, rfl, hS, ownsRow_putObj hrow _ hK rfl, hB.trans (belowK_b (w := w) (Nat.le_refl _) W D _ _ (by simp at hD; omega) hK rfl rfl)⟩
  case stop =>
    rintro D c pre W _ _ h _
    exact h.elim

theorem collectK_in (n : Nat) (hn : 2 ≤ n) (gf : Nat) (lb : Array Value) (eg : ∀ args w, (callFunc gf args).run Tryz.prog w = .ok (.enter gf args) w) (n₀ : Nat) (S Sp : List Int → Prop) (N : Nat)
    (hN : N ≤ maxLen) (hNb : N * 8 ≤ 140737488355328) (w : World) (hn₀ : n₀ ≤ w.heap.size) (hseq : SeqStopsK Fence.wide (n - 1 - 1) Tryz.prog gf lb encK (Below n₀) S Sp N w) :
    Calls Tryz.prog 116 #[.func (.func gf) #[] lb] w fun e w' =>
      ∃ v xs, e = .returned v ∧ S xs ∧ w'.ownsRow w.heap.size 3 1 v xs.length (intsL xs) ∧ Below w.heap.size w w' := by
  have hc := Lib.hid (callsIn_wide.1 (appendSeqK_in (n - 1) (by omega) gf lb eg n₀ S Sp N hN hNb w hn₀ hseq))
  go_enter Tryz.func116, Tryz.ntmps116
  go_wp2_with (go_at_call 151; refine hc.out.mono ?_; rintro e w' ⟨v, xs, rfl, hS, hrow, hb⟩)
  go_ret
  exact ⟨v, xs, rfl, hS, hrow, hb⟩

theorem take_snocK {xs : List Int} {i : Nat} (hi : i < xs.length) : xs.take i ++ [xs[i]?.getD 0] = xs.take (i + 1) := by
  rw [List.take_succ_eq_append_getElem hi]; simp [hi]

set_option maxRecDepth 100000 in
set_option maxHeartbeats 2000000 in
theorem values1K_in (n : Nat) (hn : 1 ≤ n) (l B bk off cap n₀ : Nat) (xs : List Int) (hm : xs.length ≤ 10000) (J Jx : List Int → World → Prop) (W : World)
    (_hJ : AbidesFrom W.heap.size J) (hn₀ : n₀ ≤ W.heap.size) (hbk : bk < n₀)
    (hS : W.cell? ⟨B, 0, none⟩ = some (.slice (some ⟨bk, off, none⟩) xs.length cap)) (hX : IntsAt W bk off xs)
    (hY : ∀ pre x W1, J pre W1 → pre.length < xs.length → YieldAt Fence.wide (n - 1) Tryz.prog l (encK x) W1 fun e W' =>
      (e = .returned (.bool true) ∧ J (pre ++ [x]) W' ∧ Below n₀ W1 W') ∨ (e = .returned (.bool false) ∧ Jx (pre ++ [x]) W')) (h0 : J [] W) :
    CallsIn Fence.wide n Tryz.prog 118 #[.func (.yield l) #[] #[], .pointer (some ⟨B, 0, none⟩)] W fun e W' => (∃ v, e = .returned v) ∧
      ((∃ ys, ys = xs ∧ J ys W') ∨ (∃ pre, pre <+: xs ∧ Jx pre W')) := by
  have HY := Lib.hid hY
  have HX := Lib.hid hX
  clear hY hX
  refine callsIn_of_wp Tryz.func118 rfl trivial ?_ rfl
  simp only [Tryz.ntmps118, List.size_toArray, List.length_cons, List.length_nil, Nat.reduceAdd, Nat.reduceSub, Array.replicate_succ, Array.replicate_zero, List.push_toArray, List.append_toArray, List.nil_append, List.cons_append]
  gi_wp2_with fail
  gi_loopw [7] (fun a wr => ∃ (i : Nat), a = .int .i64 i ∧ i ≤ xs.length ∧ J (xs.take i) wr ∧ Below n₀ W wr)
    (fun a _ => (xs.length - (intOf a).toNat))
  case atStart =>
    exact ⟨0, rfl, Nat.zero_le _, h0, Below.refl _ _⟩
  case round =>
    obtain ⟨i, rfl, hi, hJi, hBi⟩ := hrel
    by_cases hlt : i < xs.length
    · have cx0 := HX.out.belowV hBi hbk i hlt
      have hlt' : (i : Int) < (xs.length : Int) := by omega
      have hi0 : (0 : Int) ≤ (i : Int) := by omega
      have hsz : n₀ ≤ wr.heap.size := Nat.le_trans hn₀ hBi.size
      have hy1 := HY.out (xs.take i) (xs[i]?.getD 0) wr hJi (by simp; omega)
      rw [take_snocK hlt] at hy1
      generalize (xs[i]?.getD 0) = x at hy1 cx0
      obtain ⟨fn, tmps, assign, body, hy, hR⟩ := hy1
      dsimp only [encK] at hy
      gi_wp2_with fail
      refine hR.mono ?_
      rintro e W3 (⟨rfl, hJ3, hk3⟩ | ⟨rfl, hJx3⟩)
      · have hB3 := hBi.trans hk3
        gi_wp2_with fail
        go_roundw
        case rel => exact ⟨i + 1, by go_num, by omega, hJ3, hB3⟩
        case measure => simp [intOf]; omega
      · gi_wp2_with fail
        refine bodyPost_ret (results_none rfl _ _ _) rfl ?_
        exact ⟨⟨_, rfl⟩, .inr ⟨xs.take (i + 1), List.take_prefix _ _, hJx3⟩⟩
    · have hi' : i = xs.length := by omega
      have hge : xs.length ≤ i := by omega
      have hge' : (xs.length : Int) ≤ (i : Int) := by omega
      gi_wp2_with fail
      go_end0
      exact ⟨⟨_, rfl⟩, .inl ⟨xs.take i, by rw [hi', List.take_length], hJi⟩⟩

theorem valuesK_stops (n : Nat) (hn : 1 ≤ n) (B bk off cap n₀ : Nat) (xs : List Int) (hm : xs.length ≤ 10000) (w : World) (hn₀ : n₀ ≤ w.heap.size) (hB : B < n₀) (hbk : bk < n₀)
    (hS : w.cell? ⟨B, 0, none⟩ = some (.slice (some ⟨bk, off, none⟩) xs.length cap)) (hX : IntsAt w bk off xs) :
    SeqStopsK Fence.wide n Tryz.prog 118 #[.pointer (some ⟨B, 0, none⟩)] encK (Below n₀) (fun ys => ys = xs) (fun pre => pre <+: xs) xs.length w := fun l J Jx W hW hJ _ hY h0 =>
  values1K_in n hn l B bk off cap n₀ xs hm J Jx W hJ (Nat.le_trans hn₀ (hW.size)) hbk ((hW.cell (p := ⟨B, 0, none⟩) (Nat.lt_of_lt_of_le hB hn₀)).trans hS) (hX.belowV hW (Nat.lt_of_lt_of_le hbk hn₀)) hY h0
/-- A slice of no windows, nil too. -/
theorem values1K_nil (n : Nat) (hn : 1 ≤ n) (l B cap : Nat) (p : Option Addr) (J Jx : List Int → World → Prop) (W : World)
    (hS : W.cell? ⟨B, 0, none⟩ = some (.slice p 0 cap)) (h0 : J [] W) :
    CallsIn Fence.wide n Tryz.prog 118 #[.func (.yield l) #[] #[], .pointer (some ⟨B, 0, none⟩)] W fun e W' => (∃ v, e = .returned v) ∧
      ((∃ ys, ys = [] ∧ J ys W') ∨ (∃ pre, pre <+: [] ∧ Jx pre W')) := by
  have h1 := hn
  refine callsIn_of_wp Tryz.func118 rfl trivial ?_ rfl
  simp only [Tryz.ntmps118, List.size_toArray, List.length_cons, List.length_nil, Nat.reduceAdd, Nat.reduceSub, Array.replicate_succ, Array.replicate_zero, List.push_toArray, List.append_toArray, List.nil_append, List.cons_append]
  gi_wp2_with fail
  gi_loopw [7] (fun a wr => a = .int .i64 0 ∧ J [] wr) (fun a _ => 0)
  case atStart => exact ⟨rfl, h0⟩
  case round =>
    obtain ⟨rfl, hJi⟩ := hrel
    gi_wp2_with fail
    go_end0
    exact ⟨⟨_, rfl⟩, .inl ⟨[], rfl, hJi⟩⟩

theorem valuesK_stops_nil (n : Nat) (hn : 1 ≤ n) (B cap n₀ : Nat) (p : Option Addr) (w : World) (hB : B < n₀) (hn₀ : n₀ ≤ w.heap.size)
    (hS : w.cell? ⟨B, 0, none⟩ = some (.slice p 0 cap)) :
    SeqStopsK Fence.wide n Tryz.prog 118 #[.pointer (some ⟨B, 0, none⟩)] encK (Below n₀) (fun ys => ys = []) (fun pre => pre <+: []) 0 w := fun l J Jx W hW _ _ _ h0 =>
  values1K_nil n hn l B cap p J Jx W ((hW.cell (p := ⟨B, 0, none⟩) (Nat.lt_of_lt_of_le hB hn₀)).trans hS) h0

theorem valuesK_any (p : Option Addr) (m cap : Nat) (w : World) :
    Calls Tryz.prog 71 #[.slice p m cap] w fun e w' => e = .returned (.func (.func 118) #[] #[.pointer (some ⟨w.heap.size, 0, none⟩)]) ∧ w' = w.alloc (.cells #[.slice p m cap] 43) := by
  go_enter Tryz.func71, Tryz.ntmps71
  go_wp2
  go_ret
  exact ⟨rfl, rfl⟩
end Go.Proofs.YthoimepdioeckaaGreatDoor

/-!
  DERIVED: THE SHELF's CONTRACTS AT THIS DUMP, IN PLAIN WORDS (tools/lay-plain.mjs out of 'YthoimepdioeckaaGreatDoorLaySISrc.lean', which tools/lay-shelf.mjs wrote): THE SAME DECLARATIONS UNDER THE SAME NAMES: 'import', 'namespace', 'open', 'def', 'theorem' AND NOTHING ELSE: no command of the shelf's: FOR A HAND-IN. Each laying: the table of numbers ('.._ren') and one theorem, a field a fact of the dump's own or the kernel's comparison; each contract: ONE APPLICATION.
-/
namespace Go.Proofs
open Go.Shelf
def Tryz.sortInts_ren : Go.Shelf.Ren := ⟨fun | 189 => 117 | 125 => 123 | 257 => 152 | 128 => 161 | 129 => 162 | 294 => 189 | 295 => 190 | 296 => 191 | 297 => 192 | 298 => 193 | 299 => 194 | 216 => 195 | 300 => 196 | 301 => 197 | 328 => 230 | 329 => 199 | 330 => 200 | 331 => 231 | 332 => 232 | 215 => 204 | 343 => 253 | n => n, fun | 28 => 43 | 3 => 3 | 46 => 152 | 0 => 0 | 51 => 190 | 53 => 192 | 4 => 4 | 183 => 184 | 182 => 183 | 131 => 123 | 5 => 5 | 9 => 9 | 218 => 220 | 222 => 224 | 228 => 250 | 229 => 251 | n => n, fun | n => n⟩
theorem Tryz.sortInts : Go.Proofs.Lays.n189 Tryz.prog Tryz.sortInts_ren := {
  mixed := by kernel_rfl
  f125 := Tryz.func123.trans (congrArg some (by kernel_rfl))
  f128 := Tryz.func161.trans (congrArg some (by kernel_rfl))
  f129 := Tryz.func162.trans (congrArg some (by kernel_rfl))
  f189 := Tryz.func117.trans (congrArg some (by kernel_rfl))
  f215 := Tryz.func204.trans (congrArg some (by kernel_rfl))
  f216 := Tryz.func195.trans (congrArg some (by kernel_rfl))
  f257 := Tryz.func152.trans (congrArg some (by kernel_rfl))
  f294 := Tryz.func189.trans (congrArg some (by kernel_rfl))
  f295 := Tryz.func190.trans (congrArg some (by kernel_rfl))
  f296 := Tryz.func191.trans (congrArg some (by kernel_rfl))
  f297 := Tryz.func192.trans (congrArg some (by kernel_rfl))
  f298 := Tryz.func193.trans (congrArg some (by kernel_rfl))
  f299 := Tryz.func194.trans (congrArg some (by kernel_rfl))
  f300 := Tryz.func196.trans (congrArg some (by kernel_rfl))
  f301 := Tryz.func197.trans (congrArg some (by kernel_rfl))
  f328 := Tryz.func230.trans (congrArg some (by kernel_rfl))
  f329 := Tryz.func199.trans (congrArg some (by kernel_rfl))
  f330 := Tryz.func200.trans (congrArg some (by kernel_rfl))
  f331 := Tryz.func231.trans (congrArg some (by kernel_rfl))
  f332 := Tryz.func232.trans (congrArg some (by kernel_rfl))
  f343 := Tryz.func253.trans (congrArg some (by kernel_rfl))
  t0 := Tryz.underlying0
  a0 := Tryz.isAgg0
  z0 := Tryz.sizeOf0
  v0 := Tryz.zeroValue0
  t3 := Tryz.underlying3
  a3 := Tryz.isAgg3
  z3 := Tryz.sizeOf3
  v3 := Tryz.zeroValue3
  t4 := Tryz.underlying4
  a4 := Tryz.isAgg4
  z4 := Tryz.sizeOf4
  v4 := Tryz.zeroValue4
  t5 := Tryz.underlying5
  a5 := Tryz.isAgg5
  z5 := Tryz.sizeOf5
  v5 := Tryz.zeroValue5
  t9 := Tryz.underlying9
  a9 := Tryz.isAgg9
  z9 := Tryz.sizeOf9
  v9 := Tryz.zeroValue9
  t28 := Tryz.underlying43
  a28 := Tryz.isAgg43
  z28 := Tryz.sizeOf43
  v28 := Tryz.zeroValue43
  t46 := Tryz.underlying152
  a46 := Tryz.isAgg152
  z46 := Tryz.sizeOf152
  v46 := Tryz.zeroValue152
  t51 := Tryz.underlying190
  a51 := Tryz.isAgg190
  z51 := Tryz.sizeOf190
  v51 := Tryz.zeroValue190
  t53 := Tryz.underlying192
  a53 := Tryz.isAgg192
  z53 := Tryz.sizeOf192
  v53 := Tryz.zeroValue192
  t131 := Tryz.underlying123
  a131 := Tryz.isAgg123
  z131 := Tryz.sizeOf123
  v131 := Tryz.zeroValue123
  t182 := Tryz.underlying183
  a182 := Tryz.isAgg183
  z182 := Tryz.sizeOf183
  v182 := Tryz.zeroValue183
  t183 := Tryz.underlying184
  a183 := Tryz.isAgg184
  z183 := Tryz.sizeOf184
  v183 := Tryz.zeroValue184
  t218 := Tryz.underlying220
  a218 := Tryz.isAgg220
  z218 := Tryz.sizeOf220
  v218 := Tryz.zeroValue220
  t222 := Tryz.underlying224
  a222 := Tryz.isAgg224
  z222 := Tryz.sizeOf224
  v222 := Tryz.zeroValue224
  t228 := Tryz.underlying250
  a228 := Tryz.isAgg250
  z228 := Tryz.sizeOf250
  v228 := Tryz.zeroValue250
  t229 := Tryz.underlying251
  a229 := Tryz.isAgg251
  z229 := Tryz.sizeOf251
  v229 := Tryz.zeroValue251 }
def Tryz.compactInts_ren : Go.Shelf.Ren := ⟨fun | 20 => 69 | n => n, fun | 22 => 43 | 3 => 3 | 4 => 4 | 0 => 0 | n => n, fun | n => n⟩
theorem Tryz.compactInts : Go.Proofs.Lays2.n20 Tryz.prog Tryz.compactInts_ren := {
  mixed := by kernel_rfl
  f20 := Tryz.func69.trans (congrArg some (by kernel_rfl))
  t0 := Tryz.underlying0
  a0 := Tryz.isAgg0
  z0 := Tryz.sizeOf0
  v0 := Tryz.zeroValue0
  t3 := Tryz.underlying3
  a3 := Tryz.isAgg3
  z3 := Tryz.sizeOf3
  v3 := Tryz.zeroValue3
  t4 := Tryz.underlying4
  a4 := Tryz.isAgg4
  z4 := Tryz.sizeOf4
  v4 := Tryz.zeroValue4
  t22 := Tryz.underlying43
  a22 := Tryz.isAgg43
  z22 := Tryz.sizeOf43
  v22 := Tryz.zeroValue43
  i3 := by kernel_rfl }
end Go.Proofs

/-!
  slices.Sorted and slices.Compact at ints, as contracts: the columns of a key in their order, each once.
-/
namespace Go.Proofs.YthoimepdioeckaaGreatDoor
open Go.RowKit Go.Shelf Go.Lib Go.Sort

theorem heap_sortedN {w : World} {g n : Nat} {os : Array Obj} {cur : Array Value} {e : TypeId} {fr : Nat × Nat} (d : Array Int) (hb : w.heap[g]? = some (.cells cur e fr)) :
    (grow (putRow (Value.int .i64) (Sort.ahead w n) g 0 d) os).heap[g]? = some (.cells (putCells (Value.int .i64) 0 d cur) e fr) := by
  have hg : g < w.heap.size := (Array.getElem?_eq_some_iff.1 hb).1
  rw [heap_grow_old _ _ (by simpa [putRow, mapBlock, Sort.ahead] using hg)]
  simp [putRow, mapBlock, Sort.ahead, Array.getElem?_modify, hb, onCells]
theorem grownBy_sortedN {w : World} {g n : Nat} {os : Array Obj} (d : Array Int) : w.grownBy (grow (putRow (Value.int .i64) (Sort.ahead w n) g 0 d) os) (some g) := by
  refine ⟨rfl, rfl, rfl, by simp [putRow, mapBlock, Sort.ahead], fun k hk hne => ?_⟩
  rw [heap_grow_old _ _ (by simpa [putRow, mapBlock, Sort.ahead] using hk)]
  have : g ≠ k := fun e => hne (by rw [e])
  simp [putRow, mapBlock, Sort.ahead, Array.getElem?_modify, this]
theorem take_putCellsN (cur : Array Value) (zs : List Int) (h : zs.length ≤ cur.size) : (putCells (Value.int .i64) 0 zs.toArray cur).toList.take zs.length = intsL zs := by
  apply List.ext_getElem?
  intro j
  by_cases hj : j < zs.length
  · rw [List.getElem?_take_of_lt hj, Array.getElem?_toList]
    have hc : j < cur.size := by omega
    simp only [putCells, Array.getElem?_mapIdx, Array.getElem?_eq_getElem hc, Option.map_some, Nat.zero_add, List.size_toArray, Nat.zero_le, true_and, if_pos hj, Nat.sub_zero]
    simp [hj]
  · rw [List.getElem?_take_eq_none (by omega), List.getElem?_eq_none (by simp; omega)]
/-- A row of the call's own, laid anew in its place. -/
theorem own_newN {w : World} {B g cap n : Nat} {os : Array Obj} {zs ts : List Int} (hl : ts.length = zs.length) (h : w.ownsRow B 3 1 (.slice (some ⟨g, 0, none⟩) zs.length cap) zs.length (intsL zs)) :
    (grow (putRow (Value.int .i64) (Sort.ahead w n) g 0 ts.toArray) os).ownsRow B 3 1 (.slice (some ⟨g, 0, none⟩) zs.length cap) zs.length (intsL ts) := by
  rcases h.2 with ⟨h', _⟩ | ⟨g', cap', cur, h', hbs, hb, h1, h2, h3, h4⟩
  · simp at h'
  · simp only [Value.slice.injEq, Option.some.injEq, Addr.mk.injEq, and_true, true_and] at h'
    obtain ⟨rfl, rfl⟩ := h'
    refine ⟨by simp [hl], .inr ⟨g, cap, _, rfl, hbs, heap_sortedN ts.toArray hb, h1, h2, by simp [putCells, h3], ?_⟩⟩
    have ht := take_putCellsN cur ts (by omega)
    rw [hl] at ht
    simpa using ht
theorem holdsN {w : World} {B g cap : Nat} {zs : List Int} (h : w.ownsRow B 3 1 (.slice (some ⟨g, 0, none⟩) zs.length cap) zs.length (intsL zs)) : Holds (Value.int .i64) w g 0 zs.toArray := fun j hj => by
  have hj' : j < zs.length := by simpa using hj
  refine ⟨?_, h.frozenAt _⟩
  rw [Nat.zero_add, h.cellAt j (by omega)]
  simp [hj']

/-! ### Runs of equal numbers, of an ascending list -/
theorem compact_facts {zs : List Int} (hs : zs.Pairwise (· ≤ ·)) : (∀ t, t ∈ compact zs ↔ t ∈ zs) ∧ (compact zs).Pairwise (· < ·) := by
  have hle : ∀ i j, i ≤ j → j < zs.length → zs.toArray[i]! ≤ zs.toArray[j]! := fun i j hij hj => by
    rw [getElem!_pos zs.toArray i (by simp; omega), getElem!_pos zs.toArray j (by simpa using hj)]
    rcases Nat.lt_or_eq_of_le hij with h | h
    · have := List.pairwise_iff_getElem.1 hs i j (by omega) hj h
      simpa using this
    · subst h; exact Int.le_refl _
  have key : ∀ m, m ≤ zs.length → (∀ t, t ∈ compactUpTo zs.toArray m ↔ ∃ j, j < m ∧ zs.toArray[j]! = t) ∧ (compactUpTo zs.toArray m).Pairwise (· < ·) := by
    intro m
    induction m with
    | zero => intro _; simp [compactUpTo]
    | succ m ih =>
      intro hm
      obtain ⟨h1, h2⟩ := ih (by omega)
      rw [compactUpTo_succ]
      by_cases hk : keeps zs.toArray m = true
      · rw [if_pos hk]
        refine ⟨fun t => ?_, ?_⟩
        · rw [List.mem_append, h1, List.mem_singleton]
          constructor
          · rintro (⟨j, hj, e⟩ | e)
            · exact ⟨j, by omega, e⟩
            · exact ⟨m, by omega, e.symm⟩
          · rintro ⟨j, hj, e⟩
            by_cases hjm : j = m
            · subst hjm; exact .inr e.symm
            · exact .inl ⟨j, by omega, e⟩
        · rw [List.pairwise_append]
          refine ⟨h2, by simp, fun a ha b hb => ?_⟩
          rw [List.mem_singleton] at hb
          obtain ⟨j, hj, rfl⟩ := (h1 a).1 ha
          subst hb
          have h3 : m = 0 ∨ zs.toArray[m]! ≠ zs.toArray[m - 1]! := by simpa [keeps] using hk
          have h4 := hle j (m - 1) (by omega) (by omega)
          have h5 := hle (m - 1) m (by omega) (by omega)
          rcases h3 with h3 | h3
          · omega
          · show zs.toArray[j]! < zs.toArray[m]!
            omega
      · rw [if_neg hk, List.append_nil]
        have h3 : m ≠ 0 ∧ zs.toArray[m]! = zs.toArray[m - 1]! := by
          unfold keeps at hk
          rw [decide_eq_true_eq] at hk
          exact ⟨fun e => hk (.inl e), Classical.byContradiction fun e => hk (.inr e)⟩
        refine ⟨fun t => ?_, h2⟩
        rw [h1]
        constructor
        · rintro ⟨j, hj, e⟩; exact ⟨j, by omega, e⟩
        · rintro ⟨j, hj, e⟩
          by_cases hjm : j = m
          · subst hjm; exact ⟨j - 1, by omega, h3.2.symm.trans e⟩
          · exact ⟨j, by omega, e⟩
  obtain ⟨k1, k2⟩ := key zs.length (Nat.le_refl _)
  refine ⟨fun t => (k1 t).trans ⟨?_, fun h => ?_⟩, k2⟩
  · rintro ⟨j, hj, rfl⟩
    rw [getElem!_pos zs.toArray j (by simpa using hj)]
    simp
  · obtain ⟨j, hj, rfl⟩ := List.mem_iff_getElem.1 h
    exact ⟨j, hj, by rw [getElem!_pos zs.toArray j (by simpa using hj)]; simp⟩
/-- Ascending numbers below n are at most n. -/
theorem asc_le {n : Nat} : ∀ {l : List Int} {a : Int}, l.Pairwise (· < ·) → (∀ t ∈ l, a ≤ t ∧ t < (n : Int)) → a ≤ (n : Int) → (l.length : Int) ≤ (n : Int) - a
  | [], a, _, _, h => by simp; omega
  | x :: l, a, hp, hl, _ => by
    rw [List.pairwise_cons] at hp
    have hx := hl x (by simp)
    have := asc_le (l := l) (a := x + 1) hp.2 (fun t ht => ⟨by have := hp.1 t ht; omega, (hl t (by simp [ht])).2⟩) (by omega)
    simp only [List.length_cons]; omega

def SortKPost (w : World) (key : List Int) (e : Ending) (w' : World) : Prop := ∃ g cap zs, e = .returned (.slice (some ⟨g, 0, none⟩) zs.length cap) ∧ List.Perm zs key ∧ zs.Pairwise (· ≤ ·) ∧ w'.ownsRow w.heap.size 3 1 (.slice (some ⟨g, 0, none⟩) zs.length cap) zs.length (intsL zs) ∧ Below w.heap.size w w'
set_option maxRecDepth 100000 in
set_option maxHeartbeats 1000000 in
theorem sortedK_any (B : Nat) (q : Option Addr) (key : List Int) (d : Nat) (h0 : 0 < key.length) (hm : key.length ≤ 10000) (w : World) (hB : B < w.heap.size) (hS : w.cell? ⟨B, 0, none⟩ = some (.slice q key.length d)) (hC : IntsIn w q key) :
    Calls Tryz.prog 70 #[.func (.func 118) #[] #[.pointer (some ⟨B, 0, none⟩)]] w (SortKPost w key) := by
  obtain ⟨bk, off, rfl, hbk, hX⟩ := hC h0
  have hc := collectK_in 3 (by omega) 118 #[.pointer (some ⟨B, 0, none⟩)] (enters_of Tryz.func118 (by kernel_rfl) rfl) w.heap.size (fun ys => ys = key) (fun pre => pre <+: key) key.length (by unfold maxLen; omega) (by omega) w (Nat.le_refl _) (valuesK_stops (3 - 1 - 1) (by omega) B bk off d w.heap.size key hm w (Nat.le_refl _) hB hbk hS hX)
  have HC := Lib.hid hc
  have H0 := Lib.hid (And.intro h0 hm)
  clear hc hC hX hS h0 hm
  go_enter Tryz.func70, Tryz.ntmps70
  go_wp2_with fail
  refine HC.out.mono ?_
  rintro e w1 ⟨v, xs, rfl, rfl, hown, hb1⟩
  rcases hown.2 with ⟨_, hz⟩ | ⟨g, cap, cur, rfl, hbs, hb, h1, h2, h3, h4⟩
  · have := H0.out.1; omega
  · have hsort := Any.slices_Sort_int Tryz.sortInts g 0 cap xs w1 (holdsN hown) ((Array.getElem?_eq_some_iff.1 hb).1) (by have := H0.out.2; omega)
    change Calls Tryz.prog 117 _ _ _ at hsort
    have HSO := Lib.hid hsort
    have HOW := Lib.hid hown
    clear hsort hown hb h1 h2 h3 h4
    go_wp2_with fail
    refine HSO.out.mono ?_
    rintro e w2 ⟨rfl, n, os, rfl⟩
    have hp : (xs.mergeSort fun x y => decide (x ≤ y)).Perm xs := List.mergeSort_perm _ _
    have hs : (xs.mergeSort fun x y => decide (x ≤ y)).Pairwise (· ≤ ·) := by
      have := List.pairwise_mergeSort (le := fun x y : Int => decide (x ≤ y)) (fun a b c h1 h2 => by rw [decide_eq_true_eq] at *; omega) (fun a b => by simp; omega) xs
      exact this.imp fun h => of_decide_eq_true h
    have hl : (xs.mergeSort fun x y => decide (x ≤ y)).length = xs.length := hp.length_eq
    have ho2 := own_newN (n := n) (os := os) hl HOW.out
    have hg2 := grownBy_sortedN (w := w1) (g := g) (n := n) (os := os) (xs.mergeSort fun x y => decide (x ≤ y)).toArray
    have HB2 := Lib.hid (hb1.grown hg2 hb1.size (fun k e => by cases e; exact hbs))
    generalize grow (putRow (Value.int .i64) (Sort.ahead w1 n) g 0 (xs.mergeSort fun x y => decide (x ≤ y)).toArray) os = W2 at ho2 HB2
    have HO2 := Lib.hid ho2
    have HPS := Lib.hid (And.intro hp (And.intro hs hl))
    clear ho2 hg2 hp hs hl
    go_wp2_with fail
    go_ret
    refine ⟨g, cap, xs.mergeSort fun x y => decide (x ≤ y), by rw [HPS.out.2.2] <;> rfl, HPS.out.1, HPS.out.2.1, ?_, HB2.out⟩
    rw [HPS.out.2.2]
    exact HO2.out

theorem compactK_any (B g cap : Nat) (zs : List Int) (hm : zs.length ≤ 10000) (hs : zs.Pairwise (· ≤ ·)) (w : World) (hB : B ≤ w.heap.size) (hown : w.ownsRow B 3 1 (.slice (some ⟨g, 0, none⟩) zs.length cap) zs.length (intsL zs)) :
    Calls Tryz.prog 69 #[.slice (some ⟨g, 0, none⟩) zs.length cap] w fun e w' => ∃ ds : List Int, e = .returned (.slice (some ⟨g, 0, none⟩) ds.length cap) ∧ (∀ t, t ∈ ds ↔ t ∈ zs) ∧ ds.Pairwise (· < ·) ∧ IntsIn w' (some ⟨g, 0, none⟩) ds ∧ Below B w w' := by
  rcases hown.2 with ⟨h', _⟩ | ⟨g', cap', cur, h', hbs, hb, h1, h2, h3, h4⟩
  · simp at h'
  · simp only [Value.slice.injEq, Option.some.injEq, Addr.mk.injEq, and_true, true_and] at h'
    obtain ⟨rfl, rfl⟩ := h'
    have hc := Any.slices_Compact_int Tryz.compactInts g 0 cap zs w (holdsN hown) (by omega) h1
    change Calls Tryz.prog 69 _ _ _ at hc
    refine hc.mono ?_
    rintro e w2 ⟨rfl, n, rfl⟩
    obtain ⟨c1, c2⟩ := compact_facts hs
    have hle : (compact zs).length ≤ zs.length := by
      unfold compact compactUpTo
      rw [List.length_map]
      exact Nat.le_trans (List.length_filter_le _ _) (by simp)
    have hl : (compact zs ++ List.replicate (zs.length - (compact zs).length) (0 : Int)).length = zs.length := by simp; omega
    have e0 : ∀ W : World, grow W #[] = W := fun W => by cases W; simp [grow]
    have ho := own_newN (n := n) (os := #[]) hl hown
    have hg := grownBy_sortedN (w := w) (g := g) (n := n) (os := #[]) (compact zs ++ List.replicate (zs.length - (compact zs).length) (0 : Int)).toArray
    rw [e0] at ho hg
    refine ⟨compact zs, rfl, c1, c2, fun hp => ⟨g, 0, rfl, Nat.lt_of_lt_of_le ((Array.getElem?_eq_some_iff.1 hb).1) hg.size, fun i hi => ?_⟩, (Below.refl B w).grown hg hB (fun k e => by cases e; exact hbs)⟩
    rw [Nat.zero_add, ho.cellAt i (by omega)]
    rw [show intsL (compact zs ++ List.replicate (zs.length - (compact zs).length) (0 : Int)) = intsL (compact zs) ++ intsL (List.replicate (zs.length - (compact zs).length) (0 : Int)) from List.map_append, List.getElem?_append_left (by simpa using hi)]
    simp [hi]
end Go.Proofs.YthoimepdioeckaaGreatDoor

/-!
  Groups of rows whose lists are the call's own, each in a block of its own: kept while one of them grows, one comes new, one goes.
-/
namespace Go.Proofs.YthoimepdioeckaaGreatDoor
open Go.RowKit

def OwnG (W : World) (B : Nat) (acc : List Grp) : Prop :=
  (∀ g ∈ acc, W.ownsRow B 60 2 (vG g) g.2.2.length (flatI g.2.2) ∧ 0 < g.2.2.length) ∧ acc.Pairwise fun a b => (vG a).ownBlock ≠ (vG b).ownBlock
theorem OwnG.nil (W : World) (B : Nat) : OwnG W B [] := ⟨fun _ h => (by cases h), List.Pairwise.nil⟩
theorem OwnG.below {W W' : World} {B : Nat} {acc : List Grp} (h : OwnG W B acc) (hb : Below W.heap.size W W') : OwnG W' B acc := ⟨fun g hg => ⟨owns_below (h.1 g hg).1 hb, (h.1 g hg).2⟩, h.2⟩
theorem OwnG.block {W : World} {B : Nat} {acc : List Grp} (h : OwnG W B acc) {g : Grp} (hg : g ∈ acc) : ∃ b, g.2.1.1 = some ⟨b, 0, none⟩ ∧ (vG g).ownBlock = some b ∧ B ≤ b ∧ b < W.heap.size := by
  obtain ⟨h1, h2⟩ := h.1 g hg
  obtain ⟨b, cap, e, hb, hl⟩ := h1.form h2
  have e1 : g.2.1.1 = some ⟨b, 0, none⟩ := by simpa [vG] using (congrArg (fun v => match v with | .slice a _ _ => a | _ => none) e)
  exact ⟨b, e1, by rw [e]; rfl, hb, hl⟩
theorem OwnG.kept {W W' : World} {B : Nat} {row : Option Nat} {acc : List Grp} (h : OwnG W B acc) (hg : W.grownBy W' row) (hne : ∀ g ∈ acc, (vG g).ownBlock ≠ row) : OwnG W' B acc :=
  ⟨fun g hm => ⟨(h.1 g hm).1.kept hg (.inr (hne g hm)), (h.1 g hm).2⟩, h.2⟩
theorem OwnG.filter {W : World} {B : Nat} {acc : List Grp} (h : OwnG W B acc) (p : Grp → Bool) : OwnG W B (acc.filter p) := ⟨fun g hg => h.1 g (List.mem_filter.1 hg).1, h.2.filter _⟩
theorem OwnG.old {W w6 : World} {B g cap : Nat} {acc : List Grp} {y : Grp} {x : ItR} {tmp : Obj} (h : OwnG W B acc) (hd : Diff rowG acc) (hy : y ∈ acc)
    (hown' : w6.ownsRow B 60 2 (.slice (some ⟨g, 0, none⟩) (y.2.2.length + 1) cap) (y.2.2.length + 1) (flatI y.2.2 ++ cellsI x)) (hg : (W.alloc tmp).grownBy w6 (vG y).ownBlock) (hor : (vG y).ownBlock = some g ∨ g = W.heap.size + 1) :
    OwnG w6 B (gstep rowG togG acc (y.1, (some ⟨g, 0, none⟩, cap), y.2.2 ++ [x])) := by
  rw [gstep_yes (x := (y.1, (some ⟨g, 0, none⟩, cap), y.2.2 ++ [x])) hy rfl]
  have hsym : ∀ z ∈ acc, rowG z ≠ y.1 → (vG z).ownBlock ≠ (vG y).ownBlock := fun z hz hne => by
    obtain ⟨i, hi, rfl⟩ := List.getElem_of_mem hz
    obtain ⟨j, hj, rfl⟩ := List.getElem_of_mem hy
    have hp := List.pairwise_iff_getElem.1 h.2
    rcases Nat.lt_trichotomy i j with hl | hl | hl
    · exact hp i j hi hj hl
    · subst hl; exact absurd rfl hne
    · exact fun e => hp j i hj hi hl e.symm
  have hA := h.below ((Below.refl W.heap.size W).alloc (Nat.le_refl _) tmp)
  have hnew : ∀ z ∈ acc, rowG z ≠ y.1 → (vG z).ownBlock ≠ some g := fun z hz hne e => by
    rcases hor with e2 | e2
    · exact hsym z hz hne (e.trans e2.symm)
    · obtain ⟨b, _, e3, _, hlt⟩ := h.block hz
      rw [e3] at e
      simp only [Option.some.injEq] at e
      omega
  refine ⟨fun z hz => ?_, ?_⟩
  · obtain ⟨u, hu, rfl⟩ := List.mem_map.1 hz
    by_cases e : rowG u = y.1
    · rw [if_pos e]
      refine ⟨?_, by simp⟩
      show w6.ownsRow B _ 2 (.slice (some ⟨g, 0, none⟩) (y.2.2 ++ [x]).length cap) (y.2.2 ++ [x]).length (flatI (y.2.2 ++ [x]))
      rw [List.length_append, flatI_app]
      simpa [flatI] using hown'
    · rw [if_neg e]
      exact ⟨(hA.1 u hu).1.kept hg (.inr (hsym u hu e)), (hA.1 u hu).2⟩
  · rw [List.pairwise_map]
    unfold Diff at hd
    refine (hd.and h.2).imp_of_mem fun {a b} ha hb hab => ?_
    by_cases ea : rowG a = y.1
    · have eb : ¬ rowG b = y.1 := fun e => hab.1 (ea.trans e.symm)
      rw [if_pos ea, if_neg eb]
      exact fun e => hnew b hb eb e.symm
    · by_cases eb : rowG b = y.1
      · rw [if_neg ea, if_pos eb]
        exact hnew a ha ea
      · rw [if_neg ea, if_neg eb]
        exact hab.2
theorem OwnG.new {W w6 : World} {B g cap : Nat} {acc : List Grp} {k : List Val} {l : List ItR} (h : OwnG W B acc) (hg : W.grownBy w6 none) (hl : 0 < l.length)
    (hown' : w6.ownsRow B 60 2 (.slice (some ⟨g, 0, none⟩) l.length cap) l.length (flatI l)) (hge : W.heap.size ≤ g) : OwnG w6 B (acc ++ [(k, (some ⟨g, 0, none⟩, cap), l)]) := by
  have hk := h.kept hg fun z hz e => by obtain ⟨b, _, e3, _, _⟩ := h.block hz; rw [e3] at e; cases e
  refine ⟨fun z hz => ?_, ?_⟩
  · rcases List.mem_append.1 hz with hz | hz
    · exact hk.1 z hz
    · rw [List.mem_singleton] at hz; subst hz; exact ⟨hown', hl⟩
  · rw [List.pairwise_append]
    refine ⟨hk.2, by simp, fun a ha b hb => ?_⟩
    rw [List.mem_singleton] at hb
    subst hb
    obtain ⟨b, _, e3, _, hlt⟩ := h.block ha
    rw [e3]
    intro e
    have : b = g := by simpa [vG, Value.ownBlock] using e
    omega
/-- A list of one item, just built. -/
theorem own_one {W : World} {B : Nat} (x : ItR) (hB : B ≤ W.heap.size) : (W.alloc (.cells #[rowv x.1, .int .i64 x.2] 60)).ownsRow B 60 2 (.slice (some ⟨W.heap.size, 0, none⟩) 1 1) 1 (flatI [x]) :=
  ⟨by simp [flatI, cellsI], .inr ⟨W.heap.size, 1, _, rfl, hB, World.alloc_heap_new W _, Nat.le_refl _, by unfold maxLen; omega, rfl, by simp [flatI, cellsI]⟩⟩
end Go.Proofs.YthoimepdioeckaaGreatDoor

/-!
  FewChanges, as a contract; an argument that is a list of changes, opened.
-/
namespace Go.Proofs.YthoimepdioeckaaGreatDoor
open Go.ChangeShapes Go.WideShapes Go.ChangeAt Go.RowKit Go.Deep

set_option maxRecDepth 100000 in
set_option maxHeartbeats 1000000 in
theorem FewCs_any (p : Option Addr) (cs : List ChR) (c : Nat) (hm : cs.length ≤ 9223372036854775807) (w : World) (hX : ChgIn w p cs) :
    Calls Tryz.prog 9 #[.slice p cs.length c] w (AnyBool w) := by
  have HX := Lib.hid hX
  clear hX
  go_enter Tryz.func9, Tryz.ntmps9
  go_wp2_with fail
  go_loopw [3] (fun s wr => ∃ i : Nat, s = .int .i64 i ∧ i ≤ cs.length ∧ Below w.heap.size w wr) (fun s _ => cs.length - (intOf s).toNat)
  case atStart => exact ⟨0, rfl, by omega, Below.refl _ _⟩
  case round =>
    obtain ⟨i, rfl, hi, hBw⟩ := hrel
    by_cases hlt : i < cs.length
    · obtain ⟨b, off, rfl, hbl, hra⟩ := HX.out (by omega)
      obtain ⟨_, d0, _, d2, _⟩ := (hra.belowV hBw hbl) i hlt
      have hi0 : (0 : Int) ≤ (i : Int) := by omega
      have hi1 : (i : Int) < (cs.length : Int) := by omega
      clear hra
      generalize cs[i]?.getD cr0 = r at d0 d2
      obtain ⟨t, ⟨q, xs, qc⟩, n⟩ := r
      dsimp only [rowv] at *
      have hbA : Below wr.heap.size wr (wr.alloc (.cells #[.slice q xs.length qc] 38)) := (Below.refl _ _).alloc (Nat.le_refl _) _
      have HL := Lib.hid (Long_any (some ⟨wr.heap.size, 0, none⟩) [(q, xs, qc)] 1 (by simp) (wr.alloc (.cells #[.slice q xs.length qc] 38)) (fun _ => ⟨wr.heap.size, 0, rfl, by simp, fun j hj => by
        have hj0 : j = 0 := by simp at hj; omega
        subst hj0
        exact ⟨(Blk.new wr 38 #[.slice q xs.length qc]).cell 0, d2.1, (d2.belowV hbA).2⟩⟩))
      have hBs := hBw.size
      have hBA : Below w.heap.size w (wr.alloc (.cells #[.slice q xs.length qc] 38)) := hBw.trans (hbA.mono hBs)
      clear d2
      go_wp2_with fail
      refine HL.out.mono ?_
      rintro e w1 ⟨bl, rfl, rfl⟩
      cases bl with
      | true =>
        go_wp2_with fail
        go_ret
        exact ⟨false, rfl, hBA⟩
      | false =>
        go_wp2_with fail
        go_roundw
        case rel => exact ⟨i + 1, by go_num, by omega, hBA⟩
        case measure => simp [intOf]; omega
    · have hge : (cs.length : Int) ≤ (i : Int) := by omega
      go_wp2_with fail
      go_ret
      exact ⟨_, rfl, hBw⟩

abbrev ChsV := Option Addr × List ChR × Nat
def chsv (b : ChsV) : Value := .slice b.1 b.2.1.length b.2.2
def ChsOK (W : World) (b : ChsV) : Prop := b.2.1.length ≤ 9223372036854775807 ∧ b.2.1.length ≤ b.2.2 ∧ ChgIn W b.1 b.2.1
theorem ChsOK.belowV {W W' : World} {b : ChsV} (h : ChsOK W b) (hb : Below W.heap.size W W') : ChsOK W' b := ⟨h.1, h.2.1, h.2.2.belowV hb⟩
set_option maxRecDepth 100000 in
theorem open_chgs {H : Type} {enc : TypeId × Value → H} {W : World} {fuel : Nat} {cs : List Value} {x : DataW H × List MemPlace}
    (h : DataW.trod enc Tryz.prog W 0 (fun _ => true) true fuel 24 cs = some x) : ∃ b : ChsV, cs = [chsv b] ∧ ChsOK W b ∧ (b.1 = none → b.2.2 = 0) := by
  rcases open_slice Tryz.underlying24 h with ⟨rfl, _⟩ | ⟨a, len, cap, m, n, D, Pl, rfl, _, hlc, hcm, hm, _, hi⟩
  · exact ⟨(none, [], 0), rfl, ⟨by simp, by simp, fun h => absurd h (by simp)⟩, fun _ => rfl⟩
  · rw [if_pos rfl] at hm
    subst hm
    have ce : Tryz.prog.cellsOf 40 = 3 := by kernel_rfl
    have each : ∀ i, i < len → ∃ q : ChR, W.cell? (a.add (i * 3)) = some (.int .i64 q.1) ∧ W.cell? (a.add (i * 3 + 1)) = some (rowv q.2.1) ∧ W.cell? (a.add (i * 3 + 2)) = some (.int .i64 q.2.2) ∧ RowOK W q.2.1 ∧ (q.2.1.1 = none → q.2.1.2.2 = 0) := fun i hil => by
      obtain ⟨cs', h1, h2⟩ := hi i (by omega)
      rw [ce] at h1
      obtain ⟨_, hlen, hcell⟩ := World.cells?_some h1
      obtain ⟨ys, k, hk, _, _, hyl, hf⟩ := DataW.trod_struct Tryz.underlying40 h2
      match ys, hyl, cs', hlen with
      | [y0, y1, y2], _, [c0, c1, c2], _ =>
        have cI : Tryz.prog.cellsOf 3 = 1 := by kernel_rfl
        have cR : Tryz.prog.cellsOf 38 = 1 := by kernel_rfl
        have g0 : DataW.trod enc Tryz.prog W 0 (fun _ => true) true k 3 (([c0, c1, c2].drop 0).take (Tryz.prog.cellsOf 3)) = some y0 := hf 0 _ rfl
        have g1 : DataW.trod enc Tryz.prog W 0 (fun _ => true) true k 38 (([c0, c1, c2].drop 1).take (Tryz.prog.cellsOf 38)) = some y1 := hf 1 _ rfl
        have g2 : DataW.trod enc Tryz.prog W 0 (fun _ => true) true k 3 (([c0, c1, c2].drop 2).take (Tryz.prog.cellsOf 3)) = some y2 := hf 2 _ rfl
        rw [cR] at g1
        rw [cI] at g0 g2
        simp only [List.drop_zero, List.take_succ_cons, List.take_zero, List.drop_succ_cons] at g0 g1 g2
        obtain ⟨n0, e0, _, _⟩ := DataW.trod_int Tryz.underlying3 g0
        obtain ⟨r, e1, hrl, hrv, hrz, _⟩ := open_vals g1
        obtain ⟨n2, e2, _, _⟩ := DataW.trod_int Tryz.underlying3 g2
        simp only [List.cons.injEq, and_true] at e0 e1 e2
        have d0 := hcell 0 (by omega)
        have d1 := hcell 1 (by omega)
        have d2 := hcell 2 (by omega)
        rw [add_of_add] at d0 d1 d2
        subst e0 e1 e2
        exact ⟨(n0, r, n2), by simpa using d0, by simpa using d1, by simpa using d2, ⟨Nat.le_trans hrl (by decide), hrv⟩, hrz⟩
    obtain ⟨q, hq⟩ := choose_lt each
    have hl : ((List.range len).map q).length = len := by simp
    refine ⟨(some a, (List.range len).map q, m), by simp [chsv], ⟨by simp; unfold maxLen at *; omega, by simp; omega, fun hp => ?_⟩, fun e => by cases e⟩
    · dsimp only at hp ⊢
      rw [hl] at hp
      obtain ⟨b, off, spot⟩ := a
      have h00 := (hq 0 hp).1
      have hspot : spot = none := by simpa [Addr.add] using World.cell?_spot h00
      subst hspot
      have e0 := (hq 0 hp).1
      rw [add_plain] at e0
      refine ⟨b, off, rfl, World.block_lt_of_cell? W _ e0, fun i hil => ?_⟩
      rw [hl] at hil
      obtain ⟨c0, c1, c2, c3, c4⟩ := hq i hil
      rw [add_plain] at c0 c1 c2
      have : ((List.range len).map q)[i]?.getD cr0 = q i := by simp [hil]
      rw [this]
      exact ⟨c0, by rw [← Nat.add_assoc] at c1; exact c1, by rw [← Nat.add_assoc] at c2; exact c2, c3, c4⟩
set_option maxRecDepth 100000 in
theorem open_changes {H : Type} {enc : TypeId × Value → H} {W : World} {base : Nat} {v : Value} {d : DataW H} {ps : List MemPlace} (hval : Value.okWide Tryz.prog W .any base 24 v)
    (h : DataW.Trod enc Tryz.prog W 0 (fun _ => true) true 24 v d ps) : ∃ b : ChsV, v = chsv b ∧ ChsOK W b ∧ (b.1 = none → b.2.2 = 0) := by
  obtain ⟨a, len, cap, rfl⟩ := okWide_slice Tryz.underlying24 hval
  obtain ⟨fuel, hf⟩ := h
  obtain ⟨b, hb, hok⟩ := open_chgs hf
  simp only [Value.cells, List.cons.injEq, and_true] at hb
  exact ⟨b, hb, hok⟩
end Go.Proofs.YthoimepdioeckaaGreatDoor

/-!
  The walk of the law BagUpserts, given package bag's Upserts as a contract.
-/
namespace Go.Proofs.YthoimepdioeckaaGreatDoor
open Go.ChangeShapes Go.WideShapes Go.ChangeAt Go.RowKit

theorem upsVal_len (b : List It) (l : List Ch) (key : List Int) : (upsVal b l key).length ≤ 400 := by
  unfold upsVal
  split
  · exact toldVal_len _
  · simp
/-- Package bag's Upserts, as a contract. -/
def UpsC : Prop := ∀ (p o q : Option Addr) (rs : List ItR) (cs : List ChR) (key : List Int) (c k d : Nat) (_ : rs.length ≤ 9223372036854775807) (_ : cs.length ≤ 9223372036854775807) (_ : rs.length ≤ c) (_ : key.length ≤ 1000) (w : World) (_ : ItemsIn w p rs) (_ : ChgIn w o cs) (_ : IntsIn w q key) (_ : Tab w.heap.size w),
    Calls Tryz.prog 27 #[.slice p rs.length c, .slice o cs.length k, .slice q key.length d] w (BagPost w.heap.size w (upsVal (vals rs) (cvals cs) key) (upsErr (vals rs) (cvals cs) key))

set_option maxRecDepth 100000 in
set_option maxHeartbeats 8000000 in
theorem upsWalk (HU : UpsC) (x : BagV) (l : ChsV) (q : Option Addr) (key : List Int) (d : Nat) (w : World) (hX : BagOK w x) (hxz : x.1 = none → x.2.2 = 0) (hL : ChsOK w l) (hmk : key.length ≤ 9223372036854775807) (hC : IntsIn w q key) (hT : Tab w.heap.size w) :
    Calls Tryz.prog 6 #[bagv x, chsv l, .slice q key.length d] w fun e w' => e = .returned (.bool true) ∧ Below w.heap.size w w' := by
  have hbA : Below w.heap.size w (w.alloc (.cells #[bagv x] 23)) := (Below.refl _ _).alloc (Nat.le_refl _) _
  have hfew := Few_any w.heap.size [x] (by simp) (w.alloc (.cells #[bagv x] 23)) (by simp) (fun i hi => by
    have hb := Blk.new w 23 #[bagv x]
    have hi3 : i = 0 := by simp at hi; omega
    subst hi3
    exact hb.cell 0) (fun b hb => by
    simp only [List.mem_cons, List.not_mem_nil, or_false] at hb
    subst hb
    exact hX.belowV hbA)
  have HF := Lib.hid hfew
  have HXYZ := Lib.hid (And.intro hX hxz)
  have HLL := Lib.hid hL
  have HCC := Lib.hid hC
  have HTT := Lib.hid hT
  have HUU := Lib.hid HU
  clear hfew hX hxz hL hC hT HU
  obtain ⟨p, rs, c⟩ := x
  obtain ⟨o, cs, k⟩ := l
  dsimp only [bagv, chsv] at *
  have HW := Lib.hid awake_any
  go_enter Tryz.func6, Tryz.ntmps6
  go_wp2_with fail
  refine HF.out.mono ?_
  rintro e w1 ⟨he, hb1⟩
  have hB1 : Below w.heap.size w w1 := hbA.trans (hb1.mono hbA.size)
  clear hb1 hbA
  rcases he with rfl | ⟨rfl, h60⟩
  · go_wp2_with fail
    refine (HW.out _).mono ?_
    rintro e w99 ⟨rfl, hb99⟩
    go_wp2_with fail
    go_ret
    exact ⟨rfl, hB1.trans (hb99.mono hB1.size)⟩
  · have HFC := Lib.hid (FewCs_any o cs k HLL.out.1 w1 (HLL.out.2.2.belowV hB1))
    go_wp2_with fail
    refine HFC.out.mono ?_
    rintro e w1' ⟨bq, rfl, hb1'⟩
    have hB1' : Below w.heap.size w w1' := hB1.trans (hb1'.mono hB1.size)
    clear hb1' HFC
    cases bq with
    | false =>
      go_wp2_with fail
      refine (HW.out _).mono ?_
      rintro e w99 ⟨rfl, hb99⟩
      go_wp2_with fail
      go_ret
      exact ⟨rfl, hB1'.trans (hb99.mono hB1'.size)⟩
    | true =>
      by_cases h10 : key.length ≤ 1000
      · have h10' : (key.length : Int) ≤ 1000 := by omega
        have hx6 : rs.length ≤ 60 := h60 (p, rs, c) (by simp)
        obtain ⟨⟨_, hx7, hx8⟩, hx9⟩ := HXYZ.out
        obtain ⟨hl6, hl7, hl8⟩ := HLL.out
        dsimp only at hx7 hx8 hx9 hl6 hl7 hl8
        have s1 := fun W (h : Below w.heap.size w W) (p1 : Option Addr) (r1 : List ItR) (c1 : Nat) (hl : r1.length ≤ 9223372036854775807) (hc : r1.length ≤ c1) (hi : ItemsIn W p1 r1) => HUU.out p1 o q r1 cs key c1 k d hl hl6 hc h10 W hi (hl8.belowV h) (HCC.out.belowV h) (HTT.out.up h h.size)
        have s2 := fun W (h : Below w.heap.size w W) => refUpserts_any p o q rs cs key c k d (by omega) hl6 hx7 h10 W (hx8.belowV h) hx9 (hl8.belowV h) (HCC.out.belowV h)
        have hun := @ups_back (vals rs) (cvals cs) key
        have l1 := upsVal_len (vals rs) (cvals cs) key
        have g1 := s1 w1' hB1' p rs c (by omega) hx7 (hx8.belowV hB1')
        generalize upsErr (vals rs) (cvals cs) key = e1 at g1 s2 hun
        generalize upsVal (vals rs) (cvals cs) key = v1 at g1 s2 hun l1
        have S1 := Lib.hid s1
        have S2 := Lib.hid s2
        have G1 := Lib.hid g1
        have HUN := Lib.hid hun
        clear s1 s2 g1 hun hx8 hx9 hl8 HXYZ HLL HF h60
        go_wp2_with fail
        refine G1.out.mono ?_
        rintro e w2 ⟨p1, r1, c1, rfl, hv1, hc1, hl1, hi1, hb⟩
        have hB2 : Below w.heap.size w w2 := hB1'.trans (hb.mono hB1'.size)
        have HV1 := Lib.hid hv1
        have hll1 : r1.length ≤ 400 := by rw [← vals_len, hv1]; exact l1
        clear hv1 hb
        go_wp2_with fail
        refine (S2.out _ hB2).mono ?_
        rintro e w3 ⟨p2, r2, c2, rfl, hv2, hc2, hl2, hi2, hb⟩
        have hB3 : Below w.heap.size w w3 := hB2.trans (hb.mono hB2.size)
        have hi1 := hi1.belowV hb
        have HSM := Lib.hid (SameB_any p1 p2 r1 r2 c1 c2 (HV1.out.trans hv2.symm) (by omega) w3 hi1 hi2)
        clear hv2 hb hi2
        go_wp2_with fail
        refine HSM.out.mono ?_
        rintro e w4 ⟨rfl, hb⟩
        have hB4 : Below w.heap.size w w4 := hB3.trans (hb.mono hB3.size)
        have hi1 := hi1.belowV hb
        clear HSM hb
        by_cases q3 : e1 = 0
        · have hun := HUN.out q3
          have f1 : (e1 != 0) = false := by rw [q3]; rfl
          have g3 := S1.out w4 hB4 p1 r1 c1 (by omega) hc1 hi1
          rw [HV1.out, hun.1, hun.2] at g3
          have G3 := Lib.hid g3
          have HI1 := Lib.hid hi1
          clear g3 hun q3 hi1
          go_wp2_with fail
          refine G3.out.mono ?_
          rintro e w5 ⟨p5, r5, c5, rfl, hv5, hc5, hl5, hi5, hb⟩
          have hB5 : Below w.heap.size w w5 := hB4.trans (hb.mono hB4.size)
          have HSM := Lib.hid (SameB_any p1 p5 r1 r5 c1 c5 (HV1.out.trans hv5.symm) (by omega) w5 (HI1.out.belowV hb) hi5)
          clear hb hv5 hi5
          go_wp2_with fail
          refine HSM.out.mono ?_
          rintro e w6 ⟨rfl, hb⟩
          have hB6 : Below w.heap.size w w6 := hB5.trans (hb.mono hB5.size)
          clear hb HSM
          go_wp2_with fail
          refine (HW.out _).mono ?_
          rintro e w99 ⟨rfl, hb99⟩
          go_wp2_with fail
          go_ret
          exact ⟨rfl, hB6.trans (hb99.mono hB6.size)⟩
        · have f1 : (e1 != 0) = true := by rw [bne_iff_ne]; exact q3
          clear q3 hi1
          go_wp2_with fail
          refine (HW.out _).mono ?_
          rintro e w99 ⟨rfl, hb99⟩
          go_wp2_with fail
          go_ret
          exact ⟨rfl, hB4.trans (hb99.mono hB4.size)⟩
      · have h10' : (1000 : Int) < (key.length : Int) := by omega
        clear h10
        go_wp2_with fail
        refine (HW.out _).mono ?_
        rintro e w99 ⟨rfl, hb99⟩
        go_wp2_with fail
        go_ret
        exact ⟨rfl, hB1'.trans (hb99.mono hB1'.size)⟩
end Go.Proofs.YthoimepdioeckaaGreatDoor

/-!
  Upserts of package bag, as a contract.
-/
namespace Go.Proofs.YthoimepdioeckaaGreatDoor
open Go.RowKit Go.Shelf

theorem zeroList (w : World) : (zeroValue 22).run Tryz.prog w = .ok (.slice none 0 0) w := by
  obtain ⟨i0, hi, hz0, hz1, hz2⟩ := info_parts infoL
  simp [zeroValue, typeInfo, hi, hz0]
theorem lookL_yes {W : World} {b n : Nat} {D : DataW Value} {acc : List Grp} (hown : W.ownsMap Tryz.prog 9 heldR b n D) (hG : GatOf rowG vG acc D) {y : Grp} (hy : y ∈ acc) {L : List UInt8} (hL : textOf (rowG y) = L) (hl : L.length ≤ maxLen) :
    (Instr.lookup 94 (.map (some b)) (.string ⟨L.toArray⟩) false).run Tryz.prog W = .ok (vG y) W := by
  obtain ⟨v, ps, hrun, hv⟩ := hown.lookup (Maps.string_keyed Tryz.underlying9) mapTL (zeroList W) (zd := .held (.slice none 0 0)) (zp := []) rfl (key_of L hl)
  have h1 := hG.at_ y hy (.held (.slice none 0 0))
  rw [hL] at h1
  rw [h1] at hv
  have h2 : v = vG y := by simpa [heldR] using (congrArg (Option.map Prod.fst) hv)
  rw [h2] at hrun
  exact hrun
theorem lookL_no {W : World} {b n : Nat} {D : DataW Value} (hown : W.ownsMap Tryz.prog 9 heldR b n D) {L : List UInt8} (hn : Maps.has D (.string L) = false) (hl : L.length ≤ maxLen) :
    (Instr.lookup 94 (.map (some b)) (.string ⟨L.toArray⟩) false).run Tryz.prog W = .ok (.slice none 0 0) W := by
  obtain ⟨v, ps, hrun, hv⟩ := hown.lookup (Maps.string_keyed Tryz.underlying9) mapTL (zeroList W) (zd := .held (.slice none 0 0)) (zp := []) rfl (key_of L hl)
  rw [Maps.atKey_of_not_has hn] at hv
  have h2 : v = .slice none 0 0 := by simpa [heldR] using (congrArg (Option.map Prod.fst) hv)
  rw [h2] at hrun
  exact hrun
theorem keyed_old {ds : List Int} {acc : List Grp} {y : Grp} {v : Option Addr × Nat} {x : ItR} (h : Keyed1 ds acc) (hy : y ∈ acc) (hx : pick x.1.2.1 ds = y.1) : Keyed1 ds (gstep rowG togG acc (y.1, v, y.2.2 ++ [x])) := by
  rw [gstep_yes (x := (y.1, v, y.2.2 ++ [x])) hy rfl]
  intro g hg u hu
  obtain ⟨z, hz, rfl⟩ := List.mem_map.1 hg
  by_cases e : rowG z = rowG (y.1, v, y.2.2 ++ [x])
  · rw [if_pos e] at hu ⊢
    show pick u.1.2.1 ds = z.1
    rw [show z.1 = y.1 from e]
    rcases List.mem_append.1 hu with hu | hu
    · exact h y hy u hu
    · rw [List.mem_singleton] at hu; subst hu; exact hx
  · rw [if_neg e] at hu ⊢
    exact h z hz u hu
theorem keyed_new {ds : List Int} {acc : List Grp} {k : List Val} {v : Option Addr × Nat} {l : List ItR} (h : Keyed1 ds acc) (hx : ∀ x ∈ l, pick x.1.2.1 ds = k) : Keyed1 ds (acc ++ [(k, v, l)]) := fun g hg u hu => by
  rcases List.mem_append.1 hg with hg | hg
  · exact h g hg u hu
  · rw [List.mem_singleton] at hg; subst hg; exact hx u hu
theorem okCols_of {key ds : List Int} {n : Nat} (hd : ∀ t, t ∈ ds ↔ t ∈ key) (h : okCols key n = true) : okCols ds n = true := by
  unfold okCols at *
  rw [List.all_eq_true] at *
  exact fun t ht => h t ((hd t).1 ht)
theorem flat_one (acc : List Grp) (k : List Val) (v : Option Addr × Nat) (l : List ItR) : flatG (acc ++ [(k, v, l)]) = flatG acc ++ l := by rw [flatG_app]; simp [flatG]

theorem flatG_many {acc : List Grp} (h : ∀ g ∈ acc, 0 < g.2.2.length) : acc.length ≤ (flatG acc).length := by
  induction acc with
  | nil => simp
  | cons g l ih =>
    have h1 := ih fun g hg => h g (by simp [hg])
    have h2 := h g (by simp)
    show _ ≤ (g.2.2 ++ flatG l).length
    rw [List.length_append, List.length_cons]; omega
theorem valuesL_any (b : Option Nat) (w : World) : Calls Tryz.prog 75 #[.map b] w fun e w' => e = .returned (.func (.func 121) #[] #[.pointer (some ⟨w.heap.size, 0, none⟩)]) ∧ w' = w.alloc (.cells #[.map b] 94) := by
  go_enter Tryz.func75, Tryz.ntmps75
  go_wp2
  go_ret
  exact ⟨rfl, rfl⟩

set_option maxRecDepth 100000 in
set_option maxHeartbeats 8000000 in
theorem bagUpserts_yes (p o q : Option Addr) (rs : List ItR) (cs : List ChR) (key : List Int) (c k d : Nat) (hm : rs.length ≤ 400) (hm2 : cs.length ≤ 400) (hc : rs.length ≤ c) (hmk : key.length ≤ 1000) (w : World) (hX : ItemsIn w p rs) (hL : ChgIn w o cs) (hC : IntsIn w q key) (hT : Tab w.heap.size w)
    (q1 : validBag (vals rs) = true) (q2 : validCs (cvals cs) = true) (hk0 : 0 < key.length) (hok : okCols key (commN (vals rs ++ its (cvals cs))) = true) :
    Calls Tryz.prog 27 #[.slice p rs.length c, .slice o cs.length k, .slice q key.length d] w (BagPost w.heap.size w (toldVal (ups key (vals rs) (cvals cs))) (toldErr (ups key (vals rs) (cvals cs)))) := by
  have h1 := bagValid_any p rs c (by omega) hc w hX
  have h2 := fun W (h : Below w.heap.size w W) => bagVCs_any o cs k (by omega) W (hL.belowV h)
  have h3 := fun W (h : Below w.heap.size w W) => commonL_any p o rs cs c k (by omega) (by omega) W (hX.belowV h) (hL.belowV h)
  have h4 := fun W (h : Below w.heap.size w W) => bagCols_any q key d (commN (vals rs ++ its (cvals cs))) (by omega) W (hC.belowV h)
  rw [q1] at h1
  rw [q2] at h2
  rw [hok] at h4
  have hrow : ∀ r ∈ rs, validRow r.1.2.1 = true ∧ okCols key r.1.2.1.length = true ∧ r.2 ≠ 0 := fun r hr => by
    have h5 := itOK_iff.1 ((validBag_iff.1 q1).2.1 _ (mem_vals hr))
    exact ⟨h5.1, okCols_mono hok (commN_row (List.mem_append_left _ (mem_vals hr))), h5.2.1⟩
  have hcrow : ∀ r ∈ cs, validRow r.2.1.2.1 = true ∧ okCols key r.2.1.2.1.length = true := fun r hr => by
    have h5 := (okC_is ((validCs_iff.1 q2).2 (chv r) (List.mem_map_of_mem hr))).2.1
    exact ⟨h5, okCols_mono hok (commN_row (x := chI (chv r)) (List.mem_append_right _ (List.mem_map_of_mem (List.mem_map_of_mem hr))))⟩
  have hkey8 : ∀ t ∈ key, 0 ≤ t ∧ t < 8 := fun t ht => by
    have h5 := of_decide_eq_true (List.all_eq_true.1 hok t ht)
    have h6 := commN_le (vals rs ++ its (cvals cs))
    omega
  have hlen0 : ((key.length : Int) == 0) = false := beq_eq_false_iff_ne.2 (by omega)
  have H1 := Lib.hid h1
  have H2 := Lib.hid h2
  have H3 := Lib.hid h3
  have H4 := Lib.hid h4
  have HX := Lib.hid hX
  have HL := Lib.hid hL
  have HC := Lib.hid hC
  have HT := Lib.hid hT
  have HRW := Lib.hid hrow
  have HCR := Lib.hid hcrow
  have HK8 := Lib.hid hkey8
  have HQ := Lib.hid (And.intro (asc_of_valid q1) q1)
  have HRB := Lib.hid (rowB_of_items hX)
  have HCB := Lib.hid (rowB_of_chg hL)
  obtain ⟨i0, hii, hz0, hz1, hz2⟩ := info_parts infoI
  have hmm : ∀ W, (Instr.makeMap 94 (some (.int .i64 (rs.length : Int)))).run Tryz.prog W = .ok (.map (some W.heap.size)) (W.alloc (.map #[] 0)) := fun W => by
    simp [Instr.makeMap, run_underlying mapTL, asInt, asIntOf, Result.andThen]
  have HK0 := Lib.hid hk0
  clear h1 h2 h3 h4 hX hL hC hT hrow hcrow hkey8 q1 q2 hok hk0
  generalize commN (vals rs ++ its (cvals cs)) = nn at H3 H4
  go_enter Tryz.func27, Tryz.ntmps27
  go_wp2_with fail
  refine H1.out.mono ?_
  rintro e w1 ⟨rfl, hb1⟩
  go_wp2_with fail
  refine (H2.out _ hb1).mono ?_
  rintro e w2 ⟨rfl, hb2⟩
  have hB2 : Below w.heap.size w w2 := hb1.trans (hb2.mono hb1.size)
  clear hb1 hb2
  go_wp2_with fail
  refine (H3.out _ hB2).mono ?_
  rintro e w3 ⟨rfl, hb3⟩
  have hB3 : Below w.heap.size w w3 := hB2.trans (hb3.mono hB2.size)
  go_wp2_with fail
  refine (H4.out _ hB3).mono ?_
  rintro e w4 ⟨rfl, hb4⟩
  have hB4 : Below w.heap.size w w4 := hB3.trans (hb4.mono hB3.size)
  clear hb3 hb4 hB2 hB3 H1 H2 H3 H4
  go_wp2_with fail
  refine (valuesK_any q key.length d w4).mono ?_
  rintro e w5 ⟨rfl, rfl⟩
  have hbA : Below w4.heap.size w4 (w4.alloc (.cells #[.slice q key.length d] 43)) := (Below.refl _ _).alloc (Nat.le_refl _) _
  have hB5 := hB4.trans (hbA.mono hB4.size)
  have HSO := Lib.hid (sortedK_any w4.heap.size q key d HK0.out (by omega) (w4.alloc (.cells #[.slice q key.length d] 43)) (by simp) ((Blk.new w4 _ _).cell 0) (HC.out.belowV hB5))
  clear hbA
  go_wp2_with fail
  refine HSO.out.mono ?_
  rintro e w6 ⟨g, cap, zs, rfl, hzp, hzs, hzo, hb6⟩
  have hB6 : Below w.heap.size w w6 := hB5.trans (hb6.mono hB5.size)
  have HCO := Lib.hid (compactK_any w.heap.size g cap zs (by have := hzp.length_eq; omega) hzs w6 hB6.size (ownsRow_base hzo hB5.size))
  have HZP := Lib.hid hzp
  clear hzp hzs hzo hb6 HSO hB5
  go_wp2_with fail
  refine HCO.out.mono ?_
  rintro e w8 ⟨ds, rfl, hdm, hdp, hdi, hb8⟩
  have hB8 : Below w.heap.size w w8 := hB6.trans hb8
  have hdk : ∀ t, t ∈ ds ↔ t ∈ key := fun t => (hdm t).trans HZP.out.mem_iff
  have hd8 : ds.length ≤ 8 := by
    have := asc_le (n := 8) (a := 0) hdp (fun t ht => by have := HK8.out t ((hdk t).1 ht); omega) (by omega)
    omega
  have HDK := Lib.hid hdk
  have HKT := Lib.hid fun (xq : Option Addr) (xs : List Val) (xc : Nat) W (hx : validRow xs = true) (ho : okCols key xs.length = true) (hX : ValsIn W xq xs) (h : Below w8.heap.size w8 W) => keyText_any xq (some ⟨g, 0, none⟩) xs ds xc cap (by have := row_len hx; omega) hd8 hx (okCols_of hdk ho) W hX (hdi.belowV h) (HT.out.up (hB8.trans (h.mono hB8.size)) (Nat.le_trans hB8.size h.size))
  have HPV := Lib.hid fun (xs : List Val) (hx : validRow xs = true) (ho : okCols key xs.length = true) => pick_valid hx (okCols_of hdk ho) hd8
  clear hdm hdp hdi hdk hb8 HCO HZP hB6 hB4
  have hown0 : (w8.alloc (.map #[] 0)).ownsMap Tryz.prog 9 heldR w8.heap.size 0 (.map []) := World.ownsMap_made (H := Value) w8 Tryz.prog 9 heldR
  have hB9 : Below w8.heap.size w8 (w8.alloc (.map #[] 0)) := (Below.refl _ _).alloc (Nat.le_refl _) _
  go_wp2_with fail
  clear hmm
  go_loopw [45] (fun t wr => ∃ (i : Nat) (D : DataW Value) (acc : List Grp), t = .int .i64 i ∧ i ≤ rs.length ∧ wr.ownsMap Tryz.prog 9 heldR w8.heap.size i D ∧ Hid (GatOf rowG vG acc D) ∧ Hid (Keyed1 ds acc) ∧ Hid (OwnG wr (w8.heap.size + 1) acc) ∧ Hid ((flatG acc).Perm (rs.take i)) ∧ Below w8.heap.size w8 wr) (fun t _ => rs.length - (RowKit.intOf t).toNat)
  case atStart => exact ⟨0, _, [], rfl, Nat.zero_le _, hown0, GatOf.zero vG, (fun g h => (by cases h)), OwnG.nil _ _, List.Perm.refl _, hB9⟩
  case round =>
    clear hown0 hB9
    obtain ⟨i, D, acc, rfl, hi, hown, hG, hK, hO, hP, hB⟩ := hrel
    have hBw : Below w.heap.size w wr := hB8.trans (hB.mono hB8.size)
    have hsz : w8.heap.size < wr.heap.size := hown.lt
    by_cases hlt : i < rs.length
    · obtain ⟨b, off, rfl, hbl, hra⟩ := HX.out (by omega)
      obtain ⟨c0, c1, c2, _⟩ := (hra.belowV hBw hbl) i hlt
      have hi0 : (0 : Int) ≤ (i : Int) := by omega
      have hi1 : (i : Int) < (rs.length : Int) := by omega
      have hmem : rs[i]?.getD ir0 ∈ rs := by rw [List.getElem?_eq_getElem hlt]; exact List.getElem_mem hlt
      obtain ⟨hvx, hox, _⟩ := HRW.out _ hmem
      have HTK := Lib.hid (show rs.take (i + 1) = rs.take i ++ [rs[i]?.getD ir0] by rw [List.take_succ_eq_append_getElem hlt, List.getElem?_eq_getElem hlt]; rfl)
      clear hra hmem
      generalize (rs[i]?.getD ir0) = x at *
      obtain ⟨⟨xq, xs, xc⟩, xn⟩ := x
      dsimp only [rowv] at c0 c1 c2 hvx hox
      have hkv := HPV.out xs hvx hox
      obtain ⟨L, hL⟩ : ∃ L, textOf (pick xs ds) = L := ⟨_, rfl⟩
      have hLl : L.length ≤ maxLen := by rw [← hL]; have := textOf_len (pick xs ds); unfold maxLen; omega
      have hkey := key_of L hLl
      have hbA : Below wr.heap.size wr (wr.alloc (.cells #[.slice xq xs.length xc, .int .i64 xn] 60)) := (Below.refl _ _).alloc (Nat.le_refl _) _
      have hkA := Blk.new wr 60 #[.slice xq xs.length xc, .int .i64 xn]
      have hBA := hB.trans (hbA.mono hB.size)
      have hkt := HKT.out xq xs xc _ hvx hox (c2.belowV hbA).2 hBA
      rw [hL] at hkt
      unfold TextPost at hkt
      have HKTX := Lib.hid hkt
      have hcase : (∃ y ∈ acc, rowG y = pick xs ds) ∨ Maps.has D (.string L) = false := by
        cases hh : Maps.has D (.string L) with
        | false => exact .inr rfl
        | true =>
          obtain ⟨y, hy, e⟩ := (hG.out.has _).1 hh
          exact .inl ⟨y, hy, text_inj (hG.out.valid y hy) hkv (e.trans hL.symm)⟩
      have HTI := Lib.hid (And.intro (hown.tidy (Maps.string_keyed Tryz.underlying9)) hown.isMap)
      have HKV := Lib.hid hkv
      have HHL := Lib.hid (And.intro hL hLl)
      have hfl : (flatG acc).length ≤ 400 := by have := hP.out.length_eq; rw [List.length_take] at this; omega
      have HOA := Lib.hid (hO.out.below hbA)
      have HOWN := Lib.hid (hown.alloc (.cells #[.slice xq xs.length xc, .int .i64 xn] 60))
      have HBLK := Lib.hid hkA
      have k0 := hkA.cell 0
      have k1 := hkA.cell 1
      simp only [List.getElem?_toArray, List.getElem?_cons_zero, List.getElem?_cons_succ] at k0 k1
      have HBA := Lib.hid hBA
      clear hkt hkv hL hLl hown hO hkA hvx hox c2 hB hbA hBA
      rcases hcase with ⟨y, hy, e⟩ | hno
      · have hyl : y.2.2.length ≤ 400 := by
          obtain ⟨s, t, e2⟩ := List.append_of_mem hy
          rw [e2, flatG_app, List.length_append] at hfl
          have : (flatG (y :: t)).length = y.2.2.length + (flatG t).length := by show (y.2.2 ++ flatG t).length = _; rw [List.length_append]
          omega
        have HY := Lib.hid (And.intro hy e)
        clear hy e hfl
        go_wp2_with fail
        refine HKTX.out.mono ?_
        rintro e w3 ⟨rfl, hb3⟩
        have hO3 := HOA.out.below hb3
        have hown3 := ownsMap_below HOWN.out hb3
        have hblk3 := HBLK.out.belowV hb3 HBLK.out.lt
        have k0 := hblk3.cell 0
        have k1 := hblk3.cell 1
        simp only [List.getElem?_toArray, List.getElem?_cons_zero, List.getElem?_cons_succ] at k0 k1
        have hB3 := HBA.out.trans (hb3.mono HBA.out.size)
        have hlk := lookL_yes hown3 hG.out HY.out.1 (by rw [HY.out.2]; exact HHL.out.1) HHL.out.2
        have HLY := Lib.hid (hO3.1 y HY.out.1).1
        have HO3 := Lib.hid hO3
        have HOWN3 := Lib.hid hown3
        have hbs3 := hB3.size
        have hs3 : w8.heap.size + 1 ≤ w3.heap.size := hown3.lt
        clear hO3 hown3 hblk3 hb3
        obtain ⟨yb, _, hyb0, hybl, _⟩ := HO3.out.block HY.out.1
        have HYB := Lib.hid hyb0
        clear hyb0
        go_wp2_with (first
          | (at_builtin; refine wpList_append_lies _ rfl _ _ 22 rfl (w8.heap.size + 1) 60 i0 (.agg #[.slice none 0 0, .int .i64 0]) 2 32 Tryz.underlying22 hii hz0 hz1 hz2 rfl (by decide) _ _ _ rfl (HLY.out.alloc _) ⟨w3.heap.size, 0, none⟩ 1 1 (cellsI ((xq, xs, xc), xn)) rfl rfl (cells_new _ _ _) (by simp [cellsI, rowv, Value.oneCell']) (by decide) (by unfold maxLen; omega) (by omega) (by simp; omega) (w3.heap.size + 1) (by simp) ?_; intro g' cap' w6 hown' hgrow hor hlt6; have hgrow2 : (w3.alloc (.cells #[.slice xq xs.length xc, .int .i64 xn] 60)).grownBy w6 (some yb) := (by rw [← HYB.out]; exact hgrow); have hown6 := (HOWN3.out.alloc (.cells #[.slice xq xs.length xc, .int .i64 xn] 60)).kept hgrow2 (by intro e; cases e; omega); have hval : heldR (.slice (some ⟨g', 0, none⟩) (y.2.2.length + 1) cap') = some (.held (.slice (some ⟨g', 0, none⟩) (y.2.2.length + 1) cap'), []) := rfl)
          | (at_mapUpdate; refine wpList_mapUpdate_own _ rfl _ _ _ 94 rfl 9 22 (Maps.string_keyed Tryz.underlying9) mapTL _ w8.heap.size i D rfl hown6 (by unfold maxLen; omega) _ _ _ rfl rfl hkey _ [] hval ?_; intro w7 hown7 hgrow7))
        have hOG := HO3.out.old (x := ((xq, xs, xc), xn)) hG.out.diff HY.out.1 hown' hgrow hor
        have hB6 : Below w8.heap.size w8 w6 := (hB3.alloc hbs3 _).grown hgrow2 (by simp; omega) (fun k e => by cases e; omega)
        have hPM := ((flat_old (v := (some ⟨g', 0, none⟩, cap')) (x := ((xq, xs, xc), xn)) hG.out.diff HY.out.1).trans (hP.out.append_right _)).trans (by rw [HTK.out] : (rs.take i ++ [((xq, xs, xc), xn)]).Perm (rs.take (i + 1)))
        have hGN := hG.out.old (tog := togG) togG_row HTI.out.1 HTI.out.2 HY.out.1 (x := (y.1, (some ⟨g', 0, none⟩, cap'), y.2.2 ++ [((xq, xs, xc), xn)])) rfl
        rw [show textOf (rowG (y.1, ((some ⟨g', 0, none⟩ : Option Addr), cap'), y.2.2 ++ [((xq, xs, xc), xn)])) = L by show textOf (rowG y) = L; rw [HY.out.2]; exact HHL.out.1,
          show vG (togG y (y.1, (some ⟨g', 0, none⟩, cap'), y.2.2 ++ [((xq, xs, xc), xn)])) = .slice (some ⟨g', 0, none⟩) (y.2.2.length + 1) cap' by show Value.slice _ (y.2.2 ++ [((xq, xs, xc), xn)]).length _ = _; rw [List.length_append]; rfl] at hGN
        have hKN := keyed_old (v := (some ⟨g', 0, none⟩, cap')) (x := ((xq, xs, xc), xn)) hK.out HY.out.1 HY.out.2.symm
        have HN := Lib.hid (And.intro hOG (And.intro hPM (And.intro hGN hKN)))
        have hs6 : w8.heap.size < w6.heap.size := hown6.lt
        clear hOG hPM hGN hKN hown' hgrow hgrow2 hor hlk
        have hOG7 := HN.out.1.kept hgrow7 (fun z hz e => by obtain ⟨zb, _, e3, hge, _⟩ := HN.out.1.block hz; rw [e3] at e; simp only [Option.some.injEq] at e; omega)
        have hB7 : Below w8.heap.size w8 w7 := hB6.grown hgrow7 (by omega) (fun k e => by simp at e; omega)
        go_roundw
        case rel => exact ⟨i + 1, _, _, by go_num, by omega, hown7, HN.out.2.2.1, HN.out.2.2.2, hOG7, HN.out.2.1, hB7⟩
        case measure => simp [RowKit.intOf]; omega
      · have HNO := Lib.hid hno
        clear hno hfl
        go_wp2_with fail
        refine HKTX.out.mono ?_
        rintro e w3 ⟨rfl, hb3⟩
        have hO3 := HOA.out.below hb3
        have hown3 := ownsMap_below HOWN.out hb3
        have hblk3 := HBLK.out.belowV hb3 HBLK.out.lt
        have k0 := hblk3.cell 0
        have k1 := hblk3.cell 1
        simp only [List.getElem?_toArray, List.getElem?_cons_zero, List.getElem?_cons_succ] at k0 k1
        have hB3 := HBA.out.trans (hb3.mono HBA.out.size)
        have hlk := lookL_no hown3 HNO.out HHL.out.2
        have HO3 := Lib.hid hO3
        have HOWN3 := Lib.hid hown3
        have hbs3 := hB3.size
        have hs3 : w8.heap.size + 1 ≤ w3.heap.size := hown3.lt
        clear hO3 hown3 hblk3 hb3
        go_wp2_with (first
          | (at_builtin; refine wpList_append_lies _ rfl _ _ 22 rfl (w8.heap.size + 1) 60 i0 (.agg #[.slice none 0 0, .int .i64 0]) 2 32 Tryz.underlying22 hii hz0 hz1 hz2 rfl (by decide) _ 0 [] rfl (World.ownsRow_nil _ _ _ _) ⟨w3.heap.size, 0, none⟩ 1 1 (cellsI ((xq, xs, xc), xn)) rfl rfl (cells_new _ _ _) (by simp [cellsI, rowv, Value.oneCell']) (by decide) (by unfold maxLen; omega) (by omega) (by simp; omega) (w3.heap.size + 1) (by simp) ?_; intro g' cap' w6 hown' hgrow hor hlt6; have hown6 := (HOWN3.out.alloc (.cells #[.slice xq xs.length xc, .int .i64 xn] 60)).kept hgrow (by intro e; cases e); have hval : heldR (.slice (some ⟨g', 0, none⟩) (0 + 1) cap') = some (.held (.slice (some ⟨g', 0, none⟩) (0 + 1) cap'), []) := rfl)
          | (at_mapUpdate; refine wpList_mapUpdate_own _ rfl _ _ _ 94 rfl 9 22 (Maps.string_keyed Tryz.underlying9) mapTL _ w8.heap.size i D rfl hown6 (by unfold maxLen; omega) _ _ _ rfl rfl hkey _ [] hval ?_; intro w7 hown7 hgrow7))
        have hg' : g' = w3.heap.size + 1 := by rcases hor with e | e; cases e; exact e
        have hOG := (HO3.out.below ((Below.refl _ w3).alloc (Nat.le_refl _) (.cells #[.slice xq xs.length xc, .int .i64 xn] 60))).new (g := g') (cap := cap') (k := pick xs ds) (l := [((xq, xs, xc), xn)]) hgrow (by simp) (by simpa [flatI] using hown') (by simp; omega)
        have hB6 : Below w8.heap.size w8 w6 := (hB3.alloc hbs3 _).grown hgrow (by simp; omega) (fun k e => by cases e)
        have hne : ∀ y ∈ acc, rowG y ≠ pick xs ds := fun y hy e => by
          have := (hG.out.has L).2 ⟨y, hy, by rw [e]; exact HHL.out.1⟩
          rw [HNO.out] at this; cases this
        have hPM : (flatG (acc ++ [(pick xs ds, (some ⟨g', 0, none⟩, cap'), [((xq, xs, xc), xn)])])).Perm (rs.take (i + 1)) := by
          rw [flat_one, HTK.out]; exact hP.out.append_right _
        have hGN := hG.out.new (tog := togG) HTI.out.1 HTI.out.2 (x := (pick xs ds, (some ⟨g', 0, none⟩, cap'), [((xq, xs, xc), xn)])) HKV.out (by rw [HHL.out.1]; exact HNO.out)
        rw [gstep_no hne, show textOf (rowG (pick xs ds, ((some ⟨g', 0, none⟩ : Option Addr), cap'), [((xq, xs, xc), xn)])) = L from HHL.out.1] at hGN
        have hKN := keyed_new (v := (some ⟨g', 0, none⟩, cap')) (k := pick xs ds) (l := [((xq, xs, xc), xn)]) hK.out (fun u hu => by rw [List.mem_singleton] at hu; subst hu; rfl)
        have HN := Lib.hid (And.intro hOG (And.intro hPM (And.intro hGN hKN)))
        have hs6 : w8.heap.size < w6.heap.size := hown6.lt
        clear hOG hPM hGN hKN hown' hgrow hor hlk hg' hne
        have hOG7 := HN.out.1.kept hgrow7 (fun z hz e => by obtain ⟨zb, _, e3, hge, _⟩ := HN.out.1.block hz; rw [e3] at e; simp only [Option.some.injEq] at e; omega)
        have hB7 : Below w8.heap.size w8 w7 := hB6.grown hgrow7 (by omega) (fun k e => by simp at e; omega)
        go_roundw
        case rel => exact ⟨i + 1, _, _, by go_num, by omega, hown7, HN.out.2.2.1, HN.out.2.2.2, hOG7, HN.out.2.1, hB7⟩
        case measure => simp [RowKit.intOf]; omega
    · have hge : (rs.length : Int) ≤ (i : Int) := by omega
      have hie : i = rs.length := by omega
      have hP2 : (vals (flatG acc)).Perm (ups key (vals rs) ((cvals cs).take 0)) := by
        have := hP.out
        rw [hie, List.take_length] at this
        exact this.map itv
      have hrw0 : ∀ r ∈ flatG acc, (∃ u ∈ rs, r.1 = u.1) ∨ ∃ u ∈ cs, r.1 = u.2.1 := fun r hr => .inl ⟨r, List.mem_of_mem_take (hP.out.mem_iff.1 hr), rfl⟩
      have hGo := hG.out
      have hKo := hK.out
      have hOo := hO.out
      clear hie hP hG hK hO hBw hsz
      go_wp2_with fail
      go_loopw [64] (fun t wr => ∃ (j m : Nat) (D : DataW Value) (acc : List Grp), t = .int .i64 j ∧ j ≤ cs.length ∧ m ≤ 400 + j ∧ wr.ownsMap Tryz.prog 9 heldR w8.heap.size m D ∧ Hid (GatOf rowG vG acc D) ∧ Hid (Keyed1 ds acc) ∧ Hid (OwnG wr (w8.heap.size + 1) acc) ∧ Hid ((vals (flatG acc)).Perm (ups key (vals rs) ((cvals cs).take j))) ∧ Hid (∀ r ∈ flatG acc, (∃ u ∈ rs, r.1 = u.1) ∨ ∃ u ∈ cs, r.1 = u.2.1) ∧ Below w8.heap.size w8 wr) (fun t _ => cs.length - (RowKit.intOf t).toNat)
      case atStart => exact ⟨0, i, D, acc, rfl, Nat.zero_le _, by omega, hown, hGo, hKo, hOo, hP2, hrw0, hB⟩
      case round =>
        clear hown hGo hKo hOo hP2 hrw0 hB hge
        obtain ⟨j, m, D, acc, rfl, hj, hmj, hown, hG, hK, hO, hP, hR, hB⟩ := hrel
        have hBw : Below w.heap.size w wr := hB8.trans (hB.mono hB8.size)
        by_cases hlt : j < cs.length
        · obtain ⟨b, off, rfl, hbl, hra⟩ := HL.out (by omega)
          obtain ⟨c0, c1, c2', c2, _⟩ := (hra.belowV hBw hbl) j hlt
          have hi0 : (0 : Int) ≤ (j : Int) := by omega
          have hi1 : (j : Int) < (cs.length : Int) := by omega
          have hmem : cs[j]?.getD cr0 ∈ cs := by rw [List.getElem?_eq_getElem hlt]; exact List.getElem_mem hlt
          obtain ⟨hvx, hox⟩ := HCR.out _ hmem
          have hnx := ups_next (key := key) (o := vals rs) (show j < (cvals cs).length by rw [cvals_len]; exact hlt)
          rw [cvals_get] at hnx
          have hrowR : ∀ r ∈ flatG acc, validRow r.1.2.1 = true ∧ okCols key r.1.2.1.length = true := fun r hr => by
            rcases hR.out r hr with ⟨u, hu, e⟩ | ⟨u, hu, e⟩
            · rw [e]; exact ⟨(HRW.out u hu).1, (HRW.out u hu).2.1⟩
            · rw [e]; exact HCR.out u hu
          have HME := Lib.hid hmem
          clear hra hmem
          generalize (cs[j]?.getD cr0) = x at *
          obtain ⟨xt, ⟨xq, xs, xc⟩, xn⟩ := x
          dsimp only [rowv, chv] at c0 c1 c2' c2 hvx hox hnx
          have hkv := HPV.out xs hvx hox
          obtain ⟨L, hL⟩ : ∃ L, textOf (pick xs ds) = L := ⟨_, rfl⟩
          have hLl : L.length ≤ maxLen := by rw [← hL]; have := textOf_len (pick xs ds); unfold maxLen; omega
          have hkey := key_of L hLl
          -- what is left when the rows of the key are gone
          have hflat := flat_drop (k := pick xs ds) hK.out
          have hPd : (vals (flatG (acc.filter fun g => decide (rowG g ≠ pick xs ds)))).Perm (without key xs (ups key (vals rs) ((cvals cs).take j))) := by
            rw [hflat]
            have e1 : vals ((flatG acc).filter fun x => decide (pick x.1.2.1 ds ≠ pick xs ds)) = (vals (flatG acc)).filter fun x => !oneKey key x.1 xs := by
              unfold vals
              rw [List.filter_map]
              congr 1
              refine List.filter_congr fun r hr => ?_
              obtain ⟨h1, h2⟩ := hrowR r hr
              have h3 := oneKey_iff h1 hvx h2 hox
              have h4 : pick r.1.2.1 ds = pick xs ds ↔ pick r.1.2.1 key = pick xs key := pick_same HDK.out
              show decide (pick r.1.2.1 ds ≠ pick xs ds) = !oneKey key r.1.2.1 xs
              cases h5 : oneKey key r.1.2.1 xs with
              | true => have h6 := h4.2 (h3.1 h5); simp [h6]
              | false =>
                have h6 : ¬ pick r.1.2.1 ds = pick xs ds := fun h => by rw [h3.2 (h4.1 h)] at h5; cases h5
                simp [h6]
            rw [e1]
            exact hP.out.filter _
          have hrowU : ∀ x ∈ without key xs (ups key (vals rs) ((cvals cs).take j)), cmpRow xs x.1 ≠ 0 := fun x hx e => by
            obtain ⟨h1, h2⟩ := mem_without.1 hx
            obtain ⟨r, hr, rfl⟩ := List.mem_map.1 (hP.out.mem_iff.2 h1)
            have := row_eq hvx (hrowR r hr).1 e
            have h3 : oneKey key (itv r).1 xs = true := oneKey_refl_of this.symm
            rw [h3] at h2
            cases h2
          have hRd : ∀ r ∈ flatG (acc.filter fun g => decide (rowG g ≠ pick xs ds)), (∃ u ∈ rs, r.1 = u.1) ∨ ∃ u ∈ cs, r.1 = u.2.1 := fun r hr => by
            rw [hflat] at hr
            exact hR.out r (List.mem_filter.1 hr).1
          have hKd : Keyed1 ds (acc.filter fun g => decide (rowG g ≠ pick xs ds)) := fun g hg => hK.out g (List.mem_filter.1 hg).1
          have hms : w8.heap.size < wr.heap.size := hown.lt
          have htidy := hown.tidy (Maps.string_keyed Tryz.underlying9)
          have hGd := hG.out.del htidy hkv
          rw [hL] at hGd
          have hnoK : Maps.has (D.del (.string L)) (.string (textOf (pick xs ds))) = false := by rw [hL]; exact Maps.has_del_same
          have hneG : ∀ y ∈ acc.filter (fun g => decide (rowG g ≠ pick xs ds)), rowG y ≠ pick xs ds := fun y hy => of_decide_eq_true (List.mem_filter.1 hy).2
          have HALL := Lib.hid (And.intro hPd (And.intro hrowU (And.intro hRd (And.intro hKd (And.intro hGd (And.intro hnoK (And.intro hneG (And.intro hkv (And.intro (Maps.Tidy.del htidy (.string L)) (And.intro (Maps.IsMap.del hown.isMap (.string L)) (And.intro hL hnx)))))))))))
          have hbA : Below wr.heap.size wr (wr.alloc (.cells #[.int .i64 xt, .slice xq xs.length xc, .int .i64 xn] 40)) := (Below.refl _ _).alloc (Nat.le_refl _) _
          have hkA := Blk.new wr 40 #[.int .i64 xt, .slice xq xs.length xc, .int .i64 xn]
          have hBA := hB.trans (hbA.mono hB.size)
          have hkt := HKT.out xq xs xc _ hvx hox (c2.belowV hbA).2 hBA
          rw [hL] at hkt
          unfold TextPost at hkt
          have HKTX := Lib.hid hkt
          have HOA := Lib.hid (hO.out.below hbA)
          have HOWN := Lib.hid (hown.alloc (.cells #[.int .i64 xt, .slice xq xs.length xc, .int .i64 xn] 40))
          have HBLK := Lib.hid hkA
          have k1 := hkA.cell 1
          simp only [List.getElem?_toArray, List.getElem?_cons_zero, List.getElem?_cons_succ] at k1
          have HBA := Lib.hid hBA
          clear hkt hkv hL hLl hown hO hkA hvx hox c2 hB hbA hBA hPd hrowU hRd hKd hGd hnoK hneG htidy hnx hflat hP hR hG hK hrowR
          go_wp2_with fail
          refine HKTX.out.mono ?_
          rintro e w3 ⟨rfl, hb3⟩
          have hO3 := (HOA.out.below hb3).filter (fun g => decide (rowG g ≠ pick xs ds))
          have hown3 := ownsMap_below HOWN.out hb3
          have hblk3 := HBLK.out.belowV hb3 HBLK.out.lt
          have hB3 := HBA.out.trans (hb3.mono HBA.out.size)
          have HO3 := Lib.hid hO3
          have HB3 := Lib.hid hB3
          have HBLK3 := Lib.hid hblk3
          have hcsz : wr.heap.size < w3.heap.size := hblk3.lt
          clear hO3 hblk3 hb3 hB3
          have hs3 : w8.heap.size + 1 ≤ w3.heap.size := by omega
          obtain ⟨hPd, hrowU, hRd, hKd, hGd, hnoK, hneG, hkv, htd, hmd, hL, hnx⟩ := HALL.out
          have HPD := Lib.hid (And.intro hPd (And.intro hrowU hnx))
          have HRD := Lib.hid hRd
          have HGD := Lib.hid (And.intro hKd (And.intro hGd (And.intro hnoK (And.intro hneG (And.intro hkv (And.intro htd (And.intro hmd hL)))))))
          clear hPd hrowU hRd hKd hGd hnoK hneG hkv htd hmd hL hnx HALL
          by_cases hxn : 0 < xn
          · go_wp2_with (first
              | (at_delete; refine wpList_delete_own _ rfl _ _ 94 9 rfl 22 (Maps.string_keyed Tryz.underlying9) mapTL _ w8.heap.size _ D rfl hown3 _ _ rfl hkey ?_; intro w4 hown4 hturn; have hblk4 := HBLK3.out.kept hturn.grown (by intro e; simp at e; omega); have k1 := hblk4.cell 1; have k2 := hblk4.cell 2; simp only [List.getElem?_toArray, List.getElem?_cons_zero, List.getElem?_cons_succ] at k1 k2; have hown5 := hown4.alloc (.cells #[.slice xq xs.length xc, .int .i64 1] 60); have hval : heldR (.slice (some ⟨w4.heap.size, 0, none⟩) 1 1) = some (.held (.slice (some ⟨w4.heap.size, 0, none⟩) 1 1), []) := rfl)
              | (at_mapUpdate; refine wpList_mapUpdate_own _ rfl _ _ _ 94 rfl 9 22 (Maps.string_keyed Tryz.underlying9) mapTL _ w8.heap.size m (D.del (.string L)) rfl hown5 (by unfold maxLen; omega) _ _ _ rfl rfl hkey _ [] hval ?_; intro w7 hown7 hgrow7))
            have hs4 := hturn.grown.size
            have hO4 := HO3.out.kept hturn.grown (fun z hz e => by obtain ⟨zb, _, e3, hge, _⟩ := HO3.out.block hz; rw [e3] at e; simp only [Option.some.injEq] at e; omega)
            have hB4 : Below w8.heap.size w8 w4 := HB3.out.grown hturn.grown (by omega) (fun k e => by simp at e; omega)
            have hO5 := hO4.new (g := w4.heap.size) (cap := 1) (k := pick xs ds) (l := [((xq, xs, xc), 1)]) (World.grownBy_alloc w4 (.cells #[.slice xq xs.length xc, .int .i64 1] 60) none) (by simp) (own_one ((xq, xs, xc), 1) (by omega)) (Nat.le_refl _)
            have hO7 := hO5.kept hgrow7 (fun z hz e => by obtain ⟨zb, _, e3, hge, _⟩ := hO5.block hz; rw [e3] at e; simp only [Option.some.injEq] at e; omega)
            have hB7 : Below w8.heap.size w8 w7 := (hB4.alloc (by omega) _).grown hgrow7 (by simp; omega) (fun k e => by simp at e; omega)
            have hGN := HGD.out.2.1.new (tog := togG) HGD.out.2.2.2.2.2.1 HGD.out.2.2.2.2.2.2.1 (x := (pick xs ds, (some ⟨w4.heap.size, 0, none⟩, 1), [((xq, xs, xc), 1)])) HGD.out.2.2.2.2.1 HGD.out.2.2.1
            rw [gstep_no HGD.out.2.2.2.1, show textOf (rowG (pick xs ds, ((some ⟨w4.heap.size, 0, none⟩ : Option Addr), 1), [((xq, xs, xc), (1 : Int))])) = L from HGD.out.2.2.2.2.2.2.2] at hGN
            have hKN := keyed_new (v := (some ⟨w4.heap.size, 0, none⟩, 1)) (k := pick xs ds) (l := [((xq, xs, xc), (1 : Int))]) HGD.out.1 (fun u hu => by rw [List.mem_singleton] at hu; subst hu; rfl)
            have hPN : (vals (flatG ((acc.filter fun g => decide (rowG g ≠ pick xs ds)) ++ [(pick xs ds, (some ⟨w4.heap.size, 0, none⟩, 1), [((xq, xs, xc), (1 : Int))])]))).Perm (ups key (vals rs) ((cvals cs).take (j + 1))) := by
              rw [flat_one, vals_app1, HPD.out.2.2]
              unfold ups1
              rw [if_pos (show 0 < (xt, xs, xn).2.2 from hxn)]
              exact (HPD.out.1.append_right _).trans (put_perm (show (1 : Int) ≠ 0 by decide) HPD.out.2.1).symm
            have hRN : ∀ r ∈ flatG ((acc.filter fun g => decide (rowG g ≠ pick xs ds)) ++ [(pick xs ds, (some ⟨w4.heap.size, 0, none⟩, 1), [((xq, xs, xc), (1 : Int))])]), (∃ u ∈ rs, r.1 = u.1) ∨ ∃ u ∈ cs, r.1 = u.2.1 := fun r hr => by
              rw [flat_one] at hr
              rcases List.mem_append.1 hr with hr | hr
              · exact HRD.out r hr
              · rw [List.mem_singleton] at hr; subst hr; exact .inr ⟨_, HME.out, rfl⟩
            go_roundw
            case rel => exact ⟨j + 1, m + 1, _, _, by go_num, by omega, by omega, hown7, hGN, hKN, hO7, hPN, hRN, hB7⟩
            case measure => simp [RowKit.intOf]; omega
          · have hxn' : xn ≤ 0 := by omega
            go_wp2_with (at_delete; refine wpList_delete_own _ rfl _ _ 94 9 rfl 22 (Maps.string_keyed Tryz.underlying9) mapTL _ w8.heap.size _ D rfl hown3 _ _ rfl hkey ?_; intro w4 hown4 hturn; have hblk4 := HBLK3.out.kept hturn.grown (by intro e; simp at e; omega); have k1 := hblk4.cell 1; have k2 := hblk4.cell 2; simp only [List.getElem?_toArray, List.getElem?_cons_zero, List.getElem?_cons_succ] at k1 k2)
            have hs4 := hturn.grown.size
            have hO4 := HO3.out.kept hturn.grown (fun z hz e => by obtain ⟨zb, _, e3, hge, _⟩ := HO3.out.block hz; rw [e3] at e; simp only [Option.some.injEq] at e; omega)
            have hB4 : Below w8.heap.size w8 w4 := HB3.out.grown hturn.grown (by omega) (fun k e => by simp at e; omega)
            have hPN : (vals (flatG (acc.filter fun g => decide (rowG g ≠ pick xs ds)))).Perm (ups key (vals rs) ((cvals cs).take (j + 1))) := by
              rw [HPD.out.2.2]
              unfold ups1
              rw [if_neg (show ¬ 0 < (xt, xs, xn).2.2 from (by show ¬ 0 < xn; omega))]
              exact HPD.out.1
            go_roundw
            case rel => exact ⟨j + 1, m, _, _, by go_num, by omega, by omega, hown4, HGD.out.2.1, HGD.out.1, hO4, hPN, HRD.out, hB4⟩
            case measure => simp [RowKit.intOf]; omega
        · have hge : (cs.length : Int) ≤ (j : Int) := by omega
          have hje : j = cs.length := by omega
          have hPf : (vals (flatG acc)).Perm (ups key (vals rs) (cvals cs)) := by have := hP.out; rwa [hje, ← cvals_len cs, List.take_length] at this
          have hA : Asc (ups key (vals rs) (cvals cs)) := ups_asc HQ.out.1 (fun c hc => by obtain ⟨r, hr, rfl⟩ := List.mem_map.1 hc; exact (HCR.out r hr).1)
          have hlen : (flatG acc).length ≤ 800 := by
            have h1 := hPf.length_eq
            have h2 := ups_len key (cvals cs) (vals rs)
            rw [vals_len, cvals_len] at h2
            rw [vals_len] at h1
            omega
          have hal := Nat.le_trans (flatG_many fun g hg => (hO.out.1 g hg).2) hlen
          have HRW2 := Lib.hid (show ∀ W, Below w.heap.size w W → ∀ r ∈ flatG acc, RowB w.heap.size W r.1 from fun W h r hr => by
            rcases hR.out r hr with ⟨u, hu, e⟩ | ⟨u, hu, e⟩
            · rw [e]; exact (HRB.out u hu).below h
            · rw [e]; exact (HCB.out u hu).below h)
          have HPF := Lib.hid (And.intro hPf hA)
          have hbA : Below wr.heap.size wr (wr.alloc (.cells #[.map (some w8.heap.size)] 94)) := (Below.refl _ _).alloc (Nat.le_refl _) _
          have hownA := hown.alloc (.cells #[.map (some w8.heap.size)] 94)
          have hcm := (Blk.new wr 94 #[.map (some w8.heap.size)]).cell 0
          have hseq : SeqStopsK Fence.wide (3 - 1 - 1) Tryz.prog 121 #[.pointer (some ⟨wr.heap.size, 0, none⟩)] encG KeepsWalks (fun ys => ys.Perm acc) (fun _ => True) acc.length (wr.alloc (.cells #[.map (some w8.heap.size)] 94)) := fun l J Jx W hW hJ _ hY h0 =>
            valuesL1_in (3 - 1 - 1) (by omega) l wr.heap.size w8.heap.size m acc D hG.out J Jx W hJ ((hW.cell (p := ⟨wr.heap.size, 0, none⟩) (by simp)).trans hcm) (ownsMap_below hownA hW) hY h0
          have hcl := collectL_in 3 (by omega) 121 #[.pointer (some ⟨wr.heap.size, 0, none⟩)] (enters_of Tryz.func121 (by kernel_rfl) rfl) (fun ys => ys.Perm acc) (fun _ => True) acc.length (by unfold maxLen; omega) (by omega) _ hseq
          have HCL := Lib.hid hcl
          have HOA := Lib.hid (hO.out.below hbA)
          have hB9 := hB.trans (hbA.mono hB.size)
          clear hseq hcl hownA hcm hbA hG hK hO hP hR hown hPf hA hje
          go_wp2_with fail
          refine (valuesL_any _ _).mono ?_
          rintro e w9 ⟨rfl, rfl⟩
          go_wp2_with fail
          refine HCL.out.mono ?_
          rintro e w10 ⟨v1, gs, rfl, hgp, hgo, hb10⟩
          have hB10 := hB9.trans (hb10.mono hB9.size)
          have hBw10 : Below w.heap.size w w10 := hB8.trans (hB10.mono hB8.size)
          have hO10 := HOA.out.below hb10
          have hfp : (flatG gs).Perm (flatG acc) := hgp.flatMap_right _
          have hfl := hfp.length_eq
          have hcon := concatG_any _ v1 gs (by have := hgp.length_eq; omega) (by omega) w10 hgo (fun g hg => by
            have hga := hgp.mem_iff.1 hg
            obtain ⟨gb, e1, _, _, _⟩ := hO10.block hga
            refine ⟨items_of_own rfl (hO10.1 g hga).1 fun r hr => ?_, fun e => by rw [e1] at e; cases e⟩
            have h1 := HRW2.out w10 hBw10 r (List.mem_flatMap.2 ⟨g, hga, hr⟩)
            exact ⟨h1.okW hBw10.size, h1.2.1⟩)
          have HCON := Lib.hid hcon
          have HFP := Lib.hid hfp
          clear hcon hgo hgp hO10 hb10 hfp HCL HOA hB9
          go_wp2_with fail
          refine HCON.out.mono ?_
          rintro e w11 ⟨v2, rfl, ho2, hb11⟩
          have hB11 := hB10.trans (hb11.mono hB10.size)
          have hBw11 : Below w.heap.size w w11 := hB8.trans (hB11.mono hB8.size)
          unfold OwnsI at ho2
          have ho2' := ownsRow_base ho2 hB10.size
          have hso := sort_itemsU (flatG gs) w8.heap.size v2 w11 (by omega) hB11.size (fun y hy => (HRW2.out w11 hBw11 y (HFP.out.mem_iff.1 hy)).mono hB8.size) ho2'
          have HSO := Lib.hid hso
          have HLT := Lib.hid fun k hk => (ho2'.lt k hk).1
          clear hso ho2 ho2' hb11 HCON
          go_wp2_with fail
          refine HSO.out.mono ?_
          rintro e w12 ⟨rfl, zs2, hzp, hzs, hzo, hzg⟩
          have hB12 : Below w8.heap.size w8 w12 := hB11.grown hzg hB11.size HLT.out
          have hBw12 : Below w.heap.size w w12 := hB8.trans (hB12.mono hB8.size)
          have hperm := hzp.trans HFP.out
          have hvz : vals zs2 = ups key (vals rs) (cvals cs) := sorted_up HPF.out.2 ((hperm.map itv).trans HPF.out.1) (by unfold vals; rw [List.pairwise_map]; exact hzs)
          have hnz : nz (ups key (vals rs) (cvals cs)) = ups key (vals rs) (cvals cs) := by
            unfold nz
            rw [List.filter_eq_self]
            intro x hx
            have := (HPF.out.2.1 x hx).2
            simpa using this
          have has := asBag_any w.heap.size v2 zs2 (by have := hperm.length_eq; omega) w12 hBw12.size (by rw [hzp.length_eq]; exact ownsRow_base hzo hB8.size) (fun r hr => HRW2.out w12 hBw12 r (hperm.mem_iff.1 hr))
          rw [hvz, hnz] at has
          have HAS := Lib.hid has
          clear has hvz hnz hperm hzp hzs hzo hzg HSO HPF
          go_wp2_with fail
          refine HAS.out.mono ?_
          rintro e w13 ⟨⟨p9, s9, c9, rfl, h1, h2, h3, h4, h5⟩, _⟩
          have HH := Lib.hid (And.intro h1 (And.intro h2 (And.intro h3 (And.intro h4 h5))))
          clear h1 h2 h3 h4 h5
          go_wp2_with fail
          go_ret2
          exact ⟨p9, s9, c9, rfl, HH.out.1, HH.out.2.1, HH.out.2.2.1, HH.out.2.2.2.1, hBw12.trans HH.out.2.2.2.2⟩

theorem upsErr7 {b : List It} {l : List Ch} {key : List Int} (h : validBag b = true ∧ validCs l = true) (hk : keyOK key b l = false) : upsErr b l key = 7 ∧ upsVal b l key = [] := by
  unfold upsErr upsVal
  rw [if_pos h, hk, if_neg (by decide), if_neg (fun hh => absurd hh.2 (by decide))]
  exact ⟨rfl, rfl⟩
set_option maxRecDepth 100000 in
set_option maxHeartbeats 1000000 in
theorem bagUpserts_any : UpsC := fun p o q rs cs key c k d hm hm2 hc hmk w hX hL hC hT => by
  have h1 := bagValid_any p rs c hm hc w hX
  have h2 := fun W (h : Below w.heap.size w W) => bagVCs_any o cs k hm2 W (hL.belowV h)
  cases q1 : validBag (vals rs) with
  | false =>
    obtain ⟨e1, e2⟩ := upsNo (b := vals rs) (l := cvals cs) (key := key) (fun h => by rw [q1] at h; exact absurd h.1 (by decide))
    rw [e1, e2]
    rw [q1] at h1
    have H1 := Lib.hid h1
    clear h1 h2 hX hL hC hT q1 e1 e2
    go_enter Tryz.func27, Tryz.ntmps27
    go_wp2_with fail
    refine H1.out.mono ?_
    rintro e w1 ⟨rfl, hb1⟩
    go_wp2_with fail
    go_ret2
    exact bagPost_nil hb1
  | true =>
    rw [q1] at h1
    cases q2 : validCs (cvals cs) with
    | false =>
      obtain ⟨e1, e2⟩ := upsNo (b := vals rs) (l := cvals cs) (key := key) (fun h => by rw [q2] at h; exact absurd h.2 (by decide))
      rw [e1, e2]
      rw [q2] at h2
      have H1 := Lib.hid h1
      have H2 := Lib.hid h2
      clear h1 h2 hX hL hC hT q1 q2 e1 e2
      go_enter Tryz.func27, Tryz.ntmps27
      go_wp2_with fail
      refine H1.out.mono ?_
      rintro e w1 ⟨rfl, hb1⟩
      go_wp2_with fail
      refine (H2.out _ hb1).mono ?_
      rintro e w2 ⟨rfl, hb2⟩
      go_wp2_with fail
      go_ret2
      exact bagPost_nil (hb1.trans (hb2.mono hb1.size))
    | true =>
      have hl1 : rs.length ≤ 400 := by have := (validBag_iff.1 q1).1; rwa [vals_len] at this
      have hl2 : cs.length ≤ 400 := by have := (validCs_iff.1 q2).1; rwa [cvals_len] at this
      by_cases hk0 : 0 < key.length
      · cases hok : okCols key (commN (vals rs ++ its (cvals cs))) with
        | true =>
          have hk : keyOK key (vals rs) (cvals cs) = true := by unfold keyOK; rw [decide_eq_true hk0, hok]; rfl
          have e1 : upsErr (vals rs) (cvals cs) key = toldErr (ups key (vals rs) (cvals cs)) := by unfold upsErr; rw [if_pos ⟨q1, q2⟩, if_pos hk]
          have e2 : upsVal (vals rs) (cvals cs) key = toldVal (ups key (vals rs) (cvals cs)) := by unfold upsVal; rw [if_pos ⟨⟨q1, q2⟩, hk⟩]
          rw [e1, e2]
          exact bagUpserts_yes p o q rs cs key c k d hl1 hl2 hc hmk w hX hL hC hT q1 q2 hk0 hok
        | false =>
          obtain ⟨e1, e2⟩ := upsErr7 (key := key) ⟨q1, q2⟩ (by unfold keyOK; rw [hok, Bool.and_false])
          rw [e1, e2]
          have h3 := fun W (h : Below w.heap.size w W) => commonL_any p o rs cs c k hm hm2 W (hX.belowV h) (hL.belowV h)
          have h4 := fun W (h : Below w.heap.size w W) => bagCols_any q key d (commN (vals rs ++ its (cvals cs))) (by omega) W (hC.belowV h)
          have hlen0 : ((key.length : Int) == 0) = false := beq_eq_false_iff_ne.2 (by omega)
          rw [q2] at h2
          rw [hok] at h4
          have H1 := Lib.hid h1
          have H2 := Lib.hid h2
          have H3 := Lib.hid h3
          have H4 := Lib.hid h4
          clear h1 h2 h3 h4 hX hL hC hT q1 q2 e1 e2 hok hk0
          generalize commN (vals rs ++ its (cvals cs)) = nn at H3 H4
          go_enter Tryz.func27, Tryz.ntmps27
          go_wp2_with fail
          refine H1.out.mono ?_
          rintro e w1 ⟨rfl, hb1⟩
          go_wp2_with fail
          refine (H2.out _ hb1).mono ?_
          rintro e w2 ⟨rfl, hb2⟩
          have hB2 : Below w.heap.size w w2 := hb1.trans (hb2.mono hb1.size)
          go_wp2_with fail
          refine (H3.out _ hB2).mono ?_
          rintro e w3 ⟨rfl, hb3⟩
          have hB3 : Below w.heap.size w w3 := hB2.trans (hb3.mono hB2.size)
          go_wp2_with fail
          refine (H4.out _ hB3).mono ?_
          rintro e w4 ⟨rfl, hb4⟩
          go_wp2_with fail
          go_ret2
          exact bagPost_nil (hB3.trans (hb4.mono hB3.size))
      · have hkl : key.length = 0 := by omega
        obtain ⟨e1, e2⟩ := upsErr7 (key := key) ⟨q1, q2⟩ (by unfold keyOK; rw [decide_eq_false hk0]; rfl)
        rw [e1, e2, hkl]
        rw [q2] at h2
        have H1 := Lib.hid h1
        have H2 := Lib.hid h2
        clear h1 h2 hX hL hC hT q1 q2 e1 e2 hk0 hkl
        go_enter Tryz.func27, Tryz.ntmps27
        go_wp2_with fail
        refine H1.out.mono ?_
        rintro e w1 ⟨rfl, hb1⟩
        go_wp2_with fail
        refine (H2.out _ hb1).mono ?_
        rintro e w2 ⟨rfl, hb2⟩
        go_wp2_with fail
        go_ret2
        exact bagPost_nil (hb1.trans (hb2.mono hb1.size))
end Go.Proofs.YthoimepdioeckaaGreatDoor

/-!
  PROVED HERE: for every bag (any items at all), every list of changes and every list of columns the law BagUpserts returns true: Upserts of package bag answers as the document's own, and twice with the same changes is once. Its arguments read afterwards as before. Condition: the three listed tables hold what the program's text lays in them.
-/
namespace Go.Proofs.YthoimepdioeckaaGreatDoor.bagUpserts
open Go.ChangeShapes Go.WideShapes Go.ChangeAt Go.RowKit
set_option linter.unusedVariables false

set_option maxRecDepth 100000 in
theorem lifted (os : Os) (started : os.Started) (H : Type) (enc : TypeId × Value → H) :
    ReturnsInHanded {} Tryz.checked os 6 .any (fun w args => (Rows.bagUpsertsSpec.pre enc Tryz.prog Tryz.f6 [] false w args ∧ laidMetH Tryz.prog laid3 w) ∧ sizedMet enc Tryz.prog Tryz.f6 (OpenSpec.ofChange Rows.bagUpsertsSpec) false w args)
      (Rows.bagUpsertsSpec.post enc Tryz.prog Tryz.f6 false true false false) := by
  refine returnsInHanded_of_change_and (C := Tryz.checked) (X := fun w _ => laidMetH Tryz.prog laid3 w) (fun _ _ _ hh h => h.of_heap hh) own started (by kernel_rfl) Tryz.func6
    (ChangeSpec.witness_shaped (enc := enc) (C := Tryz.checked) (os := os) (X := fun w _ => laidMetH Tryz.prog laid3 w) false (World.doorLaid Tryz.prog 4000 os) #[.slice none 0 0, .slice none 0 0, .slice none 0 0] 8 rfl (World.shaped_of_RefB (by kernel_rfl) (by kernel_rfl)) (by kernel_rfl) (by kernel_rfl) (by kernel_rfl) (door_met os _)) ?_
  intro W base args ds gs before hval0 hW _ _ hL _
  have hval : ∀ (j : Nat) t v, Tryz.f6.params[j]? = some t → args[j]? = some v → Value.okWide Tryz.prog W .any base t v := hval0
  have hW' := hW
  obtain ⟨pp, qq, hA0, hV, rfl, hfz, hnd⟩ := hW
  have hA : DataW.TrodAll enc Tryz.prog W 0 (fun _ => true) true Tryz.f6.params.toList args.toList ds pp := hA0
  rw [Tryz.params6] at hA hval
  obtain ⟨rfl, rfl⟩ := trodVars_none hV
  have hA' := hA
  obtain ⟨v0, vs0, d0, ds0, p0, q0, hargs, rfl, rfl, h0, r0⟩ := trodAll_cons hA
  obtain ⟨v1, vs1, d1, ds1, p1, q1, rfl, rfl, rfl, h1, r1⟩ := trodAll_cons r0
  obtain ⟨v2, vs2, d2, ds2, p2, q2, rfl, rfl, rfl, h2, r2⟩ := trodAll_cons r1
  obtain ⟨rfl, rfl, rfl⟩ := trodAll_nil r2
  obtain rfl : args = #[v0, v1, v2] := by cases args; simp_all
  obtain ⟨x, rfl, hX, hxz⟩ := open_bag (hval 0 _ v0 rfl rfl) h0
  obtain ⟨l, rfl, hCL, _⟩ := open_changes (hval 1 _ v1 rfl rfl) h1
  obtain ⟨q, cs, d, rfl, hmc, hC⟩ := open_cols (hval 2 _ v2 rfl rfl) h2
  clear hA0 hval0
  refine (upsWalk bagUpserts_any x l q cs d W hX hxz hCL (Nat.le_trans hmc (by decide)) hC (tab_of_laid hL)).mono fun e W' ⟨he, hg⟩ => ?_
  subst he
  exact ⟨_, rfl, _, _, _, [], _, [], hW', trodAll_mk1 (shut_bool Tryz.underlying4 true), trodAll_below laidOut hg (by decide +kernel) hA' (fun x hx => by simpa using hW'.lt x (by simpa using hx)), rfl, hg.frame _, fun h => by cases h⟩

theorem over : Rows.BagUpsertsSaid :=
  OpenClaim.holds_of_wide 6 Tryz.f6 rfl rfl rfl rfl rfl rfl rfl ⟨rfl, rfl, rfl, rfl, rfl⟩ rfl rfl rfl rfl rfl (by kernel_rfl) Tryz.func6 (by kernel_rfl)
    (of_decide_eq_true (by kernel_rfl)) (by unfold Func.isWrapper; first | (rw [if_pos (by decide +kernel)]; kernel_rfl) | (rw [if_neg (by decide +kernel)]; exact ⟨rfl, rfl⟩))
    (fun os started H enc _ => lifted os started H enc)

theorem proved : Rows.BagUpsertsCardSaid :=
  Claim7.holds_tied_plain_at .later [] [.data, .data, .data] true (true, "e149b117561d86b19624fbd063e74279d5dc5e49ce8b9bb936bb7e071e67dd24") true
    over (fun _ h => by cases h) (by kernel_rfl) (fun _ h => by cases h) bagUpserts_row_tie rfl ⟨rfl, rfl⟩ (by kernel_rfl) rfl
    (fun f fn hf hfn => by
      obtain rfl : f = 6 := Option.some.inj ((show Tryz.prog.funcNamed "tidewright/tidewrightlaw03.BagUpserts" = some 6 by kernel_rfl).symm.trans hf) |>.symm
      obtain rfl : fn = Tryz.f6 := (Option.some.inj (Tryz.func6.symm.trans hfn)).symm
      exact ⟨by kernel_rfl, fun j t ht => by
        rw [Tryz.params6] at ht
        have hm : t ∈ [23, 24, 43] := by simpa using Array.mem_of_getElem? ht
        have hall : ([23, 24, 43].all fun u => !Tryz.prog.wantsStandIn u) = true := by kernel_rfl
        exact (show Tryz.prog.wantsStandIn t = false by simpa using List.all_eq_true.1 hall t hm)⟩)
    (by kernel_rfl)
#print axioms proved
end Go.Proofs.YthoimepdioeckaaGreatDoor.bagUpserts

