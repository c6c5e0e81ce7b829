/-
  An item's number changed, in an accumulator of one's own; package fold.
  What Add comes to; package fold.
-/
import Derived.Test.YtfoknllnknjccaaGreatFits5
import Derived.Test.YtfoknllnknjccaaGreatInsD
namespace Go.Proofs.YtfoknllnknjccaaGreat
open Go.RowKit Go.Lib

def AddPost (w : World) (lo B : Nat) (v : Value) (gs : List Ag) (n : Int) (l : List It) (er : Int) (e : Ending) (w' : World) : Prop :=
  e = .returned (.int .i64 er) ∧ ∃ v' ss', AccO w' lo B v' gs n ss' ∧ vals ss' = l ∧ (∀ x, v'.ownBlock = some x → v.ownBlock = some x ∨ w.heap.size ≤ x) ∧ Keep2 w w' B v.ownBlock
/-- The rows put back. -/
theorem AccO.storeV {W W' : World} {lo B : Nat} {v v' : Value} {gs : List Ag} {n : Int} {ss ss' : List ItR} (h : AccO W lo B v gs n ss) (k : W.grownBy W' v.ownBlock) (hO : W'.ownsRow lo 53 2 v' ss'.length (flatI ss'))
    (hr : ∀ r ∈ ss', (∃ r0 ∈ ss, r.1 = r0.1) ∨ (OwnsV W lo (rowv r.1) r.1.2.1 ∧ r.1.2.1.length ≤ 8)) (hl : ss'.length ≤ 400) : AccO (W'.setCell ⟨B, 2, none⟩ v') lo B v' gs n ss' ∧ Keep2 W (W'.setCell ⟨B, 2, none⟩ v') B v.ownBlock := by
  obtain ⟨h0, ⟨p, c, hK, hG⟩, hI, h8, _⟩ := h
  have hne : some B ≠ v.ownBlock := fun e => apart_blk hI.1 hK (by decide) B e.symm rfl
  have hK' : Blk W' B 66 #[.slice p gs.length c, .int .i64 n, v] := (k.block B hK.lt hne).trans hK
  have k2 : Keep2 W (W'.setCell ⟨B, 2, none⟩ v') B v.ownBlock := (keep2_of_grown k).trans (keep2_set W' B 2 v' none) (fun x e => by cases e)
  have hK2 : Blk (W'.setCell ⟨B, 2, none⟩ v') B 66 #[.slice p gs.length c, .int .i64 n, v'] := hK'.setG 2 v'
  have hrow : ∀ r ∈ ss', OwnsV W lo (rowv r.1) r.1.2.1 ∧ r.1.2.1.length ≤ 8 := fun r h => by
    rcases hr r h with ⟨r0, hr0, e⟩ | h
    · rw [e]; exact ⟨hI.2 r0 hr0, h8 r0 hr0⟩
    · exact h
  refine ⟨⟨h0, ⟨p, c, hK2, own_keep2 hG k2 fun x hx => ⟨apart_blk hG hK (by decide) x hx, apart_own hG hI.1 (by decide) x hx⟩⟩, ⟨own_keep2 hO (keep2_set W' B 2 v' none) fun x hx => ⟨apart_blk hO hK' (by decide) x hx, fun e => by cases e⟩, fun r h => ?_⟩, fun r h => (hrow r h).2, hl⟩, k2⟩
  exact own_keep2 (hrow r h).1 k2 fun x hx => ⟨apart_blk (hrow r h).1 hK (by decide) x hx, apart_own (hrow r h).1 hI.1 (by decide) x hx⟩
theorem vals_cut (ss : List ItR) (i : Nat) : vals (ss.take i ++ ss.drop (i + 1)) = (vals ss).take i ++ (vals ss).drop (i + 1) := by simp [vals]
theorem valsG_len (ss : List ItR) : (vals ss).length = ss.length := by simp [vals]
theorem valsG_get (ss : List ItR) (i : Nat) (h : i < ss.length) : (vals ss)[i]?.getD it0 = itv (ss[i]?.getD ir0) := by
  simp [vals, List.getElem?_map, List.getElem?_eq_getElem h]
theorem vals_cnt (ss : List ItR) (i : Nat) (c : Int) (h : i < ss.length) : vals (ss.set i ((ss[i]?.getD ir0).1, c)) = (vals ss).take i ++ ((itv (ss[i]?.getD ir0)).1, c) :: (vals ss).drop (i + 1) := by
  have h2 : i < (vals ss).length := by rw [valsG_len]; exact h
  unfold vals at h2 ⊢
  rw [List.map_set, List.set_eq_take_append_cons_drop, if_pos h2]
  rfl

set_option maxRecDepth 100000 in
set_option maxHeartbeats 1000000 in
theorem change_any (lo B i : Nat) (v : Value) (gs : List Ag) (n k : Int) (ss : List ItR) (hi : i < ss.length) (hk : -1000000 ≤ k ∧ k ≤ 1000000) (hN : -1000000 ≤ (ss[i]?.getD ir0).2 ∧ (ss[i]?.getD ir0).2 ≤ 1000000) (w : World) (hA : AccO w lo B v gs n ss) :
    Calls Tryz.prog 38 #[.pointer (some ⟨B, 0, none⟩), .int .i64 (i : Int), .int .i64 k] w
      (AddPost w lo B v gs n (if far ((ss[i]?.getD ir0).2 + k) = true then vals ss else if (ss[i]?.getD ir0).2 + k = 0 then (vals ss).take i ++ (vals ss).drop (i + 1) else (vals ss).take i ++ ((itv (ss[i]?.getD ir0)).1, (ss[i]?.getD ir0).2 + k) :: (vals ss).drop (i + 1)) (if far ((ss[i]?.getD ir0).2 + k) = true then 4 else 0)) := by
  have hA0 := Lib.hid hA
  obtain ⟨q, cap, rfl, hcap⟩ := hA.form
  obtain ⟨g, e, hgl, hge, hfz⟩ : ∃ g, q = some ⟨g, 0, none⟩ ∧ g < w.heap.size ∧ lo ≤ g ∧ (∀ j, w.frozen? ⟨g, j, none⟩ = false) := by
    rcases hA.2.2.1.1.2 with ⟨_, e0⟩ | ⟨g', cap', cur, h', hb, hg, _⟩
    · omega
    · simp only [Value.slice.injEq, true_and] at h'
      exact ⟨g', h'.1, (Array.getElem?_eq_some_iff.1 hg).1, hb, fun j => by simp [World.frozen?, hg]⟩
  subst e
  have hO := hA.2.2.1.1
  have hl4 := hA.2.2.2.2
  obtain ⟨p, c, hK, _⟩ := hA.2.1
  have c2 := hK.cell 2
  simp only [List.getElem?_toArray, List.getElem?_cons_zero, List.getElem?_cons_succ] at c2
  obtain ⟨_, d1⟩ := own_items rfl hO i hi
  have f1 := hfz (i * 2 + 1)
  have hBg : B ≠ g := fun e => apart_blk hO hK (by decide) g rfl e.symm
  obtain ⟨x, hx⟩ : ∃ x, x = (ss[i]?.getD ir0).2 := ⟨_, rfl⟩
  rw [← hx] at d1 hN ⊢
  have hsum : IntKind.i64.wrap (x + k) = x + k := by rw [IntKind.wrap_i64]; omega
  have hi0 : (0 : Int) ≤ (i : Int) := by omega
  have hi1 : (i : Int) < (ss.length : Int) := by omega
  obtain ⟨s, hs⟩ : ∃ s, s = x + k := ⟨_, rfl⟩
  cases qf : far (x + k) with
  | true =>
    have HB := Lib.hid (beyond_any (x + k))
    rw [qf] at HB
    rw [if_pos rfl, if_pos rfl]
    clear hA hO hK hfz hx hs qf f1
    go_enter Tryz.func38, Tryz.ntmps38
    go_wp2_with fail
    refine (HB.out _).mono ?_
    rintro e w1 ⟨rfl, rfl⟩
    go_wp2_with fail
    go_ret
    exact ⟨rfl, _, ss, hA0.out, rfl, fun x hx => .inl hx, keep2_refl _ _ _⟩
  | false =>
    have HB := Lib.hid (beyond_any (x + k))
    rw [qf] at HB
    rw [if_neg (show ¬ (false = true) from Bool.false_ne_true), if_neg (show ¬ (false = true) from Bool.false_ne_true)]
    obtain ⟨w1, hw1⟩ : ∃ w1, w1 = w.setCell ⟨g, i * 2 + 1, none⟩ (.int .i64 (x + k)) := ⟨_, rfl⟩
    have hst := hO.stored (i * 2 + 1) (.int .i64 (x + k))
    rw [← hw1, ← flatI_cnt] at hst
    have hO1 : w1.ownsRow lo 53 2 (.slice (some ⟨g, 0, none⟩) ss.length cap) (ss.set i ((ss[i]?.getD ir0).1, x + k)).length (flatI (ss.set i ((ss[i]?.getD ir0).1, x + k))) := by rw [List.length_set]; exact hst.1
    have hmem : ∀ r ∈ ss.set i ((ss[i]?.getD ir0).1, x + k), r ∈ ss ∨ ∃ r0 ∈ ss, r.1 = r0.1 := fun r hr => by
      rcases List.mem_or_eq_of_mem_set hr with h | h
      · exact .inl h
      · refine .inr ⟨ss[i]?.getD ir0, ?_, by rw [h]⟩
        rw [List.getElem?_eq_getElem hi]; exact List.getElem_mem hi
    have hA1 := hA.items_new hst.2 hO1 hmem (by rw [List.length_set]; exact hl4)
    obtain ⟨p1, c1, hK1, _⟩ := hA1.2.1
    have e2 := hK1.cell 2
    simp only [List.getElem?_toArray, List.getElem?_cons_zero, List.getElem?_cons_succ] at e2
    by_cases h0 : x + k = 0
    · rw [if_pos h0]
      have hD := del_any lo g i (ss.length - 1) cap (by omega) (by omega) (by omega) (flatI (ss.set i ((ss[i]?.getD ir0).1, x + k))) (fun u hu => by
        simp only [flatI, List.mem_flatMap, cellsI, List.mem_cons, List.not_mem_nil, or_false] at hu
        obtain ⟨y, _, rfl | rfl⟩ := hu <;> rfl) w1 (by rw [show ss.length - 1 + 1 = ss.length by omega]; exact hst.1)
      rw [show ss.length - 1 + 1 = ss.length by omega, ← flatI_cut] at hD
      have HD := Lib.hid hD
      have HF := Lib.hid (show ∀ w2, RemPost w1 lo g (ss.length - 1) cap (flatI ((ss.set i ((ss[i]?.getD ir0).1, x + k)).take i ++ (ss.set i ((ss[i]?.getD ir0).1, x + k)).drop (i + 1))) (.returned (.slice (some ⟨g, 0, none⟩) (ss.length - 1) cap)) w2 →
          AddPost w lo B (.slice (some ⟨g, 0, none⟩) ss.length cap) gs n ((vals ss).take i ++ (vals ss).drop (i + 1)) 0 (.returned (.int .i64 0)) (w2.setCell ⟨B, 2, none⟩ (.slice (some ⟨g, 0, none⟩) (ss.length - 1) cap)) ∧ w2.cell? ⟨B, 2, none⟩ = some (.slice (some ⟨g, 0, none⟩) ss.length cap) ∧ w2.frozen? ⟨B, 2, none⟩ = false from fun w2 h => by
        have hl2 : ((ss.set i ((ss[i]?.getD ir0).1, x + k)).take i ++ (ss.set i ((ss[i]?.getD ir0).1, x + k)).drop (i + 1)).length = ss.length - 1 := by
          simp only [List.length_append, List.length_take, List.length_drop, List.length_set]; omega
        have hS := hA1.storeV (v' := .slice (some ⟨g, 0, none⟩) (ss.length - 1) cap) (ss' := (ss.set i ((ss[i]?.getD ir0).1, x + k)).take i ++ (ss.set i ((ss[i]?.getD ir0).1, x + k)).drop (i + 1)) h.2.2 (by rw [hl2]; exact h.2.1) (fun r hr => .inl ⟨r, by
          rcases List.mem_append.1 hr with hr | hr
          · exact List.mem_of_mem_take hr
          · exact List.mem_of_mem_drop hr, rfl⟩) (by omega)
        have hK2 := hK1.keepG h.2.2 (by simp only [ne_eq, Option.some.injEq]; exact hBg)
        have k2 := hK2.cell 2
        simp only [List.getElem?_toArray, List.getElem?_cons_zero, List.getElem?_cons_succ] at k2
        refine ⟨⟨rfl, _, _, hS.1, ?_, fun x hx => .inl hx, (keep2_of_grown hst.2).trans hS.2 (fun x e => .inl e)⟩, k2, hK2.froz 2⟩
        rw [vals_cut, vals_cnt ss i _ hi]
        have hli : i ≤ (vals ss).length := by rw [valsG_len]; omega
        rw [List.take_append_of_le_length (by rw [List.length_take]; omega), List.take_of_length_le (by rw [List.length_take]; omega), List.drop_append, List.drop_eq_nil_of_le (by rw [List.length_take]; omega), List.nil_append, List.length_take, Nat.min_eq_left hli, show i + 1 - i = 1 by omega]
        rfl)
      have hwi : IntKind.i64.wrap ((i : Int) + 1) = (i : Int) + 1 := by rw [IntKind.wrap_i64]; omega
      clear hA hO hK hfz hx qf hst hO1 hmem hA1 hK1 hD hs s
      subst hw1
      rw [h0] at HB HD HF e2 hsum
      go_enter Tryz.func38, Tryz.ntmps38
      go_wp2_with fail
      refine (HB.out _).mono ?_
      rintro e w1' ⟨rfl, rfl⟩
      go_wp2_with fail
      refine HD.out.mono ?_
      rintro e w2 ⟨rfl, hd2, hd3⟩
      obtain ⟨hf1, hf2, hf3⟩ := HF.out w2 ⟨rfl, hd2, hd3⟩
      have hf1 := Lib.hid hf1
      clear hd2 hd3 e2
      go_wp2_with fail
      go_ret
      exact hf1.out
    · rw [if_neg h0]
      have HF : Hid (AddPost w lo B (.slice (some ⟨g, 0, none⟩) ss.length cap) gs n ((vals ss).take i ++ ((itv (ss[i]?.getD ir0)).1, x + k) :: (vals ss).drop (i + 1)) 0 (.returned (.int .i64 0)) w1) :=
        Lib.hid ⟨rfl, _, _, hA1, vals_cnt ss i _ hi, fun x hx => .inl hx, keep2_of_grown hst.2⟩
      have h0' : decide (x + k = 0) = false := decide_eq_false h0
      clear hA hO hK hfz hx qf hst hO1 hmem hA1 hK1 hs s
      subst hw1
      go_enter Tryz.func38, Tryz.ntmps38
      go_wp2_with fail
      refine (HB.out _).mono ?_
      rintro e w1' ⟨rfl, rfl⟩
      go_wp2_with fail
      go_ret
      exact HF.out
end Go.Proofs.YtfoknllnknjccaaGreat

namespace Go.Proofs.YtfoknllnknjccaaGreat
open Go.RowKit Go.Lib

def addErr (n : Int) (l : List It) (xs : List Val) (k : Int) : Int :=
  if fitsR n xs = false then 1 else if k = 0 ∨ far k = true then 7 else if far (cnt l xs + k) = true then 4 else if cnt l xs = 0 ∧ l.length = 400 then 4 else 0
def addVal (n : Int) (l : List It) (xs : List Val) (k : Int) : List It := if addErr n l xs k = 0 then put l xs k else l
theorem far_iff {k : Int} : far k = false ↔ -1000000 ≤ k ∧ k ≤ 1000000 := by
  unfold far
  rw [Bool.or_eq_false_iff, decide_eq_false_iff_not, decide_eq_false_iff_not]
  omega
theorem anti0 (a b : List Val) : (cmpRow a b < 0 ↔ 0 < cmpRow b a) ∧ (cmpRow a b = 0 ↔ cmpRow b a = 0) := by
  have := cmpRow_ok.anti a b
  omega
theorem before {l : List It} {r : List Val} {i : Nat} (h : Up l) (hi : i ≤ l.length) (h1 : i = 0 ∨ cmpRow (l[i - 1]?.getD it0).1 r < 0) : ∀ j, j < i → 0 < cmpRow r (l[j]?.getD it0).1 := fun j hj => by
  have h1 := h1.resolve_left (by omega)
  have h2 := up_le h (show j ≤ i - 1 by omega) (by omega)
  have h3 := (cmpRow_ok.trans _ _ r h2 (by omega))
  rw [← (anti0 _ _).1]
  by_cases e : cmpRow (l[j]?.getD it0).1 r = 0
  · have := (h3.2 e).2; omega
  · omega
theorem add_found {l : List It} {n k : Int} {r : List Val} {i : Nat} (hv : validBag l = true) (hf : fitsR n r = true) (hk : ¬ (k = 0 ∨ far k = true)) (hi : i < l.length) (h1 : i = 0 ∨ cmpRow (l[i - 1]?.getD it0).1 r < 0) (h0 : cmpRow (l[i]?.getD it0).1 r = 0) :
    addErr n l r k = (if far ((l[i]?.getD it0).2 + k) = true then 4 else 0) ∧ addVal n l r k = (if far ((l[i]?.getD it0).2 + k) = true then l else if (l[i]?.getD it0).2 + k = 0 then l.take i ++ l.drop (i + 1) else l.take i ++ ((l[i]?.getD it0).1, (l[i]?.getD it0).2 + k) :: l.drop (i + 1)) := by
  obtain ⟨hl4, hok, hup⟩ := validBag_iff.1 hv
  have hc := cnt_found hup hi h0
  have hmem : l[i]?.getD it0 ∈ l := by rw [List.getElem?_eq_getElem hi]; exact List.getElem_mem hi
  have hit := itOK_iff.1 (hok _ hmem)
  have hvr : validRow r = true := by unfold fitsR at hf; rw [Bool.and_eq_true] at hf; exact hf.1
  have he : (l[i]?.getD it0).1 = r := row_eq hit.1 hvr h0
  have hp := put_upd (l := l) (r := r) (n := k) i hi (before hup (by omega) h1) ((anti0 _ _).2.1 h0)
  have h7 : ¬ (fitsR n r = false) := by rw [hf]; decide
  have hne : ¬ ((l[i]?.getD it0).2 = 0 ∧ l.length = 400) := fun h => hit.2.1 h.1
  have e1 : addErr n l r k = if far ((l[i]?.getD it0).2 + k) = true then 4 else 0 := by
    unfold addErr
    rw [if_neg h7, if_neg hk, hc, if_neg hne]
  refine ⟨e1, ?_⟩
  unfold addVal
  rw [e1, he, ← hp]
  by_cases q : far ((l[i]?.getD it0).2 + k) = true
  · rw [if_pos q, if_pos q, if_neg (by decide)]
  · rw [if_neg q, if_neg q, if_pos rfl]
theorem add_absent {l : List It} {n k : Int} {r : List Val} {i : Nat} (hv : validBag l = true) (hf : fitsR n r = true) (hk : ¬ (k = 0 ∨ far k = true)) (hi : i ≤ l.length) (h1 : i = 0 ∨ cmpRow (l[i - 1]?.getD it0).1 r < 0) (h2 : i = l.length ∨ 0 < cmpRow (l[i]?.getD it0).1 r) :
    addErr n l r k = (if l.length = 400 then 4 else 0) ∧ addVal n l r k = (if l.length = 400 then l else l.take i ++ (r, k) :: l.drop i) := by
  obtain ⟨hl4, hok, hup⟩ := validBag_iff.1 hv
  have hc := cnt_absent hup hi h1 h2
  have h7 : ¬ (fitsR n r = false) := by rw [hf]; decide
  have h0 : ¬ (far (0 + k) = true) := fun h => hk (.inr (by rwa [Int.zero_add] at h))
  have e1 : addErr n l r k = if l.length = 400 then 4 else 0 := by
    unfold addErr
    rw [if_neg h7, if_neg hk, hc, if_neg h0]
    simp
  refine ⟨e1, ?_⟩
  unfold addVal
  rw [e1]
  by_cases q : l.length = 400
  · rw [if_pos q, if_pos q, if_neg (by decide)]
  · rw [if_neg q, if_neg q, if_pos rfl]
    exact put_new (fun e => hk (.inl e)) i hi (before hup hi h1) (fun h => (anti0 _ _).1.2 (h2.resolve_left (by omega)))
theorem putG_len (l : List It) (r : List Val) (n : Int) : (put l r n).length ≤ l.length + 1 := by
  induction l with
  | nil => rw [put]; split <;> simp
  | cons y l ih =>
    rw [put]
    split
    · split <;> simp
    · split
      · split
        · simp; omega
        · simp
      · simp only [List.length_cons]; omega
theorem putG_len2 {l : List It} {r : List Val} {n : Int} (h : Up l) (hc : cnt l r ≠ 0) : (put l r n).length ≤ l.length := by
  induction l with
  | nil => exact absurd rfl hc
  | cons y l ih =>
    rw [put]
    by_cases e1 : cmpRow r y.1 < 0
    · exact absurd (cnt_above fun z hz => by
        rcases List.mem_cons.1 hz with rfl | hz
        · exact e1
        · exact cmp_lt_trans e1 (up_head h hz)) hc
    · rw [if_neg e1]
      by_cases e2 : cmpRow r y.1 = 0
      · rw [if_pos e2]; split <;> simp
      · rw [if_neg e2]
        rw [cnt, if_neg (fun e => e2 ((anti0 _ _).2.1 e))] at hc
        have := ih (up_tail h) hc
        simp only [List.length_cons]; omega
theorem add_valid {l : List It} {n k : Int} {r : List Val} (hv : validBag l = true) : validBag (addVal n l r k) = true := by
  unfold addVal
  split
  · rename_i e
    obtain ⟨hl4, hok, hup⟩ := validBag_iff.1 hv
    unfold addErr at e
    by_cases h1 : fitsR n r = false
    · rw [if_pos h1] at e; omega
    rw [if_neg h1] at e
    by_cases h2 : k = 0 ∨ far k = true
    · rw [if_pos h2] at e; omega
    rw [if_neg h2] at e
    by_cases h3 : far (cnt l r + k) = true
    · rw [if_pos h3] at e; omega
    rw [if_neg h3] at e
    by_cases h4 : cnt l r = 0 ∧ l.length = 400
    · rw [if_pos h4] at e; omega
    have hvr : validRow r = true := by unfold fitsR at h1; cases q : validRow r with | true => rfl | false => rw [q] at h1; exact absurd rfl h1
    have hf := far_iff.1 (by simpa using h3)
    have hA := put_asc (n := k) (asc_of_valid hv) hvr
    have hcn : ∀ x ∈ put l r k, inN x.2 := fun x hx => by
      have hx2 := (hA.1 x hx).2
      have hcx := cnt_mem hA.2 hx (r := x.1) (cmpRow_ok.refl _)
      rw [put_cnt hup] at hcx
      by_cases e1 : cmpRow r x.1 = 0
      · rw [if_pos e1] at hcx
        have : x.1 = r := row_eq (hA.1 x hx).1 hvr ((anti0 _ _).2.1 e1)
        rw [this] at hcx
        exact ⟨hx2, by omega, by omega⟩
      · rw [if_neg e1, Int.add_zero] at hcx
        have hne : cnt l x.1 ≠ 0 := by omega
        obtain ⟨y, hy, ey⟩ := cnt_some hne
        have := cnt_mem hup hy ey
        have hy2 := (itOK_iff.1 (hok y hy)).2
        unfold inN at hy2 ⊢
        omega
    refine validBag_iff.2 ⟨?_, fun x hx => itOK_iff.2 ⟨(hA.1 x hx).1, hcn x hx⟩, hA.2⟩
    by_cases h0 : cnt l r = 0
    · have := putG_len l r k
      have : ¬ l.length = 400 := fun e => h4 ⟨h0, e⟩
      omega
    · exact Nat.le_trans (putG_len2 hup h0) hl4
  · exact hv
end Go.Proofs.YtfoknllnknjccaaGreat
