/-
  Plain facts on the rows of two bags, on what is put in row by row, and on bounds.
-/
import Derived.Test.YtcpbdbhpflgkcaaBagMath
namespace Go.Proofs.Ytcpbdbhpflgkcaa

def rows2 (a b : List It) : List (List Val) := a.map (·.1) ++ (b.filter fun y => cnt a y.1 == 0).map (·.1)
theorem cnt_congr {l : List It} {r q : List Val} (h : cmpRow r q = 0) : cnt l r = cnt l q := by
  induction l with
  | nil => rfl
  | cons x l ih => rw [cnt, cnt, ih, cmpRow_ok.right h x.1]
theorem cnt_mem {l : List It} (h : Up l) {x : It} (hx : x ∈ l) {r : List Val} (e : cmpRow x.1 r = 0) : cnt l r = x.2 := by
  induction l with
  | nil => cases hx
  | cons y l ih =>
    rw [cnt]
    rcases List.mem_cons.1 hx with rfl | hx
    · rw [if_pos e]
    · have h1 := up_head h hx
      have h2 := cmp_lt_eq h1 e
      rw [if_neg (by omega), ih (up_tail h) hx]
def puts (f : Int → Int → Int) (a b : List It) (rl : List (List Val)) : List It := rl.foldl (fun o r => put o r (f (cnt a r) (cnt b r))) []
theorem puts_snoc (f : Int → Int → Int) (a b : List It) (rl : List (List Val)) (r : List Val) : puts f a b (rl ++ [r]) = put (puts f a b rl) r (f (cnt a r) (cnt b r)) := by
  unfold puts; rw [List.foldl_append]; rfl
theorem puts_next {f : Int → Int → Int} {a b : List It} {rl : List (List Val)} {i : Nat} (h : i < rl.length) : puts f a b (rl.take (i + 1)) = put (puts f a b (rl.take i)) (rl[i]?.getD []) (f (cnt a (rl[i]?.getD [])) (cnt b (rl[i]?.getD []))) := by
  rw [List.take_succ_eq_append_getElem h, puts_snoc, List.getElem?_eq_getElem h]; rfl
theorem puts_asc {f : Int → Int → Int} {a b : List It} : ∀ {rl : List (List Val)}, (∀ r ∈ rl, validRow r = true) → Asc (puts f a b rl) := by
  intro rl
  unfold puts
  suffices ∀ (rl : List (List Val)) (o : List It), Asc o → (∀ r ∈ rl, validRow r = true) → Asc (rl.foldl (fun o r => put o r (f (cnt a r) (cnt b r))) o) from fun h => this rl [] nil_asc h
  intro rl
  induction rl with
  | nil => intro o ho _; exact ho
  | cons r rl ih => intro o ho h; exact ih _ (put_asc ho (h r (by simp))) fun q hq => h q (by simp [hq])
theorem puts_cnt {f : Int → Int → Int} {a b : List It} : ∀ (rl : List (List Val)) (o : List It), Up o → rl.Pairwise (fun r s => cmpRow r s ≠ 0) → (∀ q, (∃ r ∈ rl, cmpRow r q = 0) → cnt o q = 0) → ∀ q, cnt (rl.foldl (fun o r => put o r (f (cnt a r) (cnt b r))) o) q = cnt o q + if ∃ r ∈ rl, cmpRow r q = 0 then f (cnt a q) (cnt b q) else 0 := by
  intro rl
  induction rl with
  | nil => intro o _ _ _ q; simp
  | cons r rl ih =>
    intro o ho hp hz q
    have hp2 := List.pairwise_cons.1 hp
    rw [List.foldl_cons, ih _ (put_up ho) hp2.2 ?_ q, put_cnt ho]
    · by_cases e : cmpRow r q = 0
      · have hn : ¬ ∃ s ∈ rl, cmpRow s q = 0 := fun ⟨s, hs, e2⟩ => hp2.1 s hs (by
          have h1 := cmpRow_ok.right e2 r
          omega)
        rw [if_pos e, if_neg hn, if_pos ⟨r, by simp, e⟩, cnt_congr e, cnt_congr e]; omega
      · rw [if_neg e]
        have : (∃ s ∈ r :: rl, cmpRow s q = 0) ↔ ∃ s ∈ rl, cmpRow s q = 0 := by
          constructor
          · rintro ⟨s, hs, e2⟩
            rcases List.mem_cons.1 hs with rfl | hs
            · exact absurd e2 e
            · exact ⟨s, hs, e2⟩
          · rintro ⟨s, hs, e2⟩; exact ⟨s, by simp [hs], e2⟩
        simp only [this]; omega
    · rintro q' ⟨s, hs, e2⟩
      rw [put_cnt ho]
      have h1 : ¬ cmpRow r q' = 0 := fun e => hp2.1 s hs (by
        have h1 := cmpRow_ok.right e2 r
        omega)
      rw [if_neg h1, hz q' ⟨s, by simp [hs], e2⟩]; rfl
theorem rows2_apart {a b : List It} (ha : Asc a) (hb : Asc b) : (rows2 a b).Pairwise (fun r s => cmpRow r s ≠ 0) := by
  unfold rows2
  rw [List.pairwise_append]
  refine ⟨?_, ?_, ?_⟩
  · rw [List.pairwise_map]
    exact ha.2.imp fun {x y} h => by unfold ltI at h; omega
  · rw [List.pairwise_map]
    exact (List.Pairwise.sublist List.filter_sublist hb.2).imp fun {x y} h => by unfold ltI at h; omega
  · intro r hr s hs e
    obtain ⟨x, hx, rfl⟩ := List.mem_map.1 hr
    obtain ⟨y, hy, rfl⟩ := List.mem_map.1 hs
    have h0 := (List.mem_filter.1 hy).2
    rw [cnt_mem ha.2 hx e, beq_iff_eq] at h0
    exact (ha.1 x hx).2 h0
theorem rows2_cover {a b : List It} {q : List Val} (h : cnt a q ≠ 0 ∨ cnt b q ≠ 0) : ∃ r ∈ rows2 a b, cmpRow r q = 0 := by
  unfold rows2
  by_cases ha : cnt a q = 0
  · obtain ⟨y, hy, e⟩ := cnt_some (h.resolve_left (fun h => h ha))
    exact ⟨y.1, List.mem_append.2 (.inr (List.mem_map.2 ⟨y, List.mem_filter.2 ⟨hy, by rw [beq_iff_eq, cnt_congr e]; exact ha⟩, rfl⟩)), e⟩
  · obtain ⟨x, hx, e⟩ := cnt_some ha
    exact ⟨x.1, List.mem_append.2 (.inl (List.mem_map.2 ⟨x, hx, rfl⟩)), e⟩
theorem rows2_valid {a b : List It} (ha : Asc a) (hb : Asc b) : ∀ r ∈ rows2 a b, validRow r = true := fun r hr => by
  rcases List.mem_append.1 hr with hr | hr
  · obtain ⟨x, hx, rfl⟩ := List.mem_map.1 hr
    exact (ha.1 x hx).1
  · obtain ⟨y, hy, rfl⟩ := List.mem_map.1 hr
    exact (hb.1 y (List.mem_filter.1 hy).1).1
theorem puts_comb {f : Int → Int → Int} (f0 : f 0 0 = 0) {a b : List It} (ha : Asc a) (hb : Asc b) : puts f a b (rows2 a b) = comb f a b :=
  bag_ext (puts_asc (rows2_valid ha hb)) (comb_asc _ ha hb) fun q => by
    rw [comb_cnt f0 ha hb]
    unfold puts
    rw [puts_cnt _ _ .nil (rows2_apart ha hb) (fun _ _ => rfl)]
    by_cases h : ∃ r ∈ rows2 a b, cmpRow r q = 0
    · rw [if_pos h]; simp [cnt]
    · rw [if_neg h]
      have h1 : cnt a q = 0 := Classical.byContradiction fun e => h (rows2_cover (.inl e))
      have h2 : cnt b q = 0 := Classical.byContradiction fun e => h (rows2_cover (.inr e))
      rw [h1, h2, f0]; rfl

/-- No row comes more often in a than in b: asked of pairs, and of rows. -/
def wB (a b : List It) : Bool := (pairsL a b).all fun p => decide (p.2.1 ≤ p.2.2)
def wR (a b : List It) : Bool := (rows2 a b).all fun r => decide (cnt a r ≤ cnt b r)
theorem wB_iff {a b : List It} (ha : Up a) (hb : Up b) : wB a b = true ↔ ∀ q, cnt a q ≤ cnt b q := by
  have key := pairs_cnt (f := fun x y => if x ≤ y then 0 else 1) (by simp) a b ha hb
  have hup : Up ((pairsL a b).map (become fun x y => if x ≤ y then 0 else 1)) := mapped_up _ ha hb
  unfold wB
  rw [List.all_eq_true]
  constructor
  · intro h q
    have hz : cnt ((pairsL a b).map (become fun x y => if x ≤ y then 0 else 1)) q = 0 := by
      refine Classical.byContradiction fun e => ?_
      obtain ⟨x, hx, e2⟩ := cnt_some e
      obtain ⟨p, hp, rfl⟩ := List.mem_map.1 hx
      rw [cnt_mem hup hx e2] at e
      have := h p hp
      rw [decide_eq_true_eq] at this
      simp [become, this] at e
    rw [key] at hz
    by_cases e : cnt a q ≤ cnt b q
    · exact e
    · simp [e] at hz
  · intro h p hp
    rw [decide_eq_true_eq]
    have hx : become (fun x y => if x ≤ y then 0 else 1) p ∈ (pairsL a b).map (become fun x y => if x ≤ y then 0 else 1) := List.mem_map_of_mem hp
    have h1 := cnt_mem hup hx (r := p.1) (cmpRow_ok.refl _)
    rw [key, if_pos (h p.1)] at h1
    by_cases e : p.2.1 ≤ p.2.2
    · exact e
    · simp [become, e] at h1
theorem wR_iff {a b : List It} : wR a b = true ↔ ∀ q, cnt a q ≤ cnt b q := by
  unfold wR
  rw [List.all_eq_true]
  constructor
  · intro h q
    by_cases hq : cnt a q ≠ 0 ∨ cnt b q ≠ 0
    · obtain ⟨r, hr, e⟩ := rows2_cover hq
      have := h r hr
      rw [decide_eq_true_eq, cnt_congr e, cnt_congr e] at this
      exact this
    · have h1 : cnt a q = 0 := Classical.byContradiction fun e => hq (.inl e)
      have h2 : cnt b q = 0 := Classical.byContradiction fun e => hq (.inr e)
      omega
  · intro h r _
    rw [decide_eq_true_eq]; exact h r
theorem w_same {a b : List It} (ha : Up a) (hb : Up b) : wB a b = wR a b := by rw [Bool.eq_iff_iff, wB_iff ha hb, wR_iff]
def withinOf (a b : List It) : Bool := validBag a && (validBag b && wB a b)

/-- Each row that is there more than 0 times, once. -/
def dist (l : List It) : List It := (l.filter fun x => decide (0 < x.2)).map fun x => (x.1, 1)
theorem dist_next {l : List It} {i : Nat} (h : i < l.length) : dist (l.take (i + 1)) = dist (l.take i) ++ if 0 < (l[i]?.getD it0).2 then [((l[i]?.getD it0).1, 1)] else [] := by
  rw [List.take_succ_eq_append_getElem h, List.getElem?_eq_getElem h]
  unfold dist
  rw [List.filter_append, List.map_append]
  by_cases e : 0 < (l[i]).2 <;> simp [e]
theorem dist_up {l : List It} (h : Up l) : Up (dist l) := by
  unfold Up dist
  rw [List.pairwise_map]
  exact List.Pairwise.sublist List.filter_sublist h
theorem dist_cnt {l : List It} (h : Up l) (q : List Val) : cnt (dist l) q = if 0 < cnt l q then 1 else 0 := by
  induction l with
  | nil => simp [dist, cnt]
  | cons x l ih =>
    have ih' := ih (up_tail h)
    unfold dist at ih' ⊢
    rw [List.filter_cons, cnt]
    by_cases e : 0 < x.2
    · rw [if_pos (by simpa using e), List.map_cons, cnt, ih']
      by_cases e2 : cmpRow x.1 q = 0
      · rw [if_pos e2, if_pos e2, if_pos e]
      · rw [if_neg e2, if_neg e2]
    · rw [if_neg (by simpa using e), ih']
      by_cases e2 : cmpRow x.1 q = 0
      · rw [if_pos e2, cnt_head h e2, if_neg (by omega), if_neg e]
      · rw [if_neg e2]
theorem dist_valid {l : List It} (h : validBag l = true) : validBag (dist l) = true := by
  obtain ⟨h1, h2, h3⟩ := validBag_iff.1 h
  refine validBag_iff.2 ⟨?_, fun x hx => ?_, dist_up h3⟩
  · unfold dist
    rw [List.length_map]
    exact Nat.le_trans (List.length_filter_le _ _) h1
  · obtain ⟨y, hy, rfl⟩ := List.mem_map.1 hx
    exact itOK_iff.2 ⟨(itOK_iff.1 (h2 y (List.mem_filter.1 hy).1)).1, (by show (1 : Int) ≠ 0; decide), (by show (-1000000 : Int) ≤ 1; decide), (by show (1 : Int) ≤ 1000000; decide)⟩
end Go.Proofs.Ytcpbdbhpflgkcaa
