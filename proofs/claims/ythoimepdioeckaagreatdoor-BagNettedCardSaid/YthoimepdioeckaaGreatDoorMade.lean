/-
  Made and Changes of the document, as contracts.
-/
import Derived.Test.YthoimepdioeckaaGreatDoorRefApply
import Derived.Deep.RegionHeld3
import Derived.Deep.AppendLies
namespace Go.Proofs.YthoimepdioeckaaGreatDoor
open Go.RowKit

/-- Changes on a row of the call's own, whose rows are the call's own too. -/
def OwnChgs (W : World) (B : Nat) (v : Value) (os : List ChR) : Prop :=
  W.ownsRow B 40 3 v os.length (flatC os) ∧ ∀ r ∈ os, OwnsV W B (rowv r.2.1) r.2.1.2.1
theorem OwnChgs.nil (W : World) (B : Nat) : OwnChgs W B (.slice none 0 0) [] := ⟨World.ownsRow_nil _ _ _ _, by simp⟩
theorem OwnChgs.below {W W' : World} {B : Nat} {v : Value} {os : List ChR} (h : OwnChgs W B v os) (hb : Below W.heap.size W W') : OwnChgs W' B v os := ⟨owns_below h.1 hb, fun r hr => owns_below (h.2 r hr) hb⟩
theorem own_apartC {W : World} {B n m : Nat} {v u : Value} {L M : List Value} (h : W.ownsRow B 40 3 v n L) (k : W.ownsRow B 62 3 u m M) : u.ownBlock = none ∨ u.ownBlock ≠ v.ownBlock := by
  rcases k.2 with ⟨rfl, _⟩ | ⟨g, cap, cur, rfl, _, hg, _⟩
  · exact .inl rfl
  · refine .inr fun e => ?_
    rcases h.2 with ⟨rfl, _⟩ | ⟨g2, cap2, cur2, rfl, _, hg2, _⟩
    · simp [Value.ownBlock] at e
    · simp only [Value.ownBlock, Option.some.injEq] at e
      subst e
      rw [hg] at hg2
      simp at hg2
theorem OwnChgs.appended {W w5 : World} {B : Nat} {v v' : Value} {os : List ChR} {x : ChR} {tmp : Obj} (h : OwnChgs W B v os) (hx : OwnsV W B (rowv x.2.1) x.2.1.2.1)
    (hown' : w5.ownsRow B 40 3 v' (os.length + 1) (flatC os ++ cellsC x)) (hg : (W.alloc tmp).grownBy w5 v.ownBlock) : OwnChgs w5 B v' (os ++ [x]) := by
  refine ⟨by rw [List.length_append, flatC_app]; simpa [flatC] using hown', fun r hr => ?_⟩
  have key : ∀ r : ChR, OwnsV W B (rowv r.2.1) r.2.1.2.1 → OwnsV w5 B (rowv r.2.1) r.2.1.2.1 := fun r hr => (hr.alloc tmp).kept hg (own_apartC h.1 hr)
  rcases List.mem_append.1 hr with hr | hr
  · exact key r (h.2 r hr)
  · rw [List.mem_singleton] at hr
    subst hr
    exact key r hx
theorem slice_of_ownC {W : World} {B n : Nat} {v : Value} {L : List Value} (h : W.ownsRow B 40 3 v n L) : ∃ p cap, v = .slice p n cap ∧ n ≤ cap ∧ (p = none → cap = 0) ∧ ∀ ad, p = some ad → ∃ g, ad = ⟨g, 0, none⟩ := by
  rcases h.2 with ⟨rfl, rfl⟩ | ⟨g, cap, cur, rfl, _, _, hnc, _⟩
  · exact ⟨none, 0, rfl, Nat.le_refl _, fun _ => rfl, fun ad e => by cases e⟩
  · exact ⟨_, cap, rfl, hnc, (fun e => by cases e), fun ad e => by cases e; exact ⟨g, rfl⟩⟩
theorem OwnChgs.chg {W : World} {B cap : Nat} {p : Option Addr} {os : List ChR} (h : OwnChgs W B (.slice p os.length cap) os) (hl : ∀ r ∈ os, r.2.1.2.1.length ≤ 9223372036854775807) : ChgIn W p os := fun hp => by
  obtain ⟨p2, cap2, e, _, _, hg⟩ := slice_of_ownC h.1
  simp only [Value.slice.injEq, true_and] at e
  obtain ⟨rfl, rfl⟩ := e
  cases p with
  | none =>
    rcases h.1.2 with ⟨_, h0⟩ | ⟨g, cap, cur, e, _⟩
    · omega
    · simp at e
  | some ad =>
    obtain ⟨g, rfl⟩ := hg ad rfl
    exact chg_of_own rfl h.1 (fun c hc => rowOK_of_owns (h.2 c hc) (hl c hc)) hp

def MadePost (w : World) (l : List Ch) (e : Ending) (w' : World) : Prop :=
  ∃ (p : Option Addr) (cs : List ChR) (cap : Nat), e = .returned (.slice p cs.length cap) ∧ cvals cs = l ∧ cs.length ≤ cap ∧ cs.length ≤ 1000000 ∧ ChgIn w' p cs ∧ Below w.heap.size w w'
theorem stamp_next {t : Int} {l : List It} {i : Nat} (h : i < l.length) : stamp t (l.take (i + 1)) = stamp t (l.take i) ++ [(t, (l[i]?.getD it0).1, (l[i]?.getD it0).2)] := by
  rw [List.take_succ_eq_append_getElem h, List.getElem?_eq_getElem h]; unfold stamp; rw [List.map_append]; rfl

set_option maxRecDepth 100000 in
set_option maxHeartbeats 8000000 in
theorem Made_any (p : Option Addr) (rs : List ItR) (cap : Nat) (t : Int) (hm : rs.length ≤ 100000) (hlx : ∀ r ∈ rs, r.1.2.1.length ≤ 100000) (w : World) (hX : ItemsIn w p rs) :
    Calls Tryz.prog 46 #[.slice p rs.length cap, .int .i64 t] w (MadePost w (stamp t (vals rs))) := by
  obtain ⟨i0, hii, hz0, hz1, hz2⟩ := info_parts infoC
  have HX := Lib.hid hX
  have HLX := Lib.hid hlx
  clear hX hlx
  go_enter Tryz.func46, Tryz.ntmps46
  go_wp2_with fail
  go_loopw [5, 6] (fun o s wr => ∃ (i : Nat) (os : List ChR), s = .int .i64 i ∧ i ≤ rs.length ∧ OwnChgs wr w.heap.size o os ∧ Hid (cvals os = stamp t ((vals rs).take i)) ∧ os.length ≤ i ∧ Hid (∀ r ∈ os, r.2.1.2.1.length ≤ 100000) ∧ Below w.heap.size w wr)
    (fun _ s _ => rs.length - (intOf s).toNat)
  case atStart => exact ⟨0, [], rfl, Nat.zero_le _, OwnChgs.nil _ _, (by show _ = _; simp [cvals, stamp]), (by simp), (by simp [Hid]), Below.refl _ _⟩
  case round =>
    obtain ⟨i, os, rfl, hi, hos, hput, hosl, hlen, hB⟩ := hrel
    have HOW := Lib.hid hos
    have HBW := Lib.hid hB
    have hBs := hB.size
    by_cases hlt : i < rs.length
    · obtain ⟨b, off, rfl, hbl, hra⟩ := HX.out (by omega)
      obtain ⟨c0, c1, c2, c3⟩ := hra i hlt
      have hi0 : (0 : Int) ≤ (i : Int) := by omega
      have hi1 : (i : Int) < (rs.length : Int) := by omega
      have hmem : rs[i]?.getD ir0 ∈ rs := by rw [List.getElem?_eq_getElem hlt]; exact List.getElem_mem hlt
      have hxl := HLX.out _ hmem
      have hnx := stamp_next (t := t) (show i < (vals rs).length by rw [vals_len]; exact hlt)
      rw [vals_get, ← hput.out] at hnx
      clear hra hmem
      generalize (rs[i]?.getD ir0) = x at *
      obtain ⟨⟨xq, xs, xc⟩, xn⟩ := x
      dsimp only [rowv, itv] at c0 c1 c2 c3 hxl hnx
      have HNX := Lib.hid hnx
      have HOX := Lib.hid fun W (h : Below w.heap.size w W) => Own_any xq xs xc hxl W (c2.belowV h).2 c3
      have HS := Lib.hid (show ∀ w' : World, Below w.heap.size w w' → (Below w.heap.size w w' ∧ w'.cell? ⟨b, off + i * 2, none⟩ = some (.slice xq xs.length xc) ∧ w'.cell? ⟨b, off + i * 2 + 1, none⟩ = some (.int .i64 xn)) from fun w' hb => ⟨hb, (hb.cell (p := ⟨b, off + i * 2, none⟩) hbl).trans c0, (hb.cell (p := ⟨b, off + i * 2 + 1, none⟩) hbl).trans c1⟩)
      have d0 := (hB.cell (p := ⟨b, off + i * 2, none⟩) hbl).trans c0
      have d1 := (hB.cell (p := ⟨b, off + i * 2 + 1, none⟩) hbl).trans c1
      clear c0 c1 c2 c3 hnx hput hos
      go_wp2_with fail
      refine wp_region_held_drew (S := fun w' : World => Below w.heap.size w w' ∧ w'.cell? ⟨b, off + i * 2, none⟩ = some (.slice xq xs.length xc) ∧ w'.cell? ⟨b, off + i * 2 + 1, none⟩ = some (.int .i64 xn)) (by kernel_rfl) (HS.out _ HBW.out.drew) (fun hHeld => ?_)
      have hOW := HOW.out.below ((Below.refl _ _).drew)
      refine wpAnyH_take (i := 0) (oi := _) (v := ?_) rfl (by kernel_rfl) (by kernel_rfl) (by kernel_rfl) (fun _ _ _ h => h) (Or.inl ⟨by rfl, ?_⟩) (by assumption) ?_
      rotate_left
      · intro w hSw
        try dsimp only at hSw
        go_simp
        all_goals with_reducible rfl
      simp only [List.getElem_toArray, List.getElem_cons_succ, List.getElem_cons_zero, Act.put, List.setIfInBounds_toArray, List.set_cons_zero, List.set_cons_succ]
      refine wpAnyH_take (i := 1) (oi := _) (v := ?_) rfl (by kernel_rfl) (by kernel_rfl) (by kernel_rfl) (fun _ _ _ h => h) (Or.inl ⟨by rfl, ?_⟩) (by assumption) ?_
      rotate_left
      · intro w hSw
        try dsimp only at hSw
        go_simp
        all_goals with_reducible rfl
      simp only [List.getElem_toArray, List.getElem_cons_succ, List.getElem_cons_zero, Act.put, List.setIfInBounds_toArray, List.set_cons_zero, List.set_cons_succ]
      refine wpAnyH_take (i := 2) (oi := _) (v := ?_) rfl (by kernel_rfl) (by kernel_rfl) (by kernel_rfl) (fun _ _ _ h => h) (Or.inl ⟨by rfl, ?_⟩) (by assumption) ?_
      rotate_left
      · intro w hSw
        try dsimp only at hSw
        go_simp
        all_goals with_reducible rfl
      simp only [List.getElem_toArray, List.getElem_cons_succ, List.getElem_cons_zero, Act.put, List.setIfInBounds_toArray, List.set_cons_zero, List.set_cons_succ]
      refine wpAnyH_take (i := 3) (oi := _) (v := ?_) rfl (by kernel_rfl) (by kernel_rfl) (by kernel_rfl) (fun _ _ _ h => h) (Or.inl ⟨by rfl, ?_⟩) (by assumption) ?_
      rotate_left
      · intro w hSw
        try dsimp only at hSw
        go_simp
        all_goals with_reducible rfl
      simp only [List.getElem_toArray, List.getElem_cons_succ, List.getElem_cons_zero, Act.put, List.setIfInBounds_toArray, List.set_cons_zero, List.set_cons_succ]
      refine wpAnyH_take (i := 4) (oi := _) (v := ?_) rfl (by kernel_rfl) (by kernel_rfl) (by kernel_rfl) (fun _ _ _ h => h) (Or.inl ⟨by rfl, ?_⟩) (by assumption) ?_
      rotate_left
      · intro w hSw
        try dsimp only at hSw
        go_simp
        all_goals with_reducible rfl
      simp only [List.getElem_toArray, List.getElem_cons_succ, List.getElem_cons_zero, Act.put, List.setIfInBounds_toArray, List.set_cons_zero, List.set_cons_succ]
      refine wpAnyH_take (i := 5) (oi := _) (v := ?_) rfl (by kernel_rfl) (by kernel_rfl) (by kernel_rfl) (fun _ _ _ h => h) (Or.inl ⟨by rfl, ?_⟩) (by assumption) ?_
      rotate_left
      · intro w hSw
        try dsimp only at hSw
        go_simp
        all_goals with_reducible rfl
      simp only [List.getElem_toArray, List.getElem_cons_succ, List.getElem_cons_zero, Act.put, List.setIfInBounds_toArray, List.set_cons_zero, List.set_cons_succ]
      refine wpAnyH_take (i := 6) (oi := _) (v := ?_) rfl (by kernel_rfl) (by kernel_rfl) (by kernel_rfl) (fun _ _ _ h => h) (Or.inl ⟨by rfl, ?_⟩) (by assumption) ?_
      rotate_left
      · intro w hSw
        try dsimp only at hSw
        go_simp
        all_goals with_reducible rfl
      simp only [List.getElem_toArray, List.getElem_cons_succ, List.getElem_cons_zero, Act.put, List.setIfInBounds_toArray, List.set_cons_zero, List.set_cons_succ]
      refine wpAnyH_take (i := 8) (oi := _) (v := ?_) rfl (by kernel_rfl) (by kernel_rfl) (by kernel_rfl) (fun _ _ _ h => h) (Or.inl ⟨by rfl, ?_⟩) (by assumption) ?_
      rotate_left
      · intro w hSw
        try dsimp only at hSw
        go_simp
        all_goals with_reducible rfl
      simp only [List.getElem_toArray, List.getElem_cons_succ, List.getElem_cons_zero, Act.put, List.setIfInBounds_toArray, List.set_cons_zero, List.set_cons_succ]
      refine wpAnyH_take (i := 9) (oi := _) (v := ?_) rfl (by kernel_rfl) (by kernel_rfl) (by kernel_rfl) (fun _ _ _ h => h) (Or.inl ⟨by rfl, ?_⟩) (by assumption) ?_
      rotate_left
      · intro w hSw
        try dsimp only at hSw
        go_simp
        all_goals with_reducible rfl
      simp only [List.getElem_toArray, List.getElem_cons_succ, List.getElem_cons_zero, Act.put, List.setIfInBounds_toArray, List.set_cons_zero, List.set_cons_succ]
      refine wpAnyH_take (i := 10) (oi := _) (v := ?_) rfl (by kernel_rfl) (by kernel_rfl) (by kernel_rfl) (fun _ _ _ h => h) (Or.inl ⟨by rfl, ?_⟩) (by assumption) ?_
      rotate_left
      · intro w hSw
        try dsimp only at hSw
        go_simp
        all_goals with_reducible rfl
      simp only [List.getElem_toArray, List.getElem_cons_succ, List.getElem_cons_zero, Act.put, List.setIfInBounds_toArray, List.set_cons_zero, List.set_cons_succ]
      refine wpAnyH_take (i := 11) (oi := _) (v := ?_) rfl (by kernel_rfl) (by kernel_rfl) (by kernel_rfl) (fun _ _ _ h => h) (Or.inl ⟨by rfl, ?_⟩) (by assumption) ?_
      rotate_left
      · intro w hSw
        try dsimp only at hSw
        go_simp
        all_goals with_reducible rfl
      simp only [List.getElem_toArray, List.getElem_cons_succ, List.getElem_cons_zero, Act.put, List.setIfInBounds_toArray, List.set_cons_zero, List.set_cons_succ]
      refine wpAnyH_take (i := 12) (oi := _) (v := ?_) rfl (by kernel_rfl) (by kernel_rfl) (by kernel_rfl) (fun _ _ _ h => h) (Or.inl ⟨by rfl, ?_⟩) (by assumption) ?_
      rotate_left
      · intro w hSw
        try dsimp only at hSw
        go_simp
        all_goals with_reducible rfl
      simp only [List.getElem_toArray, List.getElem_cons_succ, List.getElem_cons_zero, Act.put, List.setIfInBounds_toArray, List.set_cons_zero, List.set_cons_succ]
      refine wpAnyH_ready (rs := [7]) (by kernel_rfl) (by simp) ?_
      refine AllReadyH.cons (o := _) rfl (fun K hK => ?_) AllReadyH.nil
      go_simp
      refine (HOX.out _ hHeld.1).mono ?_
      rintro e u1 ⟨⟨rq, rx, rc⟩, rfl, hrx, hown1, kb1⟩
      dsimp only [rowv] at hrx hown1 ⊢
      have hrx := hrx.symm
      subst hrx
      have hU1 : Below w.heap.size w u1 := hHeld.1.trans (kb1.mono hHeld.1.size)
      have hO1 := hOW.below kb1
      have hW1 := ownsRow_base hown1 hHeld.1.size
      refine hK.out _ _ (HS.out _ hU1) (fun hHeld1 => ?_)
      clear kb1 hown1 hHeld
      clear hK K
      try simp only [List.getElem_toArray, List.getElem_cons_succ, List.getElem_cons_zero, Act.put, List.setIfInBounds_toArray, List.set_cons_zero, List.set_cons_succ]
      refine wpAnyH_take (i := 13) (oi := _) (v := ?_) rfl (by kernel_rfl) (by kernel_rfl) (by kernel_rfl) (fun _ _ _ h => h) (Or.inl ⟨by rfl, ?_⟩) (by assumption) ?_
      rotate_left
      · intro w hSw
        try dsimp only at hSw
        go_simp
        all_goals with_reducible rfl
      simp only [List.getElem_toArray, List.getElem_cons_succ, List.getElem_cons_zero, Act.put, List.setIfInBounds_toArray, List.set_cons_zero, List.set_cons_succ]
      refine wpAnyH_ready (rs := [14]) (by kernel_rfl) (by simp) ?_
      refine AllReadyH.cons (o := _) rfl (fun K hK => ?_) AllReadyH.nil
      go_simp
      refine hK.out _ _ (HS.out _ (hU1.alloc hU1.size _)) (fun hHeld2 => ?_)
      clear hHeld1
      clear hK K
      try simp only [List.getElem_toArray, List.getElem_cons_succ, List.getElem_cons_zero, Act.put, List.setIfInBounds_toArray, List.set_cons_zero, List.set_cons_succ]
      refine wpAnyH_ready (rs := [15]) (by kernel_rfl) (by simp) ?_
      refine AllReadyH.cons (o := _) rfl (fun K hK => ?_) AllReadyH.nil
      refine step_append_lies _ rfl _ _ 24 rfl w.heap.size 40 i0 (.agg #[.int .i64 0, .slice none 0 0, .int .i64 0]) 3 40 Tryz.underlying24 hii hz0 hz1 hz2 rfl (by decide) _ _ _ rfl (hO1.1.alloc _) ⟨u1.heap.size, 0, none⟩ 1 1 (cellsC (t, (rq, xs, rc), xn)) rfl rfl (cells_new _ _ _) (by simp [cellsC, rowv, Value.oneCell']) (by decide) (by unfold maxLen; omega) (by omega) (by have := hU1.size; simp; omega) (u1.heap.size + 1) (by simp) ?_
      intro g' cap' w5 hown' hgrow hor hlt5
      have hO5 := hO1.appended (x := (t, (rq, xs, rc), xn)) hW1 hown' hgrow
      have hB5 : Below w.heap.size w w5 := (hU1.alloc hU1.size _).grown hgrow (by have := hU1.size; simp; omega) (fun k e => (hO1.1.lt k e).1)
      refine hK.out _ _ (HS.out _ hB5) (fun hHeld3 => ?_)
      clear hK K hown' hgrow hor hlt5 hHeld2 hO1 hW1 hU1
      try simp only [List.getElem_toArray, List.getElem_cons_succ, List.getElem_cons_zero, Act.put, List.setIfInBounds_toArray, List.set_cons_zero, List.set_cons_succ]
      refine wpAnyH_take (i := 16) (oi := _) (v := ?_) rfl (by kernel_rfl) (by kernel_rfl) (by kernel_rfl) (fun _ _ _ h => h) (Or.inl ⟨by rfl, ?_⟩) (by assumption) ?_
      rotate_left
      · intro w hSw
        try dsimp only at hSw
        go_simp
        all_goals with_reducible rfl
      simp only [List.getElem_toArray, List.getElem_cons_succ, List.getElem_cons_zero, Act.put, List.setIfInBounds_toArray, List.set_cons_zero, List.set_cons_succ]
      refine wpAnyH_done (by kernel_rfl) ?_ _
      have HV2 := Lib.hid (show cvals (os ++ [(t, (rq, xs, rc), xn)]) = stamp t ((vals rs).take (i + 1)) by rw [HNX.out]; unfold cvals; rw [List.map_append]; rfl)
      have HL2 : Hid (∀ r ∈ os ++ [(t, (rq, xs, rc), xn)], r.2.1.2.1.length ≤ 100000) := (by intro r hr; rcases List.mem_append.1 hr with hr | hr; exact hlen.out r hr; rw [List.mem_singleton] at hr; subst hr; exact hxl)
      go_wp2_with fail
      go_roundw
      case rel => exact ⟨i + 1, os ++ [(t, (rq, xs, rc), xn)], by go_num, by omega, hO5, HV2.out, (by simp <;> omega), HL2, hB5⟩
      case measure => simp [intOf]; omega
    · have hge : (rs.length : Int) ≤ (i : Int) := by omega
      have hie : i = rs.length := by omega
      have HF := Lib.hid (show cvals os = stamp t (vals rs) by have := hput.out; rwa [hie, ← vals_len rs, List.take_length] at this)
      obtain ⟨p2, cap2, rfl, hc2, _, _⟩ := slice_of_ownC hos.1
      have HC := Lib.hid (hos.chg fun r hr => by have := hlen.out r hr; omega)
      clear hie hput hos
      go_wp2_with fail
      go_ret
      exact ⟨p2, os, cap2, rfl, HF.out, hc2, by omega, HC.out, hB⟩
#print axioms Made_any
end Go.Proofs.YthoimepdioeckaaGreatDoor
