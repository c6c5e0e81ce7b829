/-
  Netted of the document; FewChanges; as contracts.
-/
import Derived.Test.YthoimepdioeckaaGreatDoorMade
import Derived.Test.YthoimepdioeckaaGreatDoorNetA
import Derived.Test.YthoimepdioeckaaGreatDoorFewC
/-!
  Made of the document, with what it owns, as a contract.
-/
namespace Go.Proofs.YthoimepdioeckaaGreatDoor
open Go.RowKit

def MadeOwn (w : World) (l : List Ch) (e : Ending) (w' : World) : Prop :=
  ∃ (p : Option Addr) (cs : List ChR) (cap : Nat), e = .returned (.slice p cs.length cap) ∧ cvals cs = l ∧ cs.length ≤ cap ∧ cs.length ≤ 1000000 ∧ OwnChgs w' w.heap.size (.slice p cs.length cap) cs ∧ (∀ r ∈ cs, r.2.1.2.1.length ≤ 100000) ∧ Below w.heap.size w w'

set_option maxRecDepth 100000 in
set_option maxHeartbeats 8000000 in
theorem MadeO_any (p : Option Addr) (rs : List ItR) (cap : Nat) (t : Int) (hm : rs.length ≤ 100000) (hlx : ∀ r ∈ rs, r.1.2.1.length ≤ 100000) (w : World) (hX : ItemsIn w p rs) :
    Calls Tryz.prog 46 #[.slice p rs.length cap, .int .i64 t] w (MadeOwn w (stamp t (vals rs))) := by
  obtain ⟨i0, hii, hz0, hz1, hz2⟩ := info_parts infoC
  have HX := Lib.hid hX
  have HLX := Lib.hid hlx
  clear hX hlx
  go_enter Tryz.func46, Tryz.ntmps46
  go_wp2_with fail
  go_loopw [5, 6] (fun o s wr => ∃ (i : Nat) (os : List ChR), s = .int .i64 i ∧ i ≤ rs.length ∧ OwnChgs wr w.heap.size o os ∧ Hid (cvals os = stamp t ((vals rs).take i)) ∧ os.length ≤ i ∧ Hid (∀ r ∈ os, r.2.1.2.1.length ≤ 100000) ∧ Below w.heap.size w wr)
    (fun _ s _ => rs.length - (intOf s).toNat)
  case atStart => exact ⟨0, [], rfl, Nat.zero_le _, OwnChgs.nil _ _, (by show _ = _; simp [cvals, stamp]), (by simp), (by simp [Hid]), Below.refl _ _⟩
  case round =>
    obtain ⟨i, os, rfl, hi, hos, hput, hosl, hlen, hB⟩ := hrel
    have HOW := Lib.hid hos
    have HBW := Lib.hid hB
    have hBs := hB.size
    by_cases hlt : i < rs.length
    · obtain ⟨b, off, rfl, hbl, hra⟩ := HX.out (by omega)
      obtain ⟨c0, c1, c2, c3⟩ := hra i hlt
      have hi0 : (0 : Int) ≤ (i : Int) := by omega
      have hi1 : (i : Int) < (rs.length : Int) := by omega
      have hmem : rs[i]?.getD ir0 ∈ rs := by rw [List.getElem?_eq_getElem hlt]; exact List.getElem_mem hlt
      have hxl := HLX.out _ hmem
      have hnx := stamp_next (t := t) (show i < (vals rs).length by rw [vals_len]; exact hlt)
      rw [vals_get, ← hput.out] at hnx
      clear hra hmem
      generalize (rs[i]?.getD ir0) = x at *
      obtain ⟨⟨xq, xs, xc⟩, xn⟩ := x
      dsimp only [rowv, itv] at c0 c1 c2 c3 hxl hnx
      have HNX := Lib.hid hnx
      have HOX := Lib.hid fun W (h : Below w.heap.size w W) => Own_any xq xs xc hxl W (c2.belowV h).2 c3
      have HS := Lib.hid (show ∀ w' : World, Below w.heap.size w w' → (Below w.heap.size w w' ∧ w'.cell? ⟨b, off + i * 2, none⟩ = some (.slice xq xs.length xc) ∧ w'.cell? ⟨b, off + i * 2 + 1, none⟩ = some (.int .i64 xn)) from fun w' hb => ⟨hb, (hb.cell (p := ⟨b, off + i * 2, none⟩) hbl).trans c0, (hb.cell (p := ⟨b, off + i * 2 + 1, none⟩) hbl).trans c1⟩)
      have d0 := (hB.cell (p := ⟨b, off + i * 2, none⟩) hbl).trans c0
      have d1 := (hB.cell (p := ⟨b, off + i * 2 + 1, none⟩) hbl).trans c1
      clear c0 c1 c2 c3 hnx hput hos
      go_wp2_with fail
      refine wp_region_held_drew (S := fun w' : World => Below w.heap.size w w' ∧ w'.cell? ⟨b, off + i * 2, none⟩ = some (.slice xq xs.length xc) ∧ w'.cell? ⟨b, off + i * 2 + 1, none⟩ = some (.int .i64 xn)) (by kernel_rfl) (HS.out _ HBW.out.drew) (fun hHeld => ?_)
      have hOW := HOW.out.below ((Below.refl _ _).drew)
      refine wpAnyH_take (i := 0) (oi := _) (v := ?_) rfl (by kernel_rfl) (by kernel_rfl) (by kernel_rfl) (fun _ _ _ h => h) (Or.inl ⟨by rfl, ?_⟩) (by assumption) ?_
      rotate_left
      · intro w hSw
        try dsimp only at hSw
        go_simp
        all_goals with_reducible rfl
      simp only [List.getElem_toArray, List.getElem_cons_zero, Act.put, List.setIfInBounds_toArray, List.set_cons_zero, List.set_cons_succ]
      refine wpAnyH_take (i := 1) (oi := _) (v := ?_) rfl (by kernel_rfl) (by kernel_rfl) (by kernel_rfl) (fun _ _ _ h => h) (Or.inl ⟨by rfl, ?_⟩) (by assumption) ?_
      rotate_left
      · intro w hSw
        try dsimp only at hSw
        go_simp
        all_goals with_reducible rfl
      simp only [List.getElem_toArray, List.getElem_cons_succ, List.getElem_cons_zero, Act.put, List.setIfInBounds_toArray, List.set_cons_zero, List.set_cons_succ]
      refine wpAnyH_take (i := 2) (oi := _) (v := ?_) rfl (by kernel_rfl) (by kernel_rfl) (by kernel_rfl) (fun _ _ _ h => h) (Or.inl ⟨by rfl, ?_⟩) (by assumption) ?_
      rotate_left
      · intro w hSw
        try dsimp only at hSw
        go_simp
        all_goals with_reducible rfl
      simp only [List.getElem_toArray, List.getElem_cons_succ, List.getElem_cons_zero, Act.put, List.setIfInBounds_toArray, List.set_cons_zero, List.set_cons_succ]
      refine wpAnyH_take (i := 3) (oi := _) (v := ?_) rfl (by kernel_rfl) (by kernel_rfl) (by kernel_rfl) (fun _ _ _ h => h) (Or.inl ⟨by rfl, ?_⟩) (by assumption) ?_
      rotate_left
      · intro w hSw
        try dsimp only at hSw
        go_simp
        all_goals with_reducible rfl
      simp only [List.getElem_toArray, List.getElem_cons_succ, List.getElem_cons_zero, Act.put, List.setIfInBounds_toArray, List.set_cons_zero, List.set_cons_succ]
      refine wpAnyH_take (i := 4) (oi := _) (v := ?_) rfl (by kernel_rfl) (by kernel_rfl) (by kernel_rfl) (fun _ _ _ h => h) (Or.inl ⟨by rfl, ?_⟩) (by assumption) ?_
      rotate_left
      · intro w hSw
        try dsimp only at hSw
        go_simp
        all_goals with_reducible rfl
      simp only [List.getElem_toArray, List.getElem_cons_succ, List.getElem_cons_zero, Act.put, List.setIfInBounds_toArray, List.set_cons_zero, List.set_cons_succ]
      refine wpAnyH_take (i := 5) (oi := _) (v := ?_) rfl (by kernel_rfl) (by kernel_rfl) (by kernel_rfl) (fun _ _ _ h => h) (Or.inl ⟨by rfl, ?_⟩) (by assumption) ?_
      rotate_left
      · intro w hSw
        try dsimp only at hSw
        go_simp
        all_goals with_reducible rfl
      simp only [List.getElem_toArray, List.getElem_cons_succ, List.getElem_cons_zero, Act.put, List.setIfInBounds_toArray, List.set_cons_zero, List.set_cons_succ]
      refine wpAnyH_take (i := 6) (oi := _) (v := ?_) rfl (by kernel_rfl) (by kernel_rfl) (by kernel_rfl) (fun _ _ _ h => h) (Or.inl ⟨by rfl, ?_⟩) (by assumption) ?_
      rotate_left
      · intro w hSw
        try dsimp only at hSw
        go_simp
        all_goals with_reducible rfl
      simp only [List.getElem_toArray, List.getElem_cons_succ, List.getElem_cons_zero, Act.put, List.setIfInBounds_toArray, List.set_cons_zero, List.set_cons_succ]
      refine wpAnyH_take (i := 8) (oi := _) (v := ?_) rfl (by kernel_rfl) (by kernel_rfl) (by kernel_rfl) (fun _ _ _ h => h) (Or.inl ⟨by rfl, ?_⟩) (by assumption) ?_
      rotate_left
      · intro w hSw
        try dsimp only at hSw
        go_simp
        all_goals with_reducible rfl
      simp only [List.getElem_toArray, List.getElem_cons_succ, List.getElem_cons_zero, Act.put, List.setIfInBounds_toArray, List.set_cons_zero, List.set_cons_succ]
      refine wpAnyH_take (i := 9) (oi := _) (v := ?_) rfl (by kernel_rfl) (by kernel_rfl) (by kernel_rfl) (fun _ _ _ h => h) (Or.inl ⟨by rfl, ?_⟩) (by assumption) ?_
      rotate_left
      · intro w hSw
        try dsimp only at hSw
        go_simp
        all_goals with_reducible rfl
      simp only [List.getElem_toArray, List.getElem_cons_succ, List.getElem_cons_zero, Act.put, List.setIfInBounds_toArray, List.set_cons_zero, List.set_cons_succ]
      refine wpAnyH_take (i := 10) (oi := _) (v := ?_) rfl (by kernel_rfl) (by kernel_rfl) (by kernel_rfl) (fun _ _ _ h => h) (Or.inl ⟨by rfl, ?_⟩) (by assumption) ?_
      rotate_left
      · intro w hSw
        try dsimp only at hSw
        go_simp
        all_goals with_reducible rfl
      simp only [List.getElem_toArray, List.getElem_cons_succ, List.getElem_cons_zero, Act.put, List.setIfInBounds_toArray, List.set_cons_zero, List.set_cons_succ]
      refine wpAnyH_take (i := 11) (oi := _) (v := ?_) rfl (by kernel_rfl) (by kernel_rfl) (by kernel_rfl) (fun _ _ _ h => h) (Or.inl ⟨by rfl, ?_⟩) (by assumption) ?_
      rotate_left
      · intro w hSw
        try dsimp only at hSw
        go_simp
        all_goals with_reducible rfl
      simp only [List.getElem_toArray, List.getElem_cons_succ, List.getElem_cons_zero, Act.put, List.setIfInBounds_toArray, List.set_cons_zero, List.set_cons_succ]
      refine wpAnyH_take (i := 12) (oi := _) (v := ?_) rfl (by kernel_rfl) (by kernel_rfl) (by kernel_rfl) (fun _ _ _ h => h) (Or.inl ⟨by rfl, ?_⟩) (by assumption) ?_
      rotate_left
      · intro w hSw
        try dsimp only at hSw
        go_simp
        all_goals with_reducible rfl
      simp only [List.getElem_toArray, List.getElem_cons_succ, List.getElem_cons_zero, Act.put, List.setIfInBounds_toArray, List.set_cons_zero, List.set_cons_succ]
      refine wpAnyH_ready (rs := [7]) (by kernel_rfl) (by simp) ?_
      refine AllReadyH.cons (o := _) rfl (fun K hK => ?_) AllReadyH.nil
      go_simp
      refine (HOX.out _ hHeld.1).mono ?_
      rintro e u1 ⟨⟨rq, rx, rc⟩, rfl, hrx, hown1, kb1⟩
      dsimp only [rowv] at hrx hown1 ⊢
      have hrx := hrx.symm
      subst hrx
      have hU1 : Below w.heap.size w u1 := hHeld.1.trans (kb1.mono hHeld.1.size)
      have hO1 := hOW.below kb1
      have hW1 := ownsRow_base hown1 hHeld.1.size
      refine hK.out _ _ (HS.out _ hU1) (fun hHeld1 => ?_)
      clear kb1 hown1 hHeld
      clear hK K
      try simp only [List.getElem_toArray, List.getElem_cons_succ, List.getElem_cons_zero, Act.put, List.setIfInBounds_toArray, List.set_cons_zero, List.set_cons_succ]
      refine wpAnyH_take (i := 13) (oi := _) (v := ?_) rfl (by kernel_rfl) (by kernel_rfl) (by kernel_rfl) (fun _ _ _ h => h) (Or.inl ⟨by rfl, ?_⟩) (by assumption) ?_
      rotate_left
      · intro w hSw
        try dsimp only at hSw
        go_simp
        all_goals with_reducible rfl
      simp only [List.getElem_toArray, List.getElem_cons_succ, List.getElem_cons_zero, Act.put, List.setIfInBounds_toArray, List.set_cons_zero, List.set_cons_succ]
      refine wpAnyH_ready (rs := [14]) (by kernel_rfl) (by simp) ?_
      refine AllReadyH.cons (o := _) rfl (fun K hK => ?_) AllReadyH.nil
      go_simp
      refine hK.out _ _ (HS.out _ (hU1.alloc hU1.size _)) (fun hHeld2 => ?_)
      clear hHeld1
      clear hK K
      try simp only [List.getElem_toArray, List.getElem_cons_succ, List.getElem_cons_zero, Act.put, List.setIfInBounds_toArray, List.set_cons_zero, List.set_cons_succ]
      refine wpAnyH_ready (rs := [15]) (by kernel_rfl) (by simp) ?_
      refine AllReadyH.cons (o := _) rfl (fun K hK => ?_) AllReadyH.nil
      refine step_append_lies _ rfl _ _ 24 rfl w.heap.size 40 i0 (.agg #[.int .i64 0, .slice none 0 0, .int .i64 0]) 3 40 Tryz.underlying24 hii hz0 hz1 hz2 rfl (by decide) _ _ _ rfl (hO1.1.alloc _) ⟨u1.heap.size, 0, none⟩ 1 1 (cellsC (t, (rq, xs, rc), xn)) rfl rfl (cells_new _ _ _) (by simp [cellsC, rowv, Value.oneCell']) (by decide) (by unfold maxLen; omega) (by omega) (by have := hU1.size; simp; omega) (u1.heap.size + 1) (by simp) ?_
      intro g' cap' w5 hown' hgrow hor hlt5
      have hO5 := hO1.appended (x := (t, (rq, xs, rc), xn)) hW1 hown' hgrow
      have hB5 : Below w.heap.size w w5 := (hU1.alloc hU1.size _).grown hgrow (by have := hU1.size; simp; omega) (fun k e => (hO1.1.lt k e).1)
      refine hK.out _ _ (HS.out _ hB5) (fun hHeld3 => ?_)
      clear hK K hown' hgrow hor hlt5 hHeld2 hO1 hW1 hU1
      try simp only [List.getElem_toArray, List.getElem_cons_succ, List.getElem_cons_zero, Act.put, List.setIfInBounds_toArray, List.set_cons_zero, List.set_cons_succ]
      refine wpAnyH_take (i := 16) (oi := _) (v := ?_) rfl (by kernel_rfl) (by kernel_rfl) (by kernel_rfl) (fun _ _ _ h => h) (Or.inl ⟨by rfl, ?_⟩) (by assumption) ?_
      rotate_left
      · intro w hSw
        try dsimp only at hSw
        go_simp
        all_goals with_reducible rfl
      simp only [List.getElem_toArray, List.getElem_cons_succ, List.getElem_cons_zero, Act.put, List.setIfInBounds_toArray, List.set_cons_zero, List.set_cons_succ]
      refine wpAnyH_done (by kernel_rfl) ?_ _
      have HV2 := Lib.hid (show cvals (os ++ [(t, (rq, xs, rc), xn)]) = stamp t ((vals rs).take (i + 1)) by rw [HNX.out]; unfold cvals; rw [List.map_append]; rfl)
      have HL2 : Hid (∀ r ∈ os ++ [(t, (rq, xs, rc), xn)], r.2.1.2.1.length ≤ 100000) := (by intro r hr; rcases List.mem_append.1 hr with hr | hr; exact hlen.out r hr; rw [List.mem_singleton] at hr; subst hr; exact hxl)
      go_wp2_with fail
      go_roundw
      case rel => exact ⟨i + 1, os ++ [(t, (rq, xs, rc), xn)], by go_num, by omega, hO5, HV2.out, (by simp <;> omega), HL2, hB5⟩
      case measure => simp [intOf]; omega
    · have hge : (rs.length : Int) ≤ (i : Int) := by omega
      have hie : i = rs.length := by omega
      have HF := Lib.hid (show cvals os = stamp t (vals rs) by have := hput.out; rwa [hie, ← vals_len rs, List.take_length] at this)
      obtain ⟨p2, cap2, rfl, hc2, _, _⟩ := slice_of_ownC hos.1
      have HC := Lib.hid hos
      clear hie hput hos
      go_wp2_with fail
      go_ret
      exact ⟨p2, os, cap2, rfl, HF.out, hc2, by omega, HC.out, hlen.out, hB⟩
end Go.Proofs.YthoimepdioeckaaGreatDoor

/-!
  Netted of the document, as a contract.
-/
namespace Go.Proofs.YthoimepdioeckaaGreatDoor
open Go.RowKit

theorem OwnChgs.base {W : World} {B B' : Nat} {v : Value} {os : List ChR} (h : OwnChgs W B v os) (hb : B' ≤ B) : OwnChgs W B' v os := ⟨ownsRow_base h.1 hb, fun r hr => ownsRow_base (h.2 r hr) hb⟩
theorem flatC_time : ∀ (rs : List ChR) (i : Nat) (t : Int), flatC (rs.set i (t, (rs[i]?.getD cr0).2)) = (flatC rs).set (i * 3) (.int .i64 t)
  | [], i, t => by simp [flatC]
  | x :: xs, 0, t => by simp [flatC, cellsC]
  | x :: xs, i + 1, t => by
    have h := flatC_time xs i t
    rw [show (i + 1) * 3 = i * 3 + 3 by omega]
    simp only [flatC, List.set_cons_succ, List.flatMap_cons, cellsC, List.cons_append, List.nil_append, List.getElem?_cons_succ] at h ⊢
    rw [h]
theorem own_time {W : World} {B g cap : Nat} {os : List ChR} (i : Nat) (t : Int) (hi : i < os.length) (h : OwnChgs W B (.slice (some ⟨g, 0, none⟩) os.length cap) os) : OwnChgs (W.setCell ⟨g, i * 3, none⟩ (.int .i64 t)) B (.slice (some ⟨g, 0, none⟩) os.length cap) (os.set i (t, (os[i]?.getD cr0).2)) := by
  refine ⟨?_, fun r hr => ?_⟩
  · rw [List.length_set, flatC_time]
    exact (h.1.stored (i * 3) (.int .i64 t)).1
  · have key : ∀ r : ChR, OwnsV W B (rowv r.2.1) r.2.1.2.1 → OwnsV (W.setCell ⟨g, i * 3, none⟩ (.int .i64 t)) B (rowv r.2.1) r.2.1.2.1 := fun r hr => ownsRow_setCell_other hr (by
      rcases own_apartC h.1 hr with e | e
      · rw [e]; simp
      · exact e) _
    rcases List.mem_or_eq_of_mem_set hr with hr | rfl
    · exact key r (h.2 r hr)
    · exact key (t, (os[i]?.getD cr0).2) (h.2 (os[i]?.getD cr0) (by rw [List.getElem?_eq_getElem hi]; exact List.getElem_mem hi))
theorem its_time {rs : List ChR} {i : Nat} {t : Int} : its (cvals (rs.set i (t, (rs[i]?.getD cr0).2))) = its (cvals rs) := by
  unfold its cvals
  rw [List.map_map, List.map_map, List.map_set]
  by_cases hi : i < rs.length
  · have : (chI ∘ chv) (t, (rs[i]?.getD cr0).2) = (rs.map (chI ∘ chv))[i]'(by simpa using hi) := by
      rw [List.getElem_map, List.getElem?_eq_getElem hi]; rfl
    rw [this, List.set_getElem_self]
  · rw [List.set_eq_of_length_le (by simp; omega)]
theorem stampL_of {m l : List Ch} (ht : ∀ c ∈ m, c.1 = (lastF l c.2.1).1) : m = stampL l (its m) := by
  unfold stampL its
  rw [List.map_map]
  conv => lhs; rw [← List.map_id m]
  refine List.map_congr_left fun c hc => ?_
  show c = ((lastF l c.2.1).1, c.2.1, c.2.2)
  rw [← ht c hc]
def Timed (l : List Ch) (os : List ChR) (i : Nat) : Prop := ∀ k, k < os.length → (os[k]?.getD cr0).1 = if k < i then (lastF l (os[k]?.getD cr0).2.1.2.1).1 else 0
theorem Timed.zero {l : List Ch} {os : List ChR} {A : List It} (h : cvals os = stamp 0 A) : Timed l os 0 := fun k hk => by
  rw [if_neg (by omega)]
  have h1 : chv (os[k]?.getD cr0) ∈ cvals os := List.mem_map_of_mem (by rw [List.getElem?_eq_getElem hk]; exact List.getElem_mem hk)
  rw [h] at h1
  obtain ⟨x, _, e⟩ := List.mem_map.1 h1
  exact (congrArg Prod.fst e).symm
theorem Timed.next {l : List Ch} {os : List ChR} {i : Nat} (h : Timed l os i) (hi : i < os.length) : Timed l (os.set i ((lastF l (os[i]?.getD cr0).2.1.2.1).1, (os[i]?.getD cr0).2)) (i + 1) := fun k hk => by
  rw [List.length_set] at hk
  by_cases e : k = i
  · subst e
    rw [List.getElem?_set_self hk, if_pos (by omega)]; rfl
  · rw [List.getElem?_set_ne (fun h => e h.symm), h k hk]
    by_cases hlt : k < i
    · rw [if_pos hlt, if_pos (by omega)]
    · rw [if_neg hlt, if_neg (by omega)]
theorem Timed.done {l : List Ch} {os : List ChR} (h : Timed l os os.length) : cvals os = stampL l (its (cvals os)) := stampL_of fun c hc => by
  obtain ⟨r, hr, rfl⟩ := List.mem_map.1 hc
  obtain ⟨k, hk, rfl⟩ := List.getElem_of_mem hr
  have := h k hk
  rw [if_pos hk, List.getElem?_eq_getElem hk] at this
  exact this

set_option maxRecDepth 100000 in
set_option maxHeartbeats 8000000 in
theorem refNetted_yes (p : Option Addr) (rs : List ChR) (c : Nat) (hm : rs.length ≤ 400) (w : World) (hX : ChgIn w p rs) (hv : validCs (cvals rs) = true) (hb : validBag (after [] (its (cvals rs))) = true) :
    Calls Tryz.prog 18 #[.slice p rs.length c] w (ChgPost w (stampL (cvals rs) (after [] (its (cvals rs)))) 0) := by
  have h1 := refVCs_any p rs c (by omega) w hX
  rw [hv] at h1
  have h2 := fun W (h : Below w.heap.size w W) => After_any none p [] rs 0 c (by simp) (by simp) W (fun h => absurd h (by simp)) (fun _ => rfl) (hX.belowV h) nil_asc (fun x hx => by cases hx) hv
  have hA : Asc (after [] (its (cvals rs))) := after_asc nil_asc (its_valid hv)
  have H1 := Lib.hid h1
  have H2 := Lib.hid h2
  have HX := Lib.hid hX
  have HA := Lib.hid hA
  have HV := Lib.hid hb
  clear h1 h2 hv hX hA hb
  rw [show vals ([] : List ItR) = [] from rfl] at H2
  generalize hAA : after [] (its (cvals rs)) = A at *
  clear hAA
  go_enter Tryz.func18, Tryz.ntmps18
  go_wp2_with fail
  refine H1.out.mono ?_
  rintro e w1 ⟨rfl, hb1⟩
  go_wp2_with fail
  refine (H2.out _ hb1).mono ?_
  rintro e w2 ⟨p3, os3, c3, rfl, hv3, hoc3, hol3, hi3, _, hb3⟩
  have hB2 : Below w.heap.size w w2 := hb1.trans (hb3.mono hb1.size)
  have hbv := refBagValid_any p3 os3 c3 (by omega) w2 hi3
  rw [hv3, HV.out] at hbv
  have HBV := Lib.hid hbv
  have HMD := Lib.hid fun W (h : Below w2.heap.size w2 W) => MadeO_any p3 os3 c3 0 (by omega) (fun r hr => by have := row_len (HA.out.1 _ (by rw [← hv3]; exact mem_vals hr)).1; simp only [itv] at this; omega) W (hi3.belowV h)
  rw [hv3] at HMD
  clear hbv hv3 hi3 hb3 hb1 H1 H2
  go_wp2_with fail
  refine HBV.out.mono ?_
  rintro e w3 ⟨rfl, hb4⟩
  go_wp2_with fail
  refine (HMD.out _ hb4).mono ?_
  rintro e w4 ⟨p4, os4, c4, rfl, hv4, hoc4, hol4, how4, hlen4, hb5⟩
  have hB3 : Below w.heap.size w w3 := hB2.trans (hb4.mono hB2.size)
  have hB4 : Below w.heap.size w w4 := hB3.trans (hb5.mono hB3.size)
  have how := how4.base hB3.size
  have htm := Timed.zero (l := cvals rs) hv4
  have hits : its (cvals os4) = A := by rw [hv4]; unfold its stamp; rw [List.map_map]; exact List.map_id A
  generalize hn4 : os4.length = n4 at how hoc4 hol4
  have HN4 := Lib.hid hn4
  clear hb4 hb5 hB2 hB3 how4 HMD HBV hv4 hn4
  go_wp2_with fail
  go_loopw [6, 7, 8] (fun s _ _ wr => ∃ (i : Nat) (os : List ChR), s = .int .i64 i ∧ i ≤ n4 ∧ Hid (os.length = n4) ∧ OwnChgs wr w.heap.size (.slice p4 n4 c4) os ∧ Hid (its (cvals os) = A) ∧ Hid (Timed (cvals rs) os i) ∧ Hid (∀ r ∈ os, r.2.1.2.1.length ≤ 100000) ∧ Below w.heap.size w wr) (fun s _ _ _ => n4 - (intOf s).toNat)
  case atStart => exact ⟨0, os4, rfl, Nat.zero_le _, HN4.out, how, hits, htm, hlen4, hB4⟩
  case round =>
    clear how hits htm hlen4 hB4 HN4
    obtain ⟨i, os, rfl, hi, hol, how, hits, htm, hlen, hB⟩ := hrel
    by_cases hil : i < n4
    · have hio : i < os.length := by rw [hol.out]; exact hil
      have hi0 : (0 : Int) ≤ (i : Int) := by omega
      have hi1 : (i : Int) < (n4 : Int) := by omega
      have hx0 := htm.out i hio
      rw [if_neg (by omega)] at hx0
      have hmem : os[i]?.getD cr0 ∈ os := by rw [List.getElem?_eq_getElem hio]; exact List.getElem_mem hio
      have hxl := hlen.out _ hmem
      have hset0 : os.set i (0, (os[i]?.getD cr0).2) = os := by
        rw [← hx0]
        show os.set i (os[i]?.getD cr0) = os
        rw [List.getElem?_eq_getElem hio]; exact List.set_getElem_self hio
      have HN2 := Lib.hid (show Timed (cvals rs) (os.set i ((lastF (cvals rs) (os[i]?.getD cr0).2.1.2.1).1, (os[i]?.getD cr0).2)) (i + 1) from htm.out.next hio)
      have HI2 := Lib.hid fun t => (show its (cvals (os.set i (t, (os[i]?.getD cr0).2))) = A from its_time.trans hits.out)
      have HL2 := Lib.hid fun t => (show ∀ r ∈ os.set i (t, (os[i]?.getD cr0).2), r.2.1.2.1.length ≤ 100000 from fun r hr => by
        rcases List.mem_or_eq_of_mem_set hr with hr | rfl
        · exact hlen.out r hr
        · exact hxl)
      obtain ⟨g, cap', he, hBg, hgl, _⟩ := own_addrC (by omega) how.1
      simp only [Value.slice.injEq] at he
      obtain ⟨rfl, -, -⟩ := he
      rw [← hset0] at how
      have HOL := hol
      have HGET := Lib.hid fun (t : Int) y => (show (os.set i (t, y))[i]?.getD cr0 = (t, y) by rw [List.getElem?_set_self hio]; rfl)
      have HSETS := Lib.hid fun (t u : Int) y z => (show (os.set i (t, y)).set i (u, z) = os.set i (u, z) by rw [List.set_set])
      clear hx0 hmem hset0 htm hits hlen hol hgl
      generalize (os[i]?.getD cr0) = x at *
      obtain ⟨x0, ⟨xq, xs, xc⟩, xn⟩ := x
      dsimp only at how hxl HN2 HI2 HL2
      go_wp2_with fail
      go_loopw [7, 8] (fun f s wr => ∃ (j : Nat) (s1 : Int) (s2 : Bool), f = .bool s2 ∧ s = .int .i64 j ∧ j ≤ rs.length ∧ Hid (lastF ((cvals rs).take j) xs = (s1, s2)) ∧ OwnChgs wr w.heap.size (.slice (some ⟨g, 0, none⟩) n4 c4) (os.set i (s1, (xq, xs, xc), xn)) ∧ Below w.heap.size w wr) (fun _ s _ => rs.length - (intOf s).toNat)
      case atStart => exact ⟨0, 0, true, rfl, rfl, Nat.zero_le _, rfl, how, hB⟩
      case round =>
        clear how hB
        obtain ⟨j, s1, s2, rfl, rfl, hj, hls, how, hB⟩ := hrel
        by_cases hjl : j < rs.length
        · obtain ⟨wo, hwo⟩ : ∃ wo : World, wo = wr := ⟨_, rfl⟩
          subst hwo
          obtain ⟨b, off, rfl, hbl, hra⟩ := HX.out (by omega)
          obtain ⟨c0, c1, _, c2, _⟩ := (hra.belowV hB hbl) j hjl
          have hbw : b < wo.heap.size := Nat.lt_of_lt_of_le hbl hB.size
          obtain ⟨g', _, he2, _, hgl, _⟩ := own_addrC (by rw [List.length_set, HOL.out]; omega) how.1
          simp only [Value.slice.injEq, Option.some.injEq, Addr.mk.injEq, and_true] at he2
          obtain ⟨rfl, -, -⟩ := he2
          obtain ⟨e0, e1, _⟩ := own_chgs (n := n4) (rs := os.set i (s1, (xq, xs, xc), xn)) (by rw [List.length_set, HOL.out]) (by have := how.1; rw [List.length_set, HOL.out] at this; exact this) i (by rw [List.length_set, HOL.out]; exact hil)
          rw [HGET.out] at e0 e1
          have hxv : ValsIn wo xq xs := valsIn_of_owns (how.2 (s1, (xq, xs, xc), xn) (List.mem_set (by rw [HOL.out]; exact hil) _))
          have hj0 : (0 : Int) ≤ (j : Int) := by omega
          have hj1 : (j : Int) < (rs.length : Int) := by omega
          have hnx := lastF_next (r := xs) (show j < (cvals rs).length by rw [cvals_len]; exact hjl)
          rw [cvals_get, hls.out] at hnx
          clear hra
          generalize (rs[j]?.getD cr0) = y at *
          obtain ⟨ct, ⟨cq, ys, cc⟩, cn⟩ := y
          dsimp only [rowv, chv] at c0 c1 c2 e0 e1 hnx
          have HOW := Lib.hid (show OwnChgs wo w.heap.size (.slice (some ⟨g, 0, none⟩) (os.set i (s1, (xq, xs, xc), xn)).length c4) (os.set i (s1, (xq, xs, xc), xn)) by rw [List.length_set, HOL.out]; exact how)
          have hcm := fun W (h : Below wo.heap.size wo W) => refCompare_any cq xq ys xs cc xc c2.1 (by omega) W (c2.belowV h).2 (hxv.belowV h)
          have HSS := Lib.hid (show (os.set i (s1, (xq, xs, xc), xn)).set i (ct, ((os.set i (s1, (xq, xs, xc), xn))[i]?.getD cr0).2) = os.set i (ct, (xq, xs, xc), xn) by rw [HGET.out, HSETS.out])
          have HS := Lib.hid (show ∀ w' : World, Below wo.heap.size wo w' → (Below wo.heap.size wo w' ∧ w'.cell? ⟨b, off + j * 3, none⟩ = some (.int .i64 ct) ∧ w'.cell? ⟨b, off + j * 3 + 1, none⟩ = some (.slice cq ys.length cc) ∧ w'.cell? ⟨g, i * 3, none⟩ = some (.int .i64 s1) ∧ w'.cell? ⟨g, i * 3 + 1, none⟩ = some (.slice xq xs.length xc)) from fun w' hb => ⟨hb, (hb.cell (p := ⟨b, off + j * 3, none⟩) hbw).trans c0, (hb.cell (p := ⟨b, off + j * 3 + 1, none⟩) hbw).trans c1, (hb.cell (p := ⟨g, i * 3, none⟩) hgl).trans e0, (hb.cell (p := ⟨g, i * 3 + 1, none⟩) hgl).trans e1⟩)
          have HNX := Lib.hid hnx
          clear hnx c2 hxv how hls
          by_cases h0 : cmpRow ys xs = 0
          · rw [h0] at hcm
            have HCM := Lib.hid hcm
            clear hcm
            cases s2 with
            | true =>
              have HLS := Lib.hid (show lstep xs (s1, true) (ct, ys, cn) = (ct, false) by unfold lstep; rw [if_pos ⟨h0, .inl rfl⟩])
              clear h0
              go_wp2_with fail
              refine wp_region_held_drew (S := fun w' : World => Below wo.heap.size wo w' ∧ w'.cell? ⟨b, off + j * 3, none⟩ = some (.int .i64 ct) ∧ w'.cell? ⟨b, off + j * 3 + 1, none⟩ = some (.slice cq ys.length cc) ∧ w'.cell? ⟨g, i * 3, none⟩ = some (.int .i64 s1) ∧ w'.cell? ⟨g, i * 3 + 1, none⟩ = some (.slice xq xs.length xc)) (by kernel_rfl) (HS.out _ (Below.refl _ _).drew) (fun hHeld => ?_)
              refine wpAnyH_take (i := 0) (oi := _) (v := ?_) rfl (by kernel_rfl) (by kernel_rfl) (by kernel_rfl) (fun _ _ _ h => h) (Or.inl ⟨by rfl, ?_⟩) (by assumption) ?_
              rotate_left
              · intro w hSw
                try dsimp only at hSw
                go_simp
                all_goals with_reducible rfl
              simp only [List.getElem_toArray, List.getElem_cons_zero, Act.put, List.setIfInBounds_toArray, List.set_cons_zero, List.set_cons_succ]
              refine wpAnyH_take (i := 1) (oi := _) (v := ?_) rfl (by kernel_rfl) (by kernel_rfl) (by kernel_rfl) (fun _ _ _ h => h) (Or.inl ⟨by rfl, ?_⟩) (by assumption) ?_
              rotate_left
              · intro w hSw
                try dsimp only at hSw
                go_simp
                all_goals with_reducible rfl
              simp only [List.getElem_toArray, List.getElem_cons_succ, List.getElem_cons_zero, Act.put, List.setIfInBounds_toArray, List.set_cons_zero, List.set_cons_succ]
              refine wpAnyH_take (i := 2) (oi := _) (v := ?_) rfl (by kernel_rfl) (by kernel_rfl) (by kernel_rfl) (fun _ _ _ h => h) (Or.inl ⟨by rfl, ?_⟩) (by assumption) ?_
              rotate_left
              · intro w hSw
                try dsimp only at hSw
                go_simp
                all_goals with_reducible rfl
              simp only [List.getElem_toArray, List.getElem_cons_succ, List.getElem_cons_zero, Act.put, List.setIfInBounds_toArray, List.set_cons_zero, List.set_cons_succ]
              refine wpAnyH_take (i := 3) (oi := _) (v := ?_) rfl (by kernel_rfl) (by kernel_rfl) (by kernel_rfl) (fun _ _ _ h => h) (Or.inl ⟨by rfl, ?_⟩) (by assumption) ?_
              rotate_left
              · intro w hSw
                try dsimp only at hSw
                go_simp
                all_goals with_reducible rfl
              simp only [List.getElem_toArray, List.getElem_cons_succ, List.getElem_cons_zero, Act.put, List.setIfInBounds_toArray, List.set_cons_zero, List.set_cons_succ]
              refine wpAnyH_take (i := 4) (oi := _) (v := ?_) rfl (by kernel_rfl) (by kernel_rfl) (by kernel_rfl) (fun _ _ _ h => h) (Or.inl ⟨by rfl, ?_⟩) (by assumption) ?_
              rotate_left
              · intro w hSw
                try dsimp only at hSw
                go_simp
                all_goals with_reducible rfl
              simp only [List.getElem_toArray, List.getElem_cons_succ, List.getElem_cons_zero, Act.put, List.setIfInBounds_toArray, List.set_cons_zero, List.set_cons_succ]
              refine wpAnyH_take (i := 5) (oi := _) (v := ?_) rfl (by kernel_rfl) (by kernel_rfl) (by kernel_rfl) (fun _ _ _ h => h) (Or.inl ⟨by rfl, ?_⟩) (by assumption) ?_
              rotate_left
              · intro w hSw
                try dsimp only at hSw
                go_simp
                all_goals with_reducible rfl
              simp only [List.getElem_toArray, List.getElem_cons_succ, List.getElem_cons_zero, Act.put, List.setIfInBounds_toArray, List.set_cons_zero, List.set_cons_succ]
              refine wpAnyH_take (i := 6) (oi := _) (v := ?_) rfl (by kernel_rfl) (by kernel_rfl) (by kernel_rfl) (fun _ _ _ h => h) (Or.inl ⟨by rfl, ?_⟩) (by assumption) ?_
              rotate_left
              · intro w hSw
                try dsimp only at hSw
                go_simp
                all_goals with_reducible rfl
              simp only [List.getElem_toArray, List.getElem_cons_succ, List.getElem_cons_zero, Act.put, List.setIfInBounds_toArray, List.set_cons_zero, List.set_cons_succ]
              refine wpAnyH_take (i := 7) (oi := _) (v := ?_) rfl (by kernel_rfl) (by kernel_rfl) (by kernel_rfl) (fun _ _ _ h => h) (Or.inl ⟨by rfl, ?_⟩) (by assumption) ?_
              rotate_left
              · intro w hSw
                try dsimp only at hSw
                go_simp
                all_goals with_reducible rfl
              simp only [List.getElem_toArray, List.getElem_cons_succ, List.getElem_cons_zero, Act.put, List.setIfInBounds_toArray, List.set_cons_zero, List.set_cons_succ]
              refine wpAnyH_take (i := 8) (oi := _) (v := ?_) rfl (by kernel_rfl) (by kernel_rfl) (by kernel_rfl) (fun _ _ _ h => h) (Or.inl ⟨by rfl, ?_⟩) (by assumption) ?_
              rotate_left
              · intro w hSw
                try dsimp only at hSw
                go_simp
                all_goals with_reducible rfl
              simp only [List.getElem_toArray, List.getElem_cons_succ, List.getElem_cons_zero, Act.put, List.setIfInBounds_toArray, List.set_cons_zero, List.set_cons_succ]
              refine wpAnyH_take (i := 9) (oi := _) (v := ?_) rfl (by kernel_rfl) (by kernel_rfl) (by kernel_rfl) (fun _ _ _ h => h) (Or.inl ⟨by rfl, ?_⟩) (by assumption) ?_
              rotate_left
              · intro w hSw
                try dsimp only at hSw
                go_simp
                all_goals with_reducible rfl
              simp only [List.getElem_toArray, List.getElem_cons_succ, List.getElem_cons_zero, Act.put, List.setIfInBounds_toArray, List.set_cons_zero, List.set_cons_succ]
              refine wpAnyH_ready (rs := [10]) (by kernel_rfl) (by simp) ?_
              refine AllReadyH.cons (o := _) rfl (fun K hK => ?_) AllReadyH.nil
              go_simp
              refine (HCM.out _ hHeld.1).mono ?_
              rintro e u1 ⟨rfl, kb1⟩
              have hU1 : Below wo.heap.size wo u1 := hHeld.1.trans (kb1.mono hHeld.1.size)
              refine hK.out _ _ (HS.out _ hU1) (fun hHeld1 => ?_)
              clear kb1 hHeld
              clear hK K
              try simp only [List.getElem_toArray, List.getElem_cons_succ, List.getElem_cons_zero, Act.put, List.setIfInBounds_toArray, List.set_cons_zero, List.set_cons_succ]
              refine wpAnyH_take (i := 11) (oi := _) (v := ?_) rfl (by kernel_rfl) (by kernel_rfl) (by kernel_rfl) (fun _ _ _ h => h) (Or.inl ⟨by rfl, ?_⟩) (by assumption) ?_
              rotate_left
              · intro w hSw
                try dsimp only at hSw
                go_simp
                all_goals with_reducible rfl
              simp only [List.getElem_toArray, List.getElem_cons_succ, List.getElem_cons_zero, Act.put, List.setIfInBounds_toArray, List.set_cons_zero, List.set_cons_succ]
              refine wpAnyH_take (i := 12) (oi := _) (v := ?_) rfl (by kernel_rfl) (by kernel_rfl) (by kernel_rfl) (fun _ _ _ h => h) (Or.inl ⟨by rfl, ?_⟩) (by assumption) ?_
              rotate_left
              · intro w hSw
                try dsimp only at hSw
                go_simp
                all_goals with_reducible rfl
              simp only [List.getElem_toArray, List.getElem_cons_succ, List.getElem_cons_zero, Act.put, List.setIfInBounds_toArray, List.set_cons_zero, List.set_cons_succ]
              refine wpAnyH_take (i := 13) (oi := _) (v := ?_) rfl (by kernel_rfl) (by kernel_rfl) (by kernel_rfl) (fun _ _ _ h => h) (Or.inl ⟨by rfl, ?_⟩) (by assumption) ?_
              rotate_left
              · intro w hSw
                try dsimp only at hSw
                go_simp
                all_goals with_reducible rfl
              simp only [List.getElem_toArray, List.getElem_cons_succ, List.getElem_cons_zero, Act.put, List.setIfInBounds_toArray, List.set_cons_zero, List.set_cons_succ]
              refine wpAnyH_take (i := 14) (oi := _) (v := ?_) rfl (by kernel_rfl) (by kernel_rfl) (by kernel_rfl) (fun _ _ _ h => h) (Or.inl ⟨by rfl, ?_⟩) (by assumption) ?_
              rotate_left
              · intro w hSw
                try dsimp only at hSw
                go_simp
                all_goals with_reducible rfl
              simp only [List.getElem_toArray, List.getElem_cons_succ, List.getElem_cons_zero, Act.put, List.setIfInBounds_toArray, List.set_cons_zero, List.set_cons_succ]
              refine wpAnyH_take (i := 15) (oi := _) (v := undef) rfl (by kernel_rfl) (by kernel_rfl) (by kernel_rfl) (fun _ _ _ h => h) (Or.inr ⟨by rfl, rfl⟩) (by assumption) ?_
              simp only [List.getElem_toArray, List.getElem_cons_succ, List.getElem_cons_zero, Act.put, List.setIfInBounds_toArray, List.set_cons_zero, List.set_cons_succ]
              refine wpAnyH_take (i := 16) (oi := _) (v := undef) rfl (by kernel_rfl) (by kernel_rfl) (by kernel_rfl) (fun _ _ _ h => h) (Or.inr ⟨by rfl, rfl⟩) (by assumption) ?_
              simp only [List.getElem_toArray, List.getElem_cons_succ, List.getElem_cons_zero, Act.put, List.setIfInBounds_toArray, List.set_cons_zero, List.set_cons_succ]
              refine wpAnyH_take (i := 17) (oi := _) (v := undef) rfl (by kernel_rfl) (by kernel_rfl) (by kernel_rfl) (fun _ _ _ h => h) (Or.inr ⟨by rfl, rfl⟩) (by assumption) ?_
              simp only [List.getElem_toArray, List.getElem_cons_succ, List.getElem_cons_zero, Act.put, List.setIfInBounds_toArray, List.set_cons_zero, List.set_cons_succ]
              refine wpAnyH_take (i := 18) (oi := _) (v := undef) rfl (by kernel_rfl) (by kernel_rfl) (by kernel_rfl) (fun _ _ _ h => h) (Or.inr ⟨by rfl, rfl⟩) (by assumption) ?_
              simp only [List.getElem_toArray, List.getElem_cons_succ, List.getElem_cons_zero, Act.put, List.setIfInBounds_toArray, List.set_cons_zero, List.set_cons_succ]
              refine wpAnyH_take (i := 19) (oi := _) (v := undef) rfl (by kernel_rfl) (by kernel_rfl) (by kernel_rfl) (fun _ _ _ h => h) (Or.inr ⟨by rfl, rfl⟩) (by assumption) ?_
              simp only [List.getElem_toArray, List.getElem_cons_succ, List.getElem_cons_zero, Act.put, List.setIfInBounds_toArray, List.set_cons_zero, List.set_cons_succ]
              refine wpAnyH_take (i := 20) (oi := _) (v := undef) rfl (by kernel_rfl) (by kernel_rfl) (by kernel_rfl) (fun _ _ _ h => h) (Or.inr ⟨by rfl, rfl⟩) (by assumption) ?_
              simp only [List.getElem_toArray, List.getElem_cons_succ, List.getElem_cons_zero, Act.put, List.setIfInBounds_toArray, List.set_cons_zero, List.set_cons_succ]
              refine wpAnyH_take (i := 21) (oi := _) (v := undef) rfl (by kernel_rfl) (by kernel_rfl) (by kernel_rfl) (fun _ _ _ h => h) (Or.inr ⟨by rfl, rfl⟩) (by assumption) ?_
              simp only [List.getElem_toArray, List.getElem_cons_succ, List.getElem_cons_zero, Act.put, List.setIfInBounds_toArray, List.set_cons_zero, List.set_cons_succ]
              refine wpAnyH_take (i := 22) (oi := _) (v := undef) rfl (by kernel_rfl) (by kernel_rfl) (by kernel_rfl) (fun _ _ _ h => h) (Or.inr ⟨by rfl, rfl⟩) (by assumption) ?_
              simp only [List.getElem_toArray, List.getElem_cons_succ, List.getElem_cons_zero, Act.put, List.setIfInBounds_toArray, List.set_cons_zero, List.set_cons_succ]
              refine wpAnyH_take (i := 23) (oi := _) (v := undef) rfl (by kernel_rfl) (by kernel_rfl) (by kernel_rfl) (fun _ _ _ h => h) (Or.inr ⟨by rfl, rfl⟩) (by assumption) ?_
              simp only [List.getElem_toArray, List.getElem_cons_succ, List.getElem_cons_zero, Act.put, List.setIfInBounds_toArray, List.set_cons_zero, List.set_cons_succ]
              refine wpAnyH_take (i := 24) (oi := _) (v := undef) rfl (by kernel_rfl) (by kernel_rfl) (by kernel_rfl) (fun _ _ _ h => h) (Or.inr ⟨by rfl, rfl⟩) (by assumption) ?_
              simp only [List.getElem_toArray, List.getElem_cons_succ, List.getElem_cons_zero, Act.put, List.setIfInBounds_toArray, List.set_cons_zero, List.set_cons_succ]
              refine wpAnyH_take (i := 25) (oi := _) (v := undef) rfl (by kernel_rfl) (by kernel_rfl) (by kernel_rfl) (fun _ _ _ h => h) (Or.inr ⟨by rfl, rfl⟩) (by assumption) ?_
              simp only [List.getElem_toArray, List.getElem_cons_succ, List.getElem_cons_zero, Act.put, List.setIfInBounds_toArray, List.set_cons_zero, List.set_cons_succ]
              refine wpAnyH_take (i := 26) (oi := _) (v := ?_) rfl (by kernel_rfl) (by kernel_rfl) (by kernel_rfl) (fun _ _ _ h => h) (Or.inl ⟨by rfl, ?_⟩) (by assumption) ?_
              rotate_left
              · intro w hSw
                try dsimp only at hSw
                go_simp
                all_goals with_reducible rfl
              simp only [List.getElem_toArray, List.getElem_cons_succ, List.getElem_cons_zero, Act.put, List.setIfInBounds_toArray, List.set_cons_zero, List.set_cons_succ]
              refine wpAnyH_take (i := 27) (oi := _) (v := ?_) rfl (by kernel_rfl) (by kernel_rfl) (by kernel_rfl) (fun _ _ _ h => h) (Or.inl ⟨by rfl, ?_⟩) (by assumption) ?_
              rotate_left
              · intro w hSw
                try dsimp only at hSw
                go_simp
                all_goals with_reducible rfl
              simp only [List.getElem_toArray, List.getElem_cons_succ, List.getElem_cons_zero, Act.put, List.setIfInBounds_toArray, List.set_cons_zero, List.set_cons_succ]
              refine wpAnyH_done (by kernel_rfl) ?_ _
              obtain ⟨hU2, z0, z1, z2, z3⟩ := hHeld1
              clear hU1
              have hoU := HOW.out.below hU2
              have f0 := hoU.1.frozenAt (i * 3)
              have hst := own_time i ct (by rw [List.length_set, HOL.out]; exact hil) hoU
              rw [HSS.out, List.length_set, HOL.out] at hst
              have hbE : Below w.heap.size w (u1.setCell ⟨g, i * 3, none⟩ (.int .i64 ct)) := (hB.trans (hU2.mono hB.size)).setCell hBg _
              have HST := Lib.hid hst
              clear hst hoU z1 z3
              go_wp2_with fail
              go_roundw
              case rel => exact ⟨j + 1, ct, false, rfl, by go_num, by omega, by rw [HNX.out]; exact HLS.out, HST.out, hbE⟩
              case measure => simp [intOf]; omega
            | false =>
              by_cases hlt : s1 < ct
              · have HLS := Lib.hid (show lstep xs (s1, false) (ct, ys, cn) = (ct, false) by unfold lstep; rw [if_pos ⟨h0, .inr hlt⟩])
                have hdt : decide (s1 < ct) = true := decide_eq_true hlt
                clear h0
                go_wp2_with fail
                refine wp_region_held_drew (S := fun w' : World => Below wo.heap.size wo w' ∧ w'.cell? ⟨b, off + j * 3, none⟩ = some (.int .i64 ct) ∧ w'.cell? ⟨b, off + j * 3 + 1, none⟩ = some (.slice cq ys.length cc) ∧ w'.cell? ⟨g, i * 3, none⟩ = some (.int .i64 s1) ∧ w'.cell? ⟨g, i * 3 + 1, none⟩ = some (.slice xq xs.length xc)) (by kernel_rfl) (HS.out _ (Below.refl _ _).drew) (fun hHeld => ?_)
                refine wpAnyH_take (i := 0) (oi := _) (v := ?_) rfl (by kernel_rfl) (by kernel_rfl) (by kernel_rfl) (fun _ _ _ h => h) (Or.inl ⟨by rfl, ?_⟩) (by assumption) ?_
                rotate_left
                · intro w hSw
                  try dsimp only at hSw
                  go_simp
                  all_goals with_reducible rfl
                simp only [List.getElem_toArray, List.getElem_cons_zero, Act.put, List.setIfInBounds_toArray, List.set_cons_zero, List.set_cons_succ]
                refine wpAnyH_take (i := 1) (oi := _) (v := ?_) rfl (by kernel_rfl) (by kernel_rfl) (by kernel_rfl) (fun _ _ _ h => h) (Or.inl ⟨by rfl, ?_⟩) (by assumption) ?_
                rotate_left
                · intro w hSw
                  try dsimp only at hSw
                  go_simp
                  all_goals with_reducible rfl
                simp only [List.getElem_toArray, List.getElem_cons_succ, List.getElem_cons_zero, Act.put, List.setIfInBounds_toArray, List.set_cons_zero, List.set_cons_succ]
                refine wpAnyH_take (i := 2) (oi := _) (v := ?_) rfl (by kernel_rfl) (by kernel_rfl) (by kernel_rfl) (fun _ _ _ h => h) (Or.inl ⟨by rfl, ?_⟩) (by assumption) ?_
                rotate_left
                · intro w hSw
                  try dsimp only at hSw
                  go_simp
                  all_goals with_reducible rfl
                simp only [List.getElem_toArray, List.getElem_cons_succ, List.getElem_cons_zero, Act.put, List.setIfInBounds_toArray, List.set_cons_zero, List.set_cons_succ]
                refine wpAnyH_take (i := 3) (oi := _) (v := ?_) rfl (by kernel_rfl) (by kernel_rfl) (by kernel_rfl) (fun _ _ _ h => h) (Or.inl ⟨by rfl, ?_⟩) (by assumption) ?_
                rotate_left
                · intro w hSw
                  try dsimp only at hSw
                  go_simp
                  all_goals with_reducible rfl
                simp only [List.getElem_toArray, List.getElem_cons_succ, List.getElem_cons_zero, Act.put, List.setIfInBounds_toArray, List.set_cons_zero, List.set_cons_succ]
                refine wpAnyH_take (i := 4) (oi := _) (v := ?_) rfl (by kernel_rfl) (by kernel_rfl) (by kernel_rfl) (fun _ _ _ h => h) (Or.inl ⟨by rfl, ?_⟩) (by assumption) ?_
                rotate_left
                · intro w hSw
                  try dsimp only at hSw
                  go_simp
                  all_goals with_reducible rfl
                simp only [List.getElem_toArray, List.getElem_cons_succ, List.getElem_cons_zero, Act.put, List.setIfInBounds_toArray, List.set_cons_zero, List.set_cons_succ]
                refine wpAnyH_take (i := 5) (oi := _) (v := ?_) rfl (by kernel_rfl) (by kernel_rfl) (by kernel_rfl) (fun _ _ _ h => h) (Or.inl ⟨by rfl, ?_⟩) (by assumption) ?_
                rotate_left
                · intro w hSw
                  try dsimp only at hSw
                  go_simp
                  all_goals with_reducible rfl
                simp only [List.getElem_toArray, List.getElem_cons_succ, List.getElem_cons_zero, Act.put, List.setIfInBounds_toArray, List.set_cons_zero, List.set_cons_succ]
                refine wpAnyH_take (i := 6) (oi := _) (v := ?_) rfl (by kernel_rfl) (by kernel_rfl) (by kernel_rfl) (fun _ _ _ h => h) (Or.inl ⟨by rfl, ?_⟩) (by assumption) ?_
                rotate_left
                · intro w hSw
                  try dsimp only at hSw
                  go_simp
                  all_goals with_reducible rfl
                simp only [List.getElem_toArray, List.getElem_cons_succ, List.getElem_cons_zero, Act.put, List.setIfInBounds_toArray, List.set_cons_zero, List.set_cons_succ]
                refine wpAnyH_take (i := 7) (oi := _) (v := ?_) rfl (by kernel_rfl) (by kernel_rfl) (by kernel_rfl) (fun _ _ _ h => h) (Or.inl ⟨by rfl, ?_⟩) (by assumption) ?_
                rotate_left
                · intro w hSw
                  try dsimp only at hSw
                  go_simp
                  all_goals with_reducible rfl
                simp only [List.getElem_toArray, List.getElem_cons_succ, List.getElem_cons_zero, Act.put, List.setIfInBounds_toArray, List.set_cons_zero, List.set_cons_succ]
                refine wpAnyH_take (i := 8) (oi := _) (v := ?_) rfl (by kernel_rfl) (by kernel_rfl) (by kernel_rfl) (fun _ _ _ h => h) (Or.inl ⟨by rfl, ?_⟩) (by assumption) ?_
                rotate_left
                · intro w hSw
                  try dsimp only at hSw
                  go_simp
                  all_goals with_reducible rfl
                simp only [List.getElem_toArray, List.getElem_cons_succ, List.getElem_cons_zero, Act.put, List.setIfInBounds_toArray, List.set_cons_zero, List.set_cons_succ]
                refine wpAnyH_take (i := 9) (oi := _) (v := ?_) rfl (by kernel_rfl) (by kernel_rfl) (by kernel_rfl) (fun _ _ _ h => h) (Or.inl ⟨by rfl, ?_⟩) (by assumption) ?_
                rotate_left
                · intro w hSw
                  try dsimp only at hSw
                  go_simp
                  all_goals with_reducible rfl
                simp only [List.getElem_toArray, List.getElem_cons_succ, List.getElem_cons_zero, Act.put, List.setIfInBounds_toArray, List.set_cons_zero, List.set_cons_succ]
                refine wpAnyH_ready (rs := [10]) (by kernel_rfl) (by simp) ?_
                refine AllReadyH.cons (o := _) rfl (fun K hK => ?_) AllReadyH.nil
                go_simp
                refine (HCM.out _ hHeld.1).mono ?_
                rintro e u1 ⟨rfl, kb1⟩
                have hU1 : Below wo.heap.size wo u1 := hHeld.1.trans (kb1.mono hHeld.1.size)
                refine hK.out _ _ (HS.out _ hU1) (fun hHeld1 => ?_)
                clear kb1 hHeld
                clear hK K
                try simp only [List.getElem_toArray, List.getElem_cons_succ, List.getElem_cons_zero, Act.put, List.setIfInBounds_toArray, List.set_cons_zero, List.set_cons_succ]
                refine wpAnyH_take (i := 11) (oi := _) (v := ?_) rfl (by kernel_rfl) (by kernel_rfl) (by kernel_rfl) (fun _ _ _ h => h) (Or.inl ⟨by rfl, ?_⟩) (by assumption) ?_
                rotate_left
                · intro w hSw
                  try dsimp only at hSw
                  go_simp
                  all_goals with_reducible rfl
                simp only [List.getElem_toArray, List.getElem_cons_succ, List.getElem_cons_zero, Act.put, List.setIfInBounds_toArray, List.set_cons_zero, List.set_cons_succ]
                refine wpAnyH_take (i := 12) (oi := _) (v := ?_) rfl (by kernel_rfl) (by kernel_rfl) (by kernel_rfl) (fun _ _ _ h => h) (Or.inl ⟨by rfl, ?_⟩) (by assumption) ?_
                rotate_left
                · intro w hSw
                  try dsimp only at hSw
                  go_simp
                  all_goals with_reducible rfl
                simp only [List.getElem_toArray, List.getElem_cons_succ, List.getElem_cons_zero, Act.put, List.setIfInBounds_toArray, List.set_cons_zero, List.set_cons_succ]
                refine wpAnyH_take (i := 13) (oi := _) (v := ?_) rfl (by kernel_rfl) (by kernel_rfl) (by kernel_rfl) (fun _ _ _ h => h) (Or.inl ⟨by rfl, ?_⟩) (by assumption) ?_
                rotate_left
                · intro w hSw
                  try dsimp only at hSw
                  go_simp
                  all_goals with_reducible rfl
                simp only [List.getElem_toArray, List.getElem_cons_succ, List.getElem_cons_zero, Act.put, List.setIfInBounds_toArray, List.set_cons_zero, List.set_cons_succ]
                refine wpAnyH_take (i := 14) (oi := _) (v := ?_) rfl (by kernel_rfl) (by kernel_rfl) (by kernel_rfl) (fun _ _ _ h => h) (Or.inl ⟨by rfl, ?_⟩) (by assumption) ?_
                rotate_left
                · intro w hSw
                  try dsimp only at hSw
                  go_simp
                  all_goals with_reducible rfl
                simp only [List.getElem_toArray, List.getElem_cons_succ, List.getElem_cons_zero, Act.put, List.setIfInBounds_toArray, List.set_cons_zero, List.set_cons_succ]
                refine wpAnyH_take (i := 15) (oi := _) (v := ?_) rfl (by kernel_rfl) (by kernel_rfl) (by kernel_rfl) (fun _ _ _ h => h) (Or.inl ⟨by rfl, ?_⟩) (by assumption) ?_
                rotate_left
                · intro w hSw
                  try dsimp only at hSw
                  go_simp
                  all_goals with_reducible rfl
                simp only [List.getElem_toArray, List.getElem_cons_succ, List.getElem_cons_zero, Act.put, List.setIfInBounds_toArray, List.set_cons_zero, List.set_cons_succ]
                refine wpAnyH_take (i := 16) (oi := _) (v := ?_) rfl (by kernel_rfl) (by kernel_rfl) (by kernel_rfl) (fun _ _ _ h => h) (Or.inl ⟨by rfl, ?_⟩) (by assumption) ?_
                rotate_left
                · intro w hSw
                  try dsimp only at hSw
                  go_simp
                  all_goals with_reducible rfl
                simp only [List.getElem_toArray, List.getElem_cons_succ, List.getElem_cons_zero, Act.put, List.setIfInBounds_toArray, List.set_cons_zero, List.set_cons_succ]
                refine wpAnyH_take (i := 17) (oi := _) (v := ?_) rfl (by kernel_rfl) (by kernel_rfl) (by kernel_rfl) (fun _ _ _ h => h) (Or.inl ⟨by rfl, ?_⟩) (by assumption) ?_
                rotate_left
                · intro w hSw
                  try dsimp only at hSw
                  go_simp
                  all_goals with_reducible rfl
                simp only [List.getElem_toArray, List.getElem_cons_succ, List.getElem_cons_zero, Act.put, List.setIfInBounds_toArray, List.set_cons_zero, List.set_cons_succ]
                refine wpAnyH_take (i := 18) (oi := _) (v := ?_) rfl (by kernel_rfl) (by kernel_rfl) (by kernel_rfl) (fun _ _ _ h => h) (Or.inl ⟨by rfl, ?_⟩) (by assumption) ?_
                rotate_left
                · intro w hSw
                  try dsimp only at hSw
                  go_simp
                  all_goals with_reducible rfl
                simp only [List.getElem_toArray, List.getElem_cons_succ, List.getElem_cons_zero, Act.put, List.setIfInBounds_toArray, List.set_cons_zero, List.set_cons_succ]
                refine wpAnyH_take (i := 19) (oi := _) (v := ?_) rfl (by kernel_rfl) (by kernel_rfl) (by kernel_rfl) (fun _ _ _ h => h) (Or.inl ⟨by rfl, ?_⟩) (by assumption) ?_
                rotate_left
                · intro w hSw
                  try dsimp only at hSw
                  go_simp
                  all_goals with_reducible rfl
                simp only [List.getElem_toArray, List.getElem_cons_succ, List.getElem_cons_zero, Act.put, List.setIfInBounds_toArray, List.set_cons_zero, List.set_cons_succ]
                refine wpAnyH_take (i := 20) (oi := _) (v := ?_) rfl (by kernel_rfl) (by kernel_rfl) (by kernel_rfl) (fun _ _ _ h => h) (Or.inl ⟨by rfl, ?_⟩) (by assumption) ?_
                rotate_left
                · intro w hSw
                  try dsimp only at hSw
                  go_simp
                  all_goals with_reducible rfl
                simp only [List.getElem_toArray, List.getElem_cons_succ, List.getElem_cons_zero, Act.put, List.setIfInBounds_toArray, List.set_cons_zero, List.set_cons_succ]
                refine wpAnyH_take (i := 21) (oi := _) (v := ?_) rfl (by kernel_rfl) (by kernel_rfl) (by kernel_rfl) (fun _ _ _ h => h) (Or.inl ⟨by rfl, ?_⟩) (by assumption) ?_
                rotate_left
                · intro w hSw
                  try dsimp only at hSw
                  go_simp
                  all_goals with_reducible rfl
                simp only [List.getElem_toArray, List.getElem_cons_succ, List.getElem_cons_zero, Act.put, List.setIfInBounds_toArray, List.set_cons_zero, List.set_cons_succ]
                refine wpAnyH_take (i := 22) (oi := _) (v := ?_) rfl (by kernel_rfl) (by kernel_rfl) (by kernel_rfl) (fun _ _ _ h => h) (Or.inl ⟨by rfl, ?_⟩) (by assumption) ?_
                rotate_left
                · intro w hSw
                  try dsimp only at hSw
                  go_simp
                  all_goals with_reducible rfl
                simp only [List.getElem_toArray, List.getElem_cons_succ, List.getElem_cons_zero, Act.put, List.setIfInBounds_toArray, List.set_cons_zero, List.set_cons_succ]
                refine wpAnyH_take (i := 23) (oi := _) (v := ?_) rfl (by kernel_rfl) (by kernel_rfl) (by kernel_rfl) (fun _ _ _ h => h) (Or.inl ⟨by rfl, ?_⟩) (by assumption) ?_
                rotate_left
                · intro w hSw
                  try dsimp only at hSw
                  go_simp
                  all_goals with_reducible rfl
                simp only [List.getElem_toArray, List.getElem_cons_succ, List.getElem_cons_zero, Act.put, List.setIfInBounds_toArray, List.set_cons_zero, List.set_cons_succ]
                refine wpAnyH_take (i := 24) (oi := _) (v := ?_) rfl (by kernel_rfl) (by kernel_rfl) (by kernel_rfl) (fun _ _ _ h => h) (Or.inl ⟨by rfl, ?_⟩) (by assumption) ?_
                rotate_left
                · intro w hSw
                  try dsimp only at hSw
                  go_simp
                  all_goals with_reducible rfl
                simp only [List.getElem_toArray, List.getElem_cons_succ, List.getElem_cons_zero, Act.put, List.setIfInBounds_toArray, List.set_cons_zero, List.set_cons_succ]
                refine wpAnyH_take (i := 25) (oi := _) (v := ?_) rfl (by kernel_rfl) (by kernel_rfl) (by kernel_rfl) (fun _ _ _ h => h) (Or.inl ⟨by rfl, ?_⟩) (by assumption) ?_
                rotate_left
                · intro w hSw
                  try dsimp only at hSw
                  go_simp
                  all_goals with_reducible rfl
                simp only [List.getElem_toArray, List.getElem_cons_succ, List.getElem_cons_zero, Act.put, List.setIfInBounds_toArray, List.set_cons_zero, List.set_cons_succ]
                refine wpAnyH_take (i := 26) (oi := _) (v := ?_) rfl (by kernel_rfl) (by kernel_rfl) (by kernel_rfl) (fun _ _ _ h => h) (Or.inl ⟨by rfl, ?_⟩) (by assumption) ?_
                rotate_left
                · intro w hSw
                  try dsimp only at hSw
                  go_simp
                  all_goals with_reducible rfl
                simp only [List.getElem_toArray, List.getElem_cons_succ, List.getElem_cons_zero, Act.put, List.setIfInBounds_toArray, List.set_cons_zero, List.set_cons_succ]
                refine wpAnyH_take (i := 27) (oi := _) (v := ?_) rfl (by kernel_rfl) (by kernel_rfl) (by kernel_rfl) (fun _ _ _ h => h) (Or.inl ⟨by rfl, ?_⟩) (by assumption) ?_
                rotate_left
                · intro w hSw
                  try dsimp only at hSw
                  go_simp
                  all_goals with_reducible rfl
                simp only [List.getElem_toArray, List.getElem_cons_succ, List.getElem_cons_zero, Act.put, List.setIfInBounds_toArray, List.set_cons_zero, List.set_cons_succ]
                refine wpAnyH_done (by kernel_rfl) ?_ _
                obtain ⟨hU2, z0, z1, z2, z3⟩ := hHeld1
                clear hU1
                have hoU := HOW.out.below hU2
                have f0 := hoU.1.frozenAt (i * 3)
                have hst := own_time i ct (by rw [List.length_set, HOL.out]; exact hil) hoU
                rw [HSS.out, List.length_set, HOL.out] at hst
                have hbE : Below w.heap.size w (u1.setCell ⟨g, i * 3, none⟩ (.int .i64 ct)) := (hB.trans (hU2.mono hB.size)).setCell hBg _
                have HST := Lib.hid hst
                clear hst hoU z1 z3
                go_wp2_with fail
                go_roundw
                case rel => exact ⟨j + 1, ct, false, rfl, by go_num, by omega, by rw [HNX.out]; exact HLS.out, HST.out, hbE⟩
                case measure => simp [intOf]; omega
              · have HLS := Lib.hid (show lstep xs (s1, false) (ct, ys, cn) = (s1, false) by unfold lstep; rw [if_neg (fun h => by rcases h.2 with h | h; exact absurd h (by simp); exact hlt h)])
                have hdt : decide (s1 < ct) = false := decide_eq_false hlt
                clear h0
                go_wp2_with fail
                refine wp_region_held_drew (S := fun w' : World => Below wo.heap.size wo w' ∧ w'.cell? ⟨b, off + j * 3, none⟩ = some (.int .i64 ct) ∧ w'.cell? ⟨b, off + j * 3 + 1, none⟩ = some (.slice cq ys.length cc) ∧ w'.cell? ⟨g, i * 3, none⟩ = some (.int .i64 s1) ∧ w'.cell? ⟨g, i * 3 + 1, none⟩ = some (.slice xq xs.length xc)) (by kernel_rfl) (HS.out _ (Below.refl _ _).drew) (fun hHeld => ?_)
                refine wpAnyH_take (i := 0) (oi := _) (v := ?_) rfl (by kernel_rfl) (by kernel_rfl) (by kernel_rfl) (fun _ _ _ h => h) (Or.inl ⟨by rfl, ?_⟩) (by assumption) ?_
                rotate_left
                · intro w hSw
                  try dsimp only at hSw
                  go_simp
                  all_goals with_reducible rfl
                simp only [List.getElem_toArray, List.getElem_cons_zero, Act.put, List.setIfInBounds_toArray, List.set_cons_zero, List.set_cons_succ]
                refine wpAnyH_take (i := 1) (oi := _) (v := ?_) rfl (by kernel_rfl) (by kernel_rfl) (by kernel_rfl) (fun _ _ _ h => h) (Or.inl ⟨by rfl, ?_⟩) (by assumption) ?_
                rotate_left
                · intro w hSw
                  try dsimp only at hSw
                  go_simp
                  all_goals with_reducible rfl
                simp only [List.getElem_toArray, List.getElem_cons_succ, List.getElem_cons_zero, Act.put, List.setIfInBounds_toArray, List.set_cons_zero, List.set_cons_succ]
                refine wpAnyH_take (i := 2) (oi := _) (v := ?_) rfl (by kernel_rfl) (by kernel_rfl) (by kernel_rfl) (fun _ _ _ h => h) (Or.inl ⟨by rfl, ?_⟩) (by assumption) ?_
                rotate_left
                · intro w hSw
                  try dsimp only at hSw
                  go_simp
                  all_goals with_reducible rfl
                simp only [List.getElem_toArray, List.getElem_cons_succ, List.getElem_cons_zero, Act.put, List.setIfInBounds_toArray, List.set_cons_zero, List.set_cons_succ]
                refine wpAnyH_take (i := 3) (oi := _) (v := ?_) rfl (by kernel_rfl) (by kernel_rfl) (by kernel_rfl) (fun _ _ _ h => h) (Or.inl ⟨by rfl, ?_⟩) (by assumption) ?_
                rotate_left
                · intro w hSw
                  try dsimp only at hSw
                  go_simp
                  all_goals with_reducible rfl
                simp only [List.getElem_toArray, List.getElem_cons_succ, List.getElem_cons_zero, Act.put, List.setIfInBounds_toArray, List.set_cons_zero, List.set_cons_succ]
                refine wpAnyH_take (i := 4) (oi := _) (v := ?_) rfl (by kernel_rfl) (by kernel_rfl) (by kernel_rfl) (fun _ _ _ h => h) (Or.inl ⟨by rfl, ?_⟩) (by assumption) ?_
                rotate_left
                · intro w hSw
                  try dsimp only at hSw
                  go_simp
                  all_goals with_reducible rfl
                simp only [List.getElem_toArray, List.getElem_cons_succ, List.getElem_cons_zero, Act.put, List.setIfInBounds_toArray, List.set_cons_zero, List.set_cons_succ]
                refine wpAnyH_take (i := 5) (oi := _) (v := ?_) rfl (by kernel_rfl) (by kernel_rfl) (by kernel_rfl) (fun _ _ _ h => h) (Or.inl ⟨by rfl, ?_⟩) (by assumption) ?_
                rotate_left
                · intro w hSw
                  try dsimp only at hSw
                  go_simp
                  all_goals with_reducible rfl
                simp only [List.getElem_toArray, List.getElem_cons_succ, List.getElem_cons_zero, Act.put, List.setIfInBounds_toArray, List.set_cons_zero, List.set_cons_succ]
                refine wpAnyH_take (i := 6) (oi := _) (v := ?_) rfl (by kernel_rfl) (by kernel_rfl) (by kernel_rfl) (fun _ _ _ h => h) (Or.inl ⟨by rfl, ?_⟩) (by assumption) ?_
                rotate_left
                · intro w hSw
                  try dsimp only at hSw
                  go_simp
                  all_goals with_reducible rfl
                simp only [List.getElem_toArray, List.getElem_cons_succ, List.getElem_cons_zero, Act.put, List.setIfInBounds_toArray, List.set_cons_zero, List.set_cons_succ]
                refine wpAnyH_take (i := 7) (oi := _) (v := ?_) rfl (by kernel_rfl) (by kernel_rfl) (by kernel_rfl) (fun _ _ _ h => h) (Or.inl ⟨by rfl, ?_⟩) (by assumption) ?_
                rotate_left
                · intro w hSw
                  try dsimp only at hSw
                  go_simp
                  all_goals with_reducible rfl
                simp only [List.getElem_toArray, List.getElem_cons_succ, List.getElem_cons_zero, Act.put, List.setIfInBounds_toArray, List.set_cons_zero, List.set_cons_succ]
                refine wpAnyH_take (i := 8) (oi := _) (v := ?_) rfl (by kernel_rfl) (by kernel_rfl) (by kernel_rfl) (fun _ _ _ h => h) (Or.inl ⟨by rfl, ?_⟩) (by assumption) ?_
                rotate_left
                · intro w hSw
                  try dsimp only at hSw
                  go_simp
                  all_goals with_reducible rfl
                simp only [List.getElem_toArray, List.getElem_cons_succ, List.getElem_cons_zero, Act.put, List.setIfInBounds_toArray, List.set_cons_zero, List.set_cons_succ]
                refine wpAnyH_take (i := 9) (oi := _) (v := ?_) rfl (by kernel_rfl) (by kernel_rfl) (by kernel_rfl) (fun _ _ _ h => h) (Or.inl ⟨by rfl, ?_⟩) (by assumption) ?_
                rotate_left
                · intro w hSw
                  try dsimp only at hSw
                  go_simp
                  all_goals with_reducible rfl
                simp only [List.getElem_toArray, List.getElem_cons_succ, List.getElem_cons_zero, Act.put, List.setIfInBounds_toArray, List.set_cons_zero, List.set_cons_succ]
                refine wpAnyH_ready (rs := [10]) (by kernel_rfl) (by simp) ?_
                refine AllReadyH.cons (o := _) rfl (fun K hK => ?_) AllReadyH.nil
                go_simp
                refine (HCM.out _ hHeld.1).mono ?_
                rintro e u1 ⟨rfl, kb1⟩
                have hU1 : Below wo.heap.size wo u1 := hHeld.1.trans (kb1.mono hHeld.1.size)
                refine hK.out _ _ (HS.out _ hU1) (fun hHeld1 => ?_)
                clear kb1 hHeld
                clear hK K
                try simp only [List.getElem_toArray, List.getElem_cons_succ, List.getElem_cons_zero, Act.put, List.setIfInBounds_toArray, List.set_cons_zero, List.set_cons_succ]
                refine wpAnyH_take (i := 11) (oi := _) (v := ?_) rfl (by kernel_rfl) (by kernel_rfl) (by kernel_rfl) (fun _ _ _ h => h) (Or.inl ⟨by rfl, ?_⟩) (by assumption) ?_
                rotate_left
                · intro w hSw
                  try dsimp only at hSw
                  go_simp
                  all_goals with_reducible rfl
                simp only [List.getElem_toArray, List.getElem_cons_succ, List.getElem_cons_zero, Act.put, List.setIfInBounds_toArray, List.set_cons_zero, List.set_cons_succ]
                refine wpAnyH_take (i := 12) (oi := _) (v := ?_) rfl (by kernel_rfl) (by kernel_rfl) (by kernel_rfl) (fun _ _ _ h => h) (Or.inl ⟨by rfl, ?_⟩) (by assumption) ?_
                rotate_left
                · intro w hSw
                  try dsimp only at hSw
                  go_simp
                  all_goals with_reducible rfl
                simp only [List.getElem_toArray, List.getElem_cons_succ, List.getElem_cons_zero, Act.put, List.setIfInBounds_toArray, List.set_cons_zero, List.set_cons_succ]
                refine wpAnyH_take (i := 13) (oi := _) (v := ?_) rfl (by kernel_rfl) (by kernel_rfl) (by kernel_rfl) (fun _ _ _ h => h) (Or.inl ⟨by rfl, ?_⟩) (by assumption) ?_
                rotate_left
                · intro w hSw
                  try dsimp only at hSw
                  go_simp
                  all_goals with_reducible rfl
                simp only [List.getElem_toArray, List.getElem_cons_succ, List.getElem_cons_zero, Act.put, List.setIfInBounds_toArray, List.set_cons_zero, List.set_cons_succ]
                refine wpAnyH_take (i := 14) (oi := _) (v := ?_) rfl (by kernel_rfl) (by kernel_rfl) (by kernel_rfl) (fun _ _ _ h => h) (Or.inl ⟨by rfl, ?_⟩) (by assumption) ?_
                rotate_left
                · intro w hSw
                  try dsimp only at hSw
                  go_simp
                  all_goals with_reducible rfl
                simp only [List.getElem_toArray, List.getElem_cons_succ, List.getElem_cons_zero, Act.put, List.setIfInBounds_toArray, List.set_cons_zero, List.set_cons_succ]
                refine wpAnyH_take (i := 15) (oi := _) (v := ?_) rfl (by kernel_rfl) (by kernel_rfl) (by kernel_rfl) (fun _ _ _ h => h) (Or.inl ⟨by rfl, ?_⟩) (by assumption) ?_
                rotate_left
                · intro w hSw
                  try dsimp only at hSw
                  go_simp
                  all_goals with_reducible rfl
                simp only [List.getElem_toArray, List.getElem_cons_succ, List.getElem_cons_zero, Act.put, List.setIfInBounds_toArray, List.set_cons_zero, List.set_cons_succ]
                refine wpAnyH_take (i := 16) (oi := _) (v := ?_) rfl (by kernel_rfl) (by kernel_rfl) (by kernel_rfl) (fun _ _ _ h => h) (Or.inl ⟨by rfl, ?_⟩) (by assumption) ?_
                rotate_left
                · intro w hSw
                  try dsimp only at hSw
                  go_simp
                  all_goals with_reducible rfl
                simp only [List.getElem_toArray, List.getElem_cons_succ, List.getElem_cons_zero, Act.put, List.setIfInBounds_toArray, List.set_cons_zero, List.set_cons_succ]
                refine wpAnyH_take (i := 17) (oi := _) (v := ?_) rfl (by kernel_rfl) (by kernel_rfl) (by kernel_rfl) (fun _ _ _ h => h) (Or.inl ⟨by rfl, ?_⟩) (by assumption) ?_
                rotate_left
                · intro w hSw
                  try dsimp only at hSw
                  go_simp
                  all_goals with_reducible rfl
                simp only [List.getElem_toArray, List.getElem_cons_succ, List.getElem_cons_zero, Act.put, List.setIfInBounds_toArray, List.set_cons_zero, List.set_cons_succ]
                refine wpAnyH_take (i := 18) (oi := _) (v := ?_) rfl (by kernel_rfl) (by kernel_rfl) (by kernel_rfl) (fun _ _ _ h => h) (Or.inl ⟨by rfl, ?_⟩) (by assumption) ?_
                rotate_left
                · intro w hSw
                  try dsimp only at hSw
                  go_simp
                  all_goals with_reducible rfl
                simp only [List.getElem_toArray, List.getElem_cons_succ, List.getElem_cons_zero, Act.put, List.setIfInBounds_toArray, List.set_cons_zero, List.set_cons_succ]
                refine wpAnyH_take (i := 19) (oi := _) (v := ?_) rfl (by kernel_rfl) (by kernel_rfl) (by kernel_rfl) (fun _ _ _ h => h) (Or.inl ⟨by rfl, ?_⟩) (by assumption) ?_
                rotate_left
                · intro w hSw
                  try dsimp only at hSw
                  go_simp
                  all_goals with_reducible rfl
                simp only [List.getElem_toArray, List.getElem_cons_succ, List.getElem_cons_zero, Act.put, List.setIfInBounds_toArray, List.set_cons_zero, List.set_cons_succ]
                refine wpAnyH_take (i := 20) (oi := _) (v := ?_) rfl (by kernel_rfl) (by kernel_rfl) (by kernel_rfl) (fun _ _ _ h => h) (Or.inl ⟨by rfl, ?_⟩) (by assumption) ?_
                rotate_left
                · intro w hSw
                  try dsimp only at hSw
                  go_simp
                  all_goals with_reducible rfl
                simp only [List.getElem_toArray, List.getElem_cons_succ, List.getElem_cons_zero, Act.put, List.setIfInBounds_toArray, List.set_cons_zero, List.set_cons_succ]
                refine wpAnyH_take (i := 21) (oi := _) (v := ?_) rfl (by kernel_rfl) (by kernel_rfl) (by kernel_rfl) (fun _ _ _ h => h) (Or.inl ⟨by rfl, ?_⟩) (by assumption) ?_
                rotate_left
                · intro w hSw
                  try dsimp only at hSw
                  go_simp
                  all_goals with_reducible rfl
                simp only [List.getElem_toArray, List.getElem_cons_succ, List.getElem_cons_zero, Act.put, List.setIfInBounds_toArray, List.set_cons_zero, List.set_cons_succ]
                refine wpAnyH_take (i := 22) (oi := _) (v := ?_) rfl (by kernel_rfl) (by kernel_rfl) (by kernel_rfl) (fun _ _ _ h => h) (Or.inl ⟨by rfl, ?_⟩) (by assumption) ?_
                rotate_left
                · intro w hSw
                  try dsimp only at hSw
                  go_simp
                  all_goals with_reducible rfl
                simp only [List.getElem_toArray, List.getElem_cons_succ, List.getElem_cons_zero, Act.put, List.setIfInBounds_toArray, List.set_cons_zero, List.set_cons_succ]
                refine wpAnyH_take (i := 23) (oi := _) (v := ?_) rfl (by kernel_rfl) (by kernel_rfl) (by kernel_rfl) (fun _ _ _ h => h) (Or.inl ⟨by rfl, ?_⟩) (by assumption) ?_
                rotate_left
                · intro w hSw
                  try dsimp only at hSw
                  go_simp
                  all_goals with_reducible rfl
                simp only [List.getElem_toArray, List.getElem_cons_succ, List.getElem_cons_zero, Act.put, List.setIfInBounds_toArray, List.set_cons_zero, List.set_cons_succ]
                refine wpAnyH_take (i := 24) (oi := _) (v := ?_) rfl (by kernel_rfl) (by kernel_rfl) (by kernel_rfl) (fun _ _ _ h => h) (Or.inl ⟨by rfl, ?_⟩) (by assumption) ?_
                rotate_left
                · intro w hSw
                  try dsimp only at hSw
                  go_simp
                  all_goals with_reducible rfl
                simp only [List.getElem_toArray, List.getElem_cons_succ, List.getElem_cons_zero, Act.put, List.setIfInBounds_toArray, List.set_cons_zero, List.set_cons_succ]
                refine wpAnyH_take (i := 25) (oi := _) (v := ?_) rfl (by kernel_rfl) (by kernel_rfl) (by kernel_rfl) (fun _ _ _ h => h) (Or.inl ⟨by rfl, ?_⟩) (by assumption) ?_
                rotate_left
                · intro w hSw
                  try dsimp only at hSw
                  go_simp
                  all_goals with_reducible rfl
                simp only [List.getElem_toArray, List.getElem_cons_succ, List.getElem_cons_zero, Act.put, List.setIfInBounds_toArray, List.set_cons_zero, List.set_cons_succ]
                refine wpAnyH_take (i := 26) (oi := _) (v := ?_) rfl (by kernel_rfl) (by kernel_rfl) (by kernel_rfl) (fun _ _ _ h => h) (Or.inl ⟨by rfl, ?_⟩) (by assumption) ?_
                rotate_left
                · intro w hSw
                  try dsimp only at hSw
                  go_simp
                  all_goals with_reducible rfl
                simp only [List.getElem_toArray, List.getElem_cons_succ, List.getElem_cons_zero, Act.put, List.setIfInBounds_toArray, List.set_cons_zero, List.set_cons_succ]
                refine wpAnyH_take (i := 27) (oi := _) (v := ?_) rfl (by kernel_rfl) (by kernel_rfl) (by kernel_rfl) (fun _ _ _ h => h) (Or.inl ⟨by rfl, ?_⟩) (by assumption) ?_
                rotate_left
                · intro w hSw
                  try dsimp only at hSw
                  go_simp
                  all_goals with_reducible rfl
                simp only [List.getElem_toArray, List.getElem_cons_succ, List.getElem_cons_zero, Act.put, List.setIfInBounds_toArray, List.set_cons_zero, List.set_cons_succ]
                refine wpAnyH_done (by kernel_rfl) ?_ _
                obtain ⟨hU2, z0, z1, z2, z3⟩ := hHeld1
                clear hU1
                have hoU := HOW.out.below hU2
                rw [List.length_set, HOL.out] at hoU
                have hbE : Below w.heap.size w u1 := hB.trans (hU2.mono hB.size)
                have HOU := Lib.hid hoU
                clear hoU z0 z1 z2 z3
                go_wp2_with fail
                go_roundw
                case rel => exact ⟨j + 1, s1, false, rfl, by go_num, by omega, by rw [HNX.out]; exact HLS.out, HOU.out, hbE⟩
                case measure => simp [intOf]; omega
          · have hq : (cmpRow ys xs == 0) = false := beq_eq_false_iff_ne.2 h0
            have HLS := Lib.hid (show lstep xs (s1, s2) (ct, ys, cn) = (s1, s2) by unfold lstep; rw [if_neg (fun h => h0 h.1)])
            generalize cmpRow ys xs = v at hcm hq
            have HCM := Lib.hid hcm
            clear hcm h0
            go_wp2_with fail
            refine wp_region_held_drew (S := fun w' : World => Below wo.heap.size wo w' ∧ w'.cell? ⟨b, off + j * 3, none⟩ = some (.int .i64 ct) ∧ w'.cell? ⟨b, off + j * 3 + 1, none⟩ = some (.slice cq ys.length cc) ∧ w'.cell? ⟨g, i * 3, none⟩ = some (.int .i64 s1) ∧ w'.cell? ⟨g, i * 3 + 1, none⟩ = some (.slice xq xs.length xc)) (by kernel_rfl) (HS.out _ (Below.refl _ _).drew) (fun hHeld => ?_)
            refine wpAnyH_take (i := 0) (oi := _) (v := ?_) rfl (by kernel_rfl) (by kernel_rfl) (by kernel_rfl) (fun _ _ _ h => h) (Or.inl ⟨by rfl, ?_⟩) (by assumption) ?_
            rotate_left
            · intro w hSw
              try dsimp only at hSw
              go_simp
              all_goals with_reducible rfl
            simp only [List.getElem_toArray, List.getElem_cons_zero, Act.put, List.setIfInBounds_toArray, List.set_cons_zero, List.set_cons_succ]
            refine wpAnyH_take (i := 1) (oi := _) (v := ?_) rfl (by kernel_rfl) (by kernel_rfl) (by kernel_rfl) (fun _ _ _ h => h) (Or.inl ⟨by rfl, ?_⟩) (by assumption) ?_
            rotate_left
            · intro w hSw
              try dsimp only at hSw
              go_simp
              all_goals with_reducible rfl
            simp only [List.getElem_toArray, List.getElem_cons_succ, List.getElem_cons_zero, Act.put, List.setIfInBounds_toArray, List.set_cons_zero, List.set_cons_succ]
            refine wpAnyH_take (i := 2) (oi := _) (v := ?_) rfl (by kernel_rfl) (by kernel_rfl) (by kernel_rfl) (fun _ _ _ h => h) (Or.inl ⟨by rfl, ?_⟩) (by assumption) ?_
            rotate_left
            · intro w hSw
              try dsimp only at hSw
              go_simp
              all_goals with_reducible rfl
            simp only [List.getElem_toArray, List.getElem_cons_succ, List.getElem_cons_zero, Act.put, List.setIfInBounds_toArray, List.set_cons_zero, List.set_cons_succ]
            refine wpAnyH_take (i := 3) (oi := _) (v := ?_) rfl (by kernel_rfl) (by kernel_rfl) (by kernel_rfl) (fun _ _ _ h => h) (Or.inl ⟨by rfl, ?_⟩) (by assumption) ?_
            rotate_left
            · intro w hSw
              try dsimp only at hSw
              go_simp
              all_goals with_reducible rfl
            simp only [List.getElem_toArray, List.getElem_cons_succ, List.getElem_cons_zero, Act.put, List.setIfInBounds_toArray, List.set_cons_zero, List.set_cons_succ]
            refine wpAnyH_take (i := 4) (oi := _) (v := ?_) rfl (by kernel_rfl) (by kernel_rfl) (by kernel_rfl) (fun _ _ _ h => h) (Or.inl ⟨by rfl, ?_⟩) (by assumption) ?_
            rotate_left
            · intro w hSw
              try dsimp only at hSw
              go_simp
              all_goals with_reducible rfl
            simp only [List.getElem_toArray, List.getElem_cons_succ, List.getElem_cons_zero, Act.put, List.setIfInBounds_toArray, List.set_cons_zero, List.set_cons_succ]
            refine wpAnyH_take (i := 5) (oi := _) (v := ?_) rfl (by kernel_rfl) (by kernel_rfl) (by kernel_rfl) (fun _ _ _ h => h) (Or.inl ⟨by rfl, ?_⟩) (by assumption) ?_
            rotate_left
            · intro w hSw
              try dsimp only at hSw
              go_simp
              all_goals with_reducible rfl
            simp only [List.getElem_toArray, List.getElem_cons_succ, List.getElem_cons_zero, Act.put, List.setIfInBounds_toArray, List.set_cons_zero, List.set_cons_succ]
            refine wpAnyH_take (i := 6) (oi := _) (v := ?_) rfl (by kernel_rfl) (by kernel_rfl) (by kernel_rfl) (fun _ _ _ h => h) (Or.inl ⟨by rfl, ?_⟩) (by assumption) ?_
            rotate_left
            · intro w hSw
              try dsimp only at hSw
              go_simp
              all_goals with_reducible rfl
            simp only [List.getElem_toArray, List.getElem_cons_succ, List.getElem_cons_zero, Act.put, List.setIfInBounds_toArray, List.set_cons_zero, List.set_cons_succ]
            refine wpAnyH_take (i := 7) (oi := _) (v := ?_) rfl (by kernel_rfl) (by kernel_rfl) (by kernel_rfl) (fun _ _ _ h => h) (Or.inl ⟨by rfl, ?_⟩) (by assumption) ?_
            rotate_left
            · intro w hSw
              try dsimp only at hSw
              go_simp
              all_goals with_reducible rfl
            simp only [List.getElem_toArray, List.getElem_cons_succ, List.getElem_cons_zero, Act.put, List.setIfInBounds_toArray, List.set_cons_zero, List.set_cons_succ]
            refine wpAnyH_take (i := 8) (oi := _) (v := ?_) rfl (by kernel_rfl) (by kernel_rfl) (by kernel_rfl) (fun _ _ _ h => h) (Or.inl ⟨by rfl, ?_⟩) (by assumption) ?_
            rotate_left
            · intro w hSw
              try dsimp only at hSw
              go_simp
              all_goals with_reducible rfl
            simp only [List.getElem_toArray, List.getElem_cons_succ, List.getElem_cons_zero, Act.put, List.setIfInBounds_toArray, List.set_cons_zero, List.set_cons_succ]
            refine wpAnyH_take (i := 9) (oi := _) (v := ?_) rfl (by kernel_rfl) (by kernel_rfl) (by kernel_rfl) (fun _ _ _ h => h) (Or.inl ⟨by rfl, ?_⟩) (by assumption) ?_
            rotate_left
            · intro w hSw
              try dsimp only at hSw
              go_simp
              all_goals with_reducible rfl
            simp only [List.getElem_toArray, List.getElem_cons_succ, List.getElem_cons_zero, Act.put, List.setIfInBounds_toArray, List.set_cons_zero, List.set_cons_succ]
            refine wpAnyH_ready (rs := [10]) (by kernel_rfl) (by simp) ?_
            refine AllReadyH.cons (o := _) rfl (fun K hK => ?_) AllReadyH.nil
            go_simp
            refine (HCM.out _ hHeld.1).mono ?_
            rintro e u1 ⟨rfl, kb1⟩
            have hU1 : Below wo.heap.size wo u1 := hHeld.1.trans (kb1.mono hHeld.1.size)
            refine hK.out _ _ (HS.out _ hU1) (fun hHeld1 => ?_)
            clear kb1 hHeld
            clear hK K
            try simp only [List.getElem_toArray, List.getElem_cons_succ, List.getElem_cons_zero, Act.put, List.setIfInBounds_toArray, List.set_cons_zero, List.set_cons_succ]
            refine wpAnyH_take (i := 11) (oi := _) (v := ?_) rfl (by kernel_rfl) (by kernel_rfl) (by kernel_rfl) (fun _ _ _ h => h) (Or.inl ⟨by rfl, ?_⟩) (by assumption) ?_
            rotate_left
            · intro w hSw
              try dsimp only at hSw
              go_simp
              all_goals with_reducible rfl
            simp only [List.getElem_toArray, List.getElem_cons_succ, List.getElem_cons_zero, Act.put, List.setIfInBounds_toArray, List.set_cons_zero, List.set_cons_succ]
            refine wpAnyH_take (i := 12) (oi := _) (v := ?_) rfl (by kernel_rfl) (by kernel_rfl) (by kernel_rfl) (fun _ _ _ h => h) (Or.inl ⟨by rfl, ?_⟩) (by assumption) ?_
            rotate_left
            · intro w hSw
              try dsimp only at hSw
              go_simp
              all_goals with_reducible rfl
            simp only [List.getElem_toArray, List.getElem_cons_succ, List.getElem_cons_zero, Act.put, List.setIfInBounds_toArray, List.set_cons_zero, List.set_cons_succ]
            refine wpAnyH_take (i := 13) (oi := _) (v := undef) rfl (by kernel_rfl) (by kernel_rfl) (by kernel_rfl) (fun _ _ _ h => h) (Or.inr ⟨by rfl, rfl⟩) (by assumption) ?_
            simp only [List.getElem_toArray, List.getElem_cons_succ, List.getElem_cons_zero, Act.put, List.setIfInBounds_toArray, List.set_cons_zero, List.set_cons_succ]
            refine wpAnyH_take (i := 14) (oi := _) (v := undef) rfl (by kernel_rfl) (by kernel_rfl) (by kernel_rfl) (fun _ _ _ h => h) (Or.inr ⟨by rfl, rfl⟩) (by assumption) ?_
            simp only [List.getElem_toArray, List.getElem_cons_succ, List.getElem_cons_zero, Act.put, List.setIfInBounds_toArray, List.set_cons_zero, List.set_cons_succ]
            refine wpAnyH_take (i := 15) (oi := _) (v := undef) rfl (by kernel_rfl) (by kernel_rfl) (by kernel_rfl) (fun _ _ _ h => h) (Or.inr ⟨by rfl, rfl⟩) (by assumption) ?_
            simp only [List.getElem_toArray, List.getElem_cons_succ, List.getElem_cons_zero, Act.put, List.setIfInBounds_toArray, List.set_cons_zero, List.set_cons_succ]
            refine wpAnyH_take (i := 16) (oi := _) (v := undef) rfl (by kernel_rfl) (by kernel_rfl) (by kernel_rfl) (fun _ _ _ h => h) (Or.inr ⟨by rfl, rfl⟩) (by assumption) ?_
            simp only [List.getElem_toArray, List.getElem_cons_succ, List.getElem_cons_zero, Act.put, List.setIfInBounds_toArray, List.set_cons_zero, List.set_cons_succ]
            refine wpAnyH_take (i := 17) (oi := _) (v := undef) rfl (by kernel_rfl) (by kernel_rfl) (by kernel_rfl) (fun _ _ _ h => h) (Or.inr ⟨by rfl, rfl⟩) (by assumption) ?_
            simp only [List.getElem_toArray, List.getElem_cons_succ, List.getElem_cons_zero, Act.put, List.setIfInBounds_toArray, List.set_cons_zero, List.set_cons_succ]
            refine wpAnyH_take (i := 18) (oi := _) (v := undef) rfl (by kernel_rfl) (by kernel_rfl) (by kernel_rfl) (fun _ _ _ h => h) (Or.inr ⟨by rfl, rfl⟩) (by assumption) ?_
            simp only [List.getElem_toArray, List.getElem_cons_succ, List.getElem_cons_zero, Act.put, List.setIfInBounds_toArray, List.set_cons_zero, List.set_cons_succ]
            refine wpAnyH_take (i := 19) (oi := _) (v := undef) rfl (by kernel_rfl) (by kernel_rfl) (by kernel_rfl) (fun _ _ _ h => h) (Or.inr ⟨by rfl, rfl⟩) (by assumption) ?_
            simp only [List.getElem_toArray, List.getElem_cons_succ, List.getElem_cons_zero, Act.put, List.setIfInBounds_toArray, List.set_cons_zero, List.set_cons_succ]
            refine wpAnyH_take (i := 20) (oi := _) (v := undef) rfl (by kernel_rfl) (by kernel_rfl) (by kernel_rfl) (fun _ _ _ h => h) (Or.inr ⟨by rfl, rfl⟩) (by assumption) ?_
            simp only [List.getElem_toArray, List.getElem_cons_succ, List.getElem_cons_zero, Act.put, List.setIfInBounds_toArray, List.set_cons_zero, List.set_cons_succ]
            refine wpAnyH_take (i := 21) (oi := _) (v := undef) rfl (by kernel_rfl) (by kernel_rfl) (by kernel_rfl) (fun _ _ _ h => h) (Or.inr ⟨by rfl, rfl⟩) (by assumption) ?_
            simp only [List.getElem_toArray, List.getElem_cons_succ, List.getElem_cons_zero, Act.put, List.setIfInBounds_toArray, List.set_cons_zero, List.set_cons_succ]
            refine wpAnyH_take (i := 22) (oi := _) (v := undef) rfl (by kernel_rfl) (by kernel_rfl) (by kernel_rfl) (fun _ _ _ h => h) (Or.inr ⟨by rfl, rfl⟩) (by assumption) ?_
            simp only [List.getElem_toArray, List.getElem_cons_succ, List.getElem_cons_zero, Act.put, List.setIfInBounds_toArray, List.set_cons_zero, List.set_cons_succ]
            refine wpAnyH_take (i := 23) (oi := _) (v := undef) rfl (by kernel_rfl) (by kernel_rfl) (by kernel_rfl) (fun _ _ _ h => h) (Or.inr ⟨by rfl, rfl⟩) (by assumption) ?_
            simp only [List.getElem_toArray, List.getElem_cons_succ, List.getElem_cons_zero, Act.put, List.setIfInBounds_toArray, List.set_cons_zero, List.set_cons_succ]
            refine wpAnyH_take (i := 24) (oi := _) (v := undef) rfl (by kernel_rfl) (by kernel_rfl) (by kernel_rfl) (fun _ _ _ h => h) (Or.inr ⟨by rfl, rfl⟩) (by assumption) ?_
            simp only [List.getElem_toArray, List.getElem_cons_succ, List.getElem_cons_zero, Act.put, List.setIfInBounds_toArray, List.set_cons_zero, List.set_cons_succ]
            refine wpAnyH_take (i := 25) (oi := _) (v := undef) rfl (by kernel_rfl) (by kernel_rfl) (by kernel_rfl) (fun _ _ _ h => h) (Or.inr ⟨by rfl, rfl⟩) (by assumption) ?_
            simp only [List.getElem_toArray, List.getElem_cons_succ, List.getElem_cons_zero, Act.put, List.setIfInBounds_toArray, List.set_cons_zero, List.set_cons_succ]
            refine wpAnyH_take (i := 26) (oi := _) (v := undef) rfl (by kernel_rfl) (by kernel_rfl) (by kernel_rfl) (fun _ _ _ h => h) (Or.inr ⟨by rfl, rfl⟩) (by assumption) ?_
            simp only [List.getElem_toArray, List.getElem_cons_succ, List.getElem_cons_zero, Act.put, List.setIfInBounds_toArray, List.set_cons_zero, List.set_cons_succ]
            refine wpAnyH_take (i := 27) (oi := _) (v := ?_) rfl (by kernel_rfl) (by kernel_rfl) (by kernel_rfl) (fun _ _ _ h => h) (Or.inl ⟨by rfl, ?_⟩) (by assumption) ?_
            rotate_left
            · intro w hSw
              try dsimp only at hSw
              go_simp
              all_goals with_reducible rfl
            simp only [List.getElem_toArray, List.getElem_cons_succ, List.getElem_cons_zero, Act.put, List.setIfInBounds_toArray, List.set_cons_zero, List.set_cons_succ]
            refine wpAnyH_done (by kernel_rfl) ?_ _
            obtain ⟨hU2, z0, z1, z2, z3⟩ := hHeld1
            clear hU1
            have hoU := HOW.out.below hU2
            rw [List.length_set, HOL.out] at hoU
            have hbE : Below w.heap.size w u1 := hB.trans (hU2.mono hB.size)
            have HOU := Lib.hid hoU
            clear hoU z0 z1 z2 z3
            go_wp2_with fail
            go_roundw
            case rel => exact ⟨j + 1, s1, s2, rfl, by go_num, by omega, by rw [HNX.out]; exact HLS.out, HOU.out, hbE⟩
            case measure => simp [intOf]; omega
        · have hge : (rs.length : Int) ≤ (j : Int) := by omega
          have hje : j = rs.length := by omega
          have hl : lastF (cvals rs) xs = (s1, s2) := by have := hls.out; rwa [hje, ← cvals_len rs, List.take_length] at this
          have hT := HN2.out
          rw [hl] at hT
          have HT2 := Lib.hid hT
          have HOW := Lib.hid how
          clear hje hl hT hls how
          go_wp2_with fail
          go_roundw
          case rel => exact ⟨i + 1, os.set i (s1, (xq, xs, xc), xn), by go_num, by omega, (by show _ = _; rw [List.length_set]; exact HOL.out), HOW.out, HI2.out s1, HT2.out, HL2.out s1, hB⟩
          case measure => simp [intOf]; omega
    · have hge : (n4 : Int) ≤ (i : Int) := by omega
      have hie : i = n4 := by omega
      have hd := htm.out
      rw [hie, ← hol.out] at hd
      have hd2 := hd.done
      rw [hits.out] at hd2
      have HD := Lib.hid hd2
      have hci : ChgIn wr p4 os := OwnChgs.chg (cap := c4) (by rw [hol.out]; exact how) fun r hr => by have := hlen.out r hr; omega
      have HCI := Lib.hid hci
      clear hie hd hd2 hci how htm hits
      go_wp2_with fail
      go_ret2
      exact ⟨p4, os, c4, by rw [hol.out] <;> rfl, HD.out, by rw [hol.out]; exact hoc4, by rw [hol.out]; exact hol4, HCI.out, hB⟩

set_option maxRecDepth 100000 in
set_option maxHeartbeats 1000000 in
theorem refNetted_any (p : Option Addr) (rs : List ChR) (c : Nat) (hm : rs.length ≤ 9223372036854775807) (w : World) (hX : ChgIn w p rs) :
    Calls Tryz.prog 18 #[.slice p rs.length c] w (ChgPost w (netVal (cvals rs)) (netErr (cvals rs))) := by
  have h1 := refVCs_any p rs c hm w hX
  cases hv : validCs (cvals rs) with
  | false =>
    have e1 : netErr (cvals rs) = 1 := by unfold netErr; rw [hv]; rfl
    have e2 : netVal (cvals rs) = [] := by unfold netVal; rw [hv, if_neg (fun h => absurd h.1 (by decide))]
    rw [e1, e2]
    rw [hv] at h1
    have H1 := Lib.hid h1
    clear h1 hv e1 e2 hX
    go_enter Tryz.func18, Tryz.ntmps18
    go_wp2_with fail
    refine H1.out.mono ?_
    rintro e w1 ⟨rfl, hb1⟩
    go_wp2_with fail
    go_ret2
    exact chgPost_nil hb1
  | true =>
    have hm4 : rs.length ≤ 400 := by have := (validCs_iff.1 hv).1; rwa [cvals_len] at this
    cases hb : validBag (after [] (its (cvals rs))) with
    | true =>
      have e1 : netErr (cvals rs) = 0 := by unfold netErr; rw [if_pos hv, hb]; rfl
      have e2 : netVal (cvals rs) = stampL (cvals rs) (after [] (its (cvals rs))) := by unfold netVal; rw [if_pos ⟨hv, hb⟩]
      rw [e1, e2]
      exact refNetted_yes p rs c hm4 w hX hv hb
    | false =>
      have e1 : netErr (cvals rs) = 4 := by unfold netErr; rw [if_pos hv, hb]; rfl
      have e2 : netVal (cvals rs) = [] := by unfold netVal; rw [hb, if_neg (fun h => absurd h.2 (by decide))]
      rw [e1, e2]
      rw [hv] at h1
      have h2 := fun W (h : Below w.heap.size w W) => After_any none p [] rs 0 c (by simp) (by simp) W (fun h => absurd h (by simp)) (fun _ => rfl) (hX.belowV h) nil_asc (fun x hx => by cases hx) hv
      have H1 := Lib.hid h1
      have H2 := Lib.hid h2
      have HB := Lib.hid hb
      clear h1 h2 hv hX e1 e2 hb
      rw [show vals ([] : List ItR) = [] from rfl] at H2
      generalize after [] (its (cvals rs)) = A at *
      go_enter Tryz.func18, Tryz.ntmps18
      go_wp2_with fail
      refine H1.out.mono ?_
      rintro e w1 ⟨rfl, hb1⟩
      go_wp2_with fail
      refine (H2.out _ hb1).mono ?_
      rintro e w2 ⟨p3, os3, c3, rfl, hv3, hoc3, hol3, hi3, _, hb3⟩
      have hB2 : Below w.heap.size w w2 := hb1.trans (hb3.mono hb1.size)
      have hbv := refBagValid_any p3 os3 c3 (by omega) w2 hi3
      rw [hv3, HB.out] at hbv
      have HBV := Lib.hid hbv
      clear hbv hv3 hi3 hb3 hb1 H1 H2
      go_wp2_with fail
      refine HBV.out.mono ?_
      rintro e w3 ⟨rfl, hb4⟩
      go_wp2_with fail
      go_ret2
      exact chgPost_nil (hB2.trans (hb4.mono hB2.size))
end Go.Proofs.YthoimepdioeckaaGreatDoor

/-!
  FewChanges, as a contract; an argument that is a list of changes, opened.
-/
namespace Go.Proofs.YthoimepdioeckaaGreatDoor
open Go.ChangeShapes Go.WideShapes Go.ChangeAt Go.RowKit Go.Deep

set_option maxRecDepth 100000 in
set_option maxHeartbeats 1000000 in
theorem FewCs_any (p : Option Addr) (cs : List ChR) (c : Nat) (hm : cs.length ≤ 9223372036854775807) (w : World) (hX : ChgIn w p cs) :
    Calls Tryz.prog 9 #[.slice p cs.length c] w (AnyBool w) := by
  have HX := Lib.hid hX
  clear hX
  go_enter Tryz.func9, Tryz.ntmps9
  go_wp2_with fail
  go_loopw [3] (fun s wr => ∃ i : Nat, s = .int .i64 i ∧ i ≤ cs.length ∧ Below w.heap.size w wr) (fun s _ => cs.length - (intOf s).toNat)
  case atStart => exact ⟨0, rfl, by omega, Below.refl _ _⟩
  case round =>
    obtain ⟨i, rfl, hi, hBw⟩ := hrel
    by_cases hlt : i < cs.length
    · obtain ⟨b, off, rfl, hbl, hra⟩ := HX.out (by omega)
      obtain ⟨_, d0, _, d2, _⟩ := (hra.belowV hBw hbl) i hlt
      have hi0 : (0 : Int) ≤ (i : Int) := by omega
      have hi1 : (i : Int) < (cs.length : Int) := by omega
      clear hra
      generalize cs[i]?.getD cr0 = r at d0 d2
      obtain ⟨t, ⟨q, xs, qc⟩, n⟩ := r
      dsimp only [rowv] at *
      have hbA : Below wr.heap.size wr (wr.alloc (.cells #[.slice q xs.length qc] 38)) := (Below.refl _ _).alloc (Nat.le_refl _) _
      have HL := Lib.hid (Long_any (some ⟨wr.heap.size, 0, none⟩) [(q, xs, qc)] 1 (by simp) (wr.alloc (.cells #[.slice q xs.length qc] 38)) (fun _ => ⟨wr.heap.size, 0, rfl, by simp, fun j hj => by
        have hj0 : j = 0 := by simp at hj; omega
        subst hj0
        exact ⟨(Blk.new wr 38 #[.slice q xs.length qc]).cell 0, d2.1, (d2.belowV hbA).2⟩⟩))
      have hBs := hBw.size
      have hBA : Below w.heap.size w (wr.alloc (.cells #[.slice q xs.length qc] 38)) := hBw.trans (hbA.mono hBs)
      clear d2
      go_wp2_with fail
      refine HL.out.mono ?_
      rintro e w1 ⟨bl, rfl, rfl⟩
      cases bl with
      | true =>
        go_wp2_with fail
        go_ret
        exact ⟨false, rfl, hBA⟩
      | false =>
        go_wp2_with fail
        go_roundw
        case rel => exact ⟨i + 1, by go_num, by omega, hBA⟩
        case measure => simp [intOf]; omega
    · have hge : (cs.length : Int) ≤ (i : Int) := by omega
      go_wp2_with fail
      go_ret
      exact ⟨_, rfl, hBw⟩

abbrev ChsV := Option Addr × List ChR × Nat
def chsv (b : ChsV) : Value := .slice b.1 b.2.1.length b.2.2
def ChsOK (W : World) (b : ChsV) : Prop := b.2.1.length ≤ 9223372036854775807 ∧ b.2.1.length ≤ b.2.2 ∧ ChgIn W b.1 b.2.1
theorem ChsOK.belowV {W W' : World} {b : ChsV} (h : ChsOK W b) (hb : Below W.heap.size W W') : ChsOK W' b := ⟨h.1, h.2.1, h.2.2.belowV hb⟩
set_option maxRecDepth 100000 in
theorem open_chgs {H : Type} {enc : TypeId × Value → H} {W : World} {fuel : Nat} {cs : List Value} {x : DataW H × List MemPlace}
    (h : DataW.trod enc Tryz.prog W 0 (fun _ => true) true fuel 24 cs = some x) : ∃ b : ChsV, cs = [chsv b] ∧ ChsOK W b ∧ (b.1 = none → b.2.2 = 0) := by
  rcases open_slice Tryz.underlying24 h with ⟨rfl, _⟩ | ⟨a, len, cap, m, n, D, Pl, rfl, _, hlc, hcm, hm, _, hi⟩
  · exact ⟨(none, [], 0), rfl, ⟨by simp, by simp, fun h => absurd h (by simp)⟩, fun _ => rfl⟩
  · rw [if_pos rfl] at hm
    subst hm
    have ce : Tryz.prog.cellsOf 40 = 3 := by kernel_rfl
    have each : ∀ i, i < len → ∃ q : ChR, W.cell? (a.add (i * 3)) = some (.int .i64 q.1) ∧ W.cell? (a.add (i * 3 + 1)) = some (rowv q.2.1) ∧ W.cell? (a.add (i * 3 + 2)) = some (.int .i64 q.2.2) ∧ RowOK W q.2.1 ∧ (q.2.1.1 = none → q.2.1.2.2 = 0) := fun i hil => by
      obtain ⟨cs', h1, h2⟩ := hi i (by omega)
      rw [ce] at h1
      obtain ⟨_, hlen, hcell⟩ := World.cells?_some h1
      obtain ⟨ys, k, hk, _, _, hyl, hf⟩ := DataW.trod_struct Tryz.underlying40 h2
      match ys, hyl, cs', hlen with
      | [y0, y1, y2], _, [c0, c1, c2], _ =>
        have cI : Tryz.prog.cellsOf 3 = 1 := by kernel_rfl
        have cR : Tryz.prog.cellsOf 38 = 1 := by kernel_rfl
        have g0 : DataW.trod enc Tryz.prog W 0 (fun _ => true) true k 3 (([c0, c1, c2].drop 0).take (Tryz.prog.cellsOf 3)) = some y0 := hf 0 _ rfl
        have g1 : DataW.trod enc Tryz.prog W 0 (fun _ => true) true k 38 (([c0, c1, c2].drop 1).take (Tryz.prog.cellsOf 38)) = some y1 := hf 1 _ rfl
        have g2 : DataW.trod enc Tryz.prog W 0 (fun _ => true) true k 3 (([c0, c1, c2].drop 2).take (Tryz.prog.cellsOf 3)) = some y2 := hf 2 _ rfl
        rw [cR] at g1
        rw [cI] at g0 g2
        simp only [List.drop_zero, List.take_succ_cons, List.take_zero, List.drop_succ_cons] at g0 g1 g2
        obtain ⟨n0, e0, _, _⟩ := DataW.trod_int Tryz.underlying3 g0
        obtain ⟨r, e1, hrl, hrv, hrz, _⟩ := open_vals g1
        obtain ⟨n2, e2, _, _⟩ := DataW.trod_int Tryz.underlying3 g2
        simp only [List.cons.injEq, and_true] at e0 e1 e2
        have d0 := hcell 0 (by omega)
        have d1 := hcell 1 (by omega)
        have d2 := hcell 2 (by omega)
        rw [add_of_add] at d0 d1 d2
        subst e0 e1 e2
        exact ⟨(n0, r, n2), by simpa using d0, by simpa using d1, by simpa using d2, ⟨Nat.le_trans hrl (by decide), hrv⟩, hrz⟩
    obtain ⟨q, hq⟩ := choose_lt each
    have hl : ((List.range len).map q).length = len := by simp
    refine ⟨(some a, (List.range len).map q, m), by simp [chsv], ⟨by simp; unfold maxLen at *; omega, by simp; omega, fun hp => ?_⟩, fun e => by cases e⟩
    · dsimp only at hp ⊢
      rw [hl] at hp
      obtain ⟨b, off, spot⟩ := a
      have h00 := (hq 0 hp).1
      have hspot : spot = none := by simpa [Addr.add] using World.cell?_spot h00
      subst hspot
      have e0 := (hq 0 hp).1
      rw [add_plain] at e0
      refine ⟨b, off, rfl, World.block_lt_of_cell? W _ e0, fun i hil => ?_⟩
      rw [hl] at hil
      obtain ⟨c0, c1, c2, c3, c4⟩ := hq i hil
      rw [add_plain] at c0 c1 c2
      have : ((List.range len).map q)[i]?.getD cr0 = q i := by simp [hil]
      rw [this]
      exact ⟨c0, by rw [← Nat.add_assoc] at c1; exact c1, by rw [← Nat.add_assoc] at c2; exact c2, c3, c4⟩
set_option maxRecDepth 100000 in
theorem open_changes {H : Type} {enc : TypeId × Value → H} {W : World} {base : Nat} {v : Value} {d : DataW H} {ps : List MemPlace} (hval : Value.okWide Tryz.prog W .any base 24 v)
    (h : DataW.Trod enc Tryz.prog W 0 (fun _ => true) true 24 v d ps) : ∃ b : ChsV, v = chsv b ∧ ChsOK W b ∧ (b.1 = none → b.2.2 = 0) := by
  obtain ⟨a, len, cap, rfl⟩ := okWide_slice Tryz.underlying24 hval
  obtain ⟨fuel, hf⟩ := h
  obtain ⟨b, hb, hok⟩ := open_chgs hf
  simp only [Value.cells, List.cons.injEq, and_true] at hb
  exact ⟨b, hb, hok⟩
end Go.Proofs.YthoimepdioeckaaGreatDoor

