/-
  The document's Put: a row put into items that ascend, so many times; as a contract.
-/
import Derived.Test.YthoimepdioeckaaGreatDoorOwnI
import Derived.Deep.RegionHeld3
import Derived.Deep.AppendLies
namespace Go.Proofs.YthoimepdioeckaaGreatDoor
open Go.RowKit

def big (n : Int) : Prop := -1000000000000000 ≤ n ∧ n ≤ 1000000000000000
def PutPost (w : World) (l : List It) (m : Nat) (e : Ending) (w' : World) : Prop := ∃ (p : Option Addr) (os : List ItR) (cap : Nat), e = .returned (.slice p os.length cap) ∧ vals os = l ∧ os.length ≤ cap ∧ os.length ≤ m ∧ ItemsIn w' p os ∧ (p = none → cap = 0) ∧ Below w.heap.size w w'
theorem vals_cons {rs : List ItR} {i : Nat} (h : i < rs.length) : (vals rs).drop i = ((rs[i]?.getD ir0).1.2.1, (rs[i]?.getD ir0).2) :: (vals rs).drop (i + 1) := by
  rw [List.drop_eq_getElem_cons (by rw [vals_len]; exact h)]
  have := vals_get rs i
  rw [List.getElem?_eq_getElem (by rw [vals_len]; exact h)] at this
  rw [Option.getD_some] at this
  rw [this]; rfl
theorem put_at {l : List It} {xs : List Val} {xn : Int} {ys : List Val} {n : Int} :
    (cmpRow ys xs < 0 → put ((xs, xn) :: l) ys n = if n = 0 then (xs, xn) :: l else (ys, n) :: (xs, xn) :: l) ∧ (cmpRow ys xs = 0 → put ((xs, xn) :: l) ys n = if xn + n = 0 then l else (ys, xn + n) :: l) ∧ (0 < cmpRow ys xs → put ((xs, xn) :: l) ys n = (xs, xn) :: put l ys n) := by
  refine ⟨fun h => ?_, fun h => ?_, fun h => ?_⟩
  · rw [put, if_pos h]
  · rw [put, if_neg (by show ¬ cmpRow ys xs < 0; omega), if_pos h]
  · rw [put, if_neg (by show ¬ cmpRow ys xs < 0; omega), if_neg (by show ¬ cmpRow ys xs = 0; omega)]

def DoneB (dd : Bool) (ys : List Val) (rs : List ItR) (i : Nat) : Prop := dd = true → ∀ k, i ≤ k → k < rs.length → cmpRow ys (rs[k]?.getD ir0).1.2.1 < 0
def PutB (dd : Bool) (os rs : List ItR) (i : Nat) (ys : List Val) (n : Int) : Prop := vals os ++ (if dd = true then (vals rs).drop i else put ((vals rs).drop i) ys n) = put (vals rs) ys n
def LenB (dd : Bool) (os : List ItR) (i : Nat) : Prop := os.length ≤ i + (if dd = true then 1 else 0)
theorem lenB_mk {dd : Bool} {os : List ItR} {i : Nat} (h : os.length ≤ i + (if dd = true then 1 else 0)) : LenB dd os i := h
set_option maxRecDepth 100000 in
set_option maxHeartbeats 8000000 in
theorem Put_any (p q : Option Addr) (rs : List ItR) (cap : Nat) (ys : List Val) (c : Nat) (n : Int) (hm : rs.length ≤ 100000) (hup : Up (vals rs)) (hbig : ∀ r ∈ rs, big r.2) (hn : big n) (hlx : ∀ r ∈ rs, r.1.2.1.length ≤ 100000) (hly : ys.length ≤ 100000) (w : World) (hX : ItemsIn w p rs) (hY : ValsIn w q ys) (hz : q = none → c = 0) :
    Calls Tryz.prog 58 #[.slice p rs.length cap, .slice q ys.length c, .int .i64 n] w (PutPost w (put (vals rs) ys n) (rs.length + 1)) := by
  obtain ⟨i0, hii, hz0, hz1, hz2⟩ := info_parts infoI
  have HX := Lib.hid hX
  have HUP := Lib.hid hup
  have HBG := Lib.hid hbig
  have HLX := Lib.hid hlx
  have HOY := Lib.hid fun W (h : Below w.heap.size w W) => Own_any q ys c hly W (hY.belowV h) hz
  have HYV := Lib.hid hY
  obtain ⟨hn1, hn2⟩ := hn
  clear hX hup hbig hlx hY hz
  go_enter Tryz.func58, Tryz.ntmps58
  go_wp2_with fail
  go_loopw [7, 8, 9, 10] (fun o dn s _ wr => ∃ (i : Nat) (os : List ItR) (dd : Bool), s = .int .i64 i ∧ dn = .bool dd ∧ i ≤ rs.length ∧ OwnItems wr w.heap.size o os ∧ PutB dd os rs i ys n ∧ DoneB dd ys rs i ∧ LenB dd os i ∧ Hid (∀ r ∈ os, r.1.2.1.length ≤ 100000) ∧ Below w.heap.size w wr)
    (fun _ _ s _ _ => rs.length - (intOf s).toNat)
  case atStart => exact ⟨0, [], false, rfl, rfl, Nat.zero_le _, OwnItems.nil _ _, (by simp [PutB, vals]), (by intro h; cases h), (by simp [LenB]), (by simp [Hid]), Below.refl _ _⟩
  case round =>
    obtain ⟨i, os, dd, rfl, rfl, hi, hos, hput, hdone, hosl, hlen, hB⟩ := hrel
    have HOW := Lib.hid hos
    have HBW := Lib.hid hB
    have hBs := hB.size
    by_cases hlt : i < rs.length
    · obtain ⟨b, off, rfl, hbl, hra⟩ := HX.out (by omega)
      have hra0 := hra
      obtain ⟨c0, c1, c2, c3⟩ := (hra.belowV hB hbl) i hlt
      have hi0 : (0 : Int) ≤ (i : Int) := by omega
      have hi1 : (i : Int) < (rs.length : Int) := by omega
      have hmem : rs[i]?.getD ir0 ∈ rs := by rw [List.getElem?_eq_getElem hlt]; exact List.getElem_mem hlt
      have hxb := HBG.out _ hmem
      have hxl := HLX.out _ hmem
      have hvc := vals_cons hlt
      have hdn := fun h => hdone h i (Nat.le_refl _) hlt
      have hup2 : ∀ k, i < k → k < rs.length → cmpRow (rs[i]?.getD ir0).1.2.1 (rs[k]?.getD ir0).1.2.1 < 0 := fun k hk hkl => by
        have := List.pairwise_iff_getElem.1 HUP.out i k (by rw [vals_len]; exact hlt) (by rw [vals_len]; exact hkl) hk
        have e1 := vals_get rs i
        have e2 := vals_get rs k
        rw [List.getElem?_eq_getElem (by rw [vals_len]; exact hlt), Option.getD_some] at e1
        rw [List.getElem?_eq_getElem (by rw [vals_len]; exact hkl), Option.getD_some] at e2
        unfold ltI at this
        rw [e1, e2] at this
        exact this
      have HDK := Lib.hid hdone
      have E2 := hra0 i hlt
      clear hra hmem hdone hra0
      generalize (rs[i]?.getD ir0) = x at *
      obtain ⟨⟨xq, xs, xc⟩, xn⟩ := x
      dsimp only [rowv] at c0 c1 c2 c3 hxb hxl hvc hdn hup2 E2
      have E0 := Lib.hid E2.1
      have E1 := Lib.hid E2.2.1
      have C2 := Lib.hid E2.2.2.1
      clear E2
      obtain ⟨hx1, hx2⟩ := hxb
      have HUP2 := Lib.hid hup2
      unfold PutB at hput
      rw [hvc] at hput
      have HPUT := Lib.hid hput
      clear hput hup2 hvc
      have hcm := fun W (h : Below w.heap.size w W) => refCompare_any q xq ys xs c xc (by omega) (by omega) W (HYV.out.belowV h)
      have HCM := Lib.hid (refCompare_any q xq ys xs c xc (by omega) (by omega) wr (HYV.out.belowV hB) c2.2)
      have hbk : Below w.heap.size w wr := hB
      have hS : ∀ w' : World, Below w.heap.size w w' → Below w.heap.size w w' → True := fun _ _ _ => trivial
      clear hcm hS
      have HS := Lib.hid (show ∀ w' : World, Below w.heap.size w w' → (Below w.heap.size w w' ∧ w'.cell? ⟨b, off + i * 2, none⟩ = some (.slice xq xs.length xc) ∧ w'.cell? ⟨b, off + i * 2 + 1, none⟩ = some (.int .i64 xn)) from fun w' hb => ⟨hb, (hb.cell (p := ⟨b, off + i * 2, none⟩) hbl).trans E0.out, (hb.cell (p := ⟨b, off + i * 2 + 1, none⟩) hbl).trans E1.out⟩)
      have HOX := Lib.hid fun W (h : Below w.heap.size w W) => Own_any xq xs xc hxl W (C2.out.belowV h).2 c3
      clear c2
      generalize hcv : cmpRow ys xs = cv at *
      have HCV := Lib.hid hcv
      have HPA := Lib.hid (@put_at ((vals rs).drop (i + 1)) xs xn ys n)
      rw [hcv] at HPA
      clear hcv
      cases dd with
      | true =>
        have hneg : cv < 0 := hdn rfl
        have hne : (cv == 0) = false := by rw [beq_eq_false_iff_ne]; omega
        have hosl2 : os.length ≤ i + 1 := by simpa [LenB] using hosl
        clear hdn hosl hos hB hbk
        go_wp2_with fail
        refine HCM.out.mono ?_
        rintro e u ⟨rfl, kb⟩
        have HOW := Lib.hid (HOW.out.below kb)
        have HBW := Lib.hid (HBW.out.trans (kb.mono hBs))
        have hBu := HBW.out.size
        have c0 := (kb.cell (p := ⟨b, off + i * 2, none⟩) (Nat.lt_of_lt_of_le hbl hBs)).trans c0
        have c1 := (kb.cell (p := ⟨b, off + i * 2 + 1, none⟩) (Nat.lt_of_lt_of_le hbl hBs)).trans c1
        clear kb HCM
        go_wp2_with fail
        refine wp_region_held_drew (S := fun w' : World => Below w.heap.size w w' ∧ w'.cell? ⟨b, off + i * 2, none⟩ = some (.slice xq xs.length xc) ∧ w'.cell? ⟨b, off + i * 2 + 1, none⟩ = some (.int .i64 xn)) (by kernel_rfl) (HS.out _ HBW.out.drew) (fun hHeld => ?_)
        have hOW := HOW.out.below ((Below.refl _ _).drew)
        refine wpAnyH_take (i := 0) (oi := _) (v := ?_) rfl (by kernel_rfl) (by kernel_rfl) (by kernel_rfl) (fun _ _ _ h => h) (Or.inl ⟨by rfl, ?_⟩) (by assumption) ?_
        rotate_left
        · intro w hSw
          try dsimp only at hSw
          go_simp
          all_goals with_reducible rfl
        simp only [List.getElem_toArray, List.getElem_cons_succ, List.getElem_cons_zero, Act.put, List.setIfInBounds_toArray, List.set_cons_zero, List.set_cons_succ]
        refine wpAnyH_take (i := 1) (oi := _) (v := ?_) rfl (by kernel_rfl) (by kernel_rfl) (by kernel_rfl) (fun _ _ _ h => h) (Or.inl ⟨by rfl, ?_⟩) (by assumption) ?_
        rotate_left
        · intro w hSw
          try dsimp only at hSw
          go_simp
          all_goals with_reducible rfl
        simp only [List.getElem_toArray, List.getElem_cons_succ, List.getElem_cons_zero, Act.put, List.setIfInBounds_toArray, List.set_cons_zero, List.set_cons_succ]
        refine wpAnyH_take (i := 2) (oi := _) (v := ?_) rfl (by kernel_rfl) (by kernel_rfl) (by kernel_rfl) (fun _ _ _ h => h) (Or.inl ⟨by rfl, ?_⟩) (by assumption) ?_
        rotate_left
        · intro w hSw
          try dsimp only at hSw
          go_simp
          all_goals with_reducible rfl
        simp only [List.getElem_toArray, List.getElem_cons_succ, List.getElem_cons_zero, Act.put, List.setIfInBounds_toArray, List.set_cons_zero, List.set_cons_succ]
        refine wpAnyH_take (i := 3) (oi := _) (v := ?_) rfl (by kernel_rfl) (by kernel_rfl) (by kernel_rfl) (fun _ _ _ h => h) (Or.inl ⟨by rfl, ?_⟩) (by assumption) ?_
        rotate_left
        · intro w hSw
          try dsimp only at hSw
          go_simp
          all_goals with_reducible rfl
        simp only [List.getElem_toArray, List.getElem_cons_succ, List.getElem_cons_zero, Act.put, List.setIfInBounds_toArray, List.set_cons_zero, List.set_cons_succ]
        refine wpAnyH_take (i := 4) (oi := _) (v := ?_) rfl (by kernel_rfl) (by kernel_rfl) (by kernel_rfl) (fun _ _ _ h => h) (Or.inl ⟨by rfl, ?_⟩) (by assumption) ?_
        rotate_left
        · intro w hSw
          try dsimp only at hSw
          go_simp
          all_goals with_reducible rfl
        simp only [List.getElem_toArray, List.getElem_cons_succ, List.getElem_cons_zero, Act.put, List.setIfInBounds_toArray, List.set_cons_zero, List.set_cons_succ]
        refine wpAnyH_take (i := 5) (oi := _) (v := ?_) rfl (by kernel_rfl) (by kernel_rfl) (by kernel_rfl) (fun _ _ _ h => h) (Or.inl ⟨by rfl, ?_⟩) (by assumption) ?_
        rotate_left
        · intro w hSw
          try dsimp only at hSw
          go_simp
          all_goals with_reducible rfl
        simp only [List.getElem_toArray, List.getElem_cons_succ, List.getElem_cons_zero, Act.put, List.setIfInBounds_toArray, List.set_cons_zero, List.set_cons_succ]
        refine wpAnyH_take (i := 7) (oi := _) (v := ?_) rfl (by kernel_rfl) (by kernel_rfl) (by kernel_rfl) (fun _ _ _ h => h) (Or.inl ⟨by rfl, ?_⟩) (by assumption) ?_
        rotate_left
        · intro w hSw
          try dsimp only at hSw
          go_simp
          all_goals with_reducible rfl
        simp only [List.getElem_toArray, List.getElem_cons_succ, List.getElem_cons_zero, Act.put, List.setIfInBounds_toArray, List.set_cons_zero, List.set_cons_succ]
        refine wpAnyH_take (i := 8) (oi := _) (v := ?_) rfl (by kernel_rfl) (by kernel_rfl) (by kernel_rfl) (fun _ _ _ h => h) (Or.inl ⟨by rfl, ?_⟩) (by assumption) ?_
        rotate_left
        · intro w hSw
          try dsimp only at hSw
          go_simp
          all_goals with_reducible rfl
        simp only [List.getElem_toArray, List.getElem_cons_succ, List.getElem_cons_zero, Act.put, List.setIfInBounds_toArray, List.set_cons_zero, List.set_cons_succ]
        refine wpAnyH_take (i := 9) (oi := _) (v := ?_) rfl (by kernel_rfl) (by kernel_rfl) (by kernel_rfl) (fun _ _ _ h => h) (Or.inl ⟨by rfl, ?_⟩) (by assumption) ?_
        rotate_left
        · intro w hSw
          try dsimp only at hSw
          go_simp
          all_goals with_reducible rfl
        simp only [List.getElem_toArray, List.getElem_cons_succ, List.getElem_cons_zero, Act.put, List.setIfInBounds_toArray, List.set_cons_zero, List.set_cons_succ]
        refine wpAnyH_take (i := 10) (oi := _) (v := ?_) rfl (by kernel_rfl) (by kernel_rfl) (by kernel_rfl) (fun _ _ _ h => h) (Or.inl ⟨by rfl, ?_⟩) (by assumption) ?_
        rotate_left
        · intro w hSw
          try dsimp only at hSw
          go_simp
          all_goals with_reducible rfl
        simp only [List.getElem_toArray, List.getElem_cons_succ, List.getElem_cons_zero, Act.put, List.setIfInBounds_toArray, List.set_cons_zero, List.set_cons_succ]
        refine wpAnyH_take (i := 11) (oi := _) (v := ?_) rfl (by kernel_rfl) (by kernel_rfl) (by kernel_rfl) (fun _ _ _ h => h) (Or.inl ⟨by rfl, ?_⟩) (by assumption) ?_
        rotate_left
        · intro w hSw
          try dsimp only at hSw
          go_simp
          all_goals with_reducible rfl
        simp only [List.getElem_toArray, List.getElem_cons_succ, List.getElem_cons_zero, Act.put, List.setIfInBounds_toArray, List.set_cons_zero, List.set_cons_succ]
        refine wpAnyH_ready (rs := [6]) (by kernel_rfl) (by simp) ?_
        refine AllReadyH.cons (o := _) rfl (fun K hK => ?_) AllReadyH.nil
        go_simp
        refine (HOX.out _ hHeld.1).mono ?_
        rintro e u1 ⟨⟨rq, rx, rc⟩, rfl, hrx, hown1, kb1⟩
        dsimp only [rowv] at hrx hown1 ⊢
        have hrx := hrx.symm
        subst hrx
        have hU1 : Below w.heap.size w u1 := hHeld.1.trans (kb1.mono hHeld.1.size)
        have hO1 := hOW.below kb1
        have hW1 := ownsRow_base hown1 hHeld.1.size
        refine hK.out _ _ (HS.out _ hU1) (fun hHeld1 => ?_)
        clear kb1 hown1 hHeld
        clear hK K
        try simp only [List.getElem_toArray, List.getElem_cons_succ, List.getElem_cons_zero, Act.put, List.setIfInBounds_toArray, List.set_cons_zero, List.set_cons_succ]
        refine wpAnyH_take (i := 12) (oi := _) (v := ?_) rfl (by kernel_rfl) (by kernel_rfl) (by kernel_rfl) (fun _ _ _ h => h) (Or.inl ⟨by rfl, ?_⟩) (by assumption) ?_
        rotate_left
        · intro w hSw
          try dsimp only at hSw
          go_simp
          all_goals with_reducible rfl
        simp only [List.getElem_toArray, List.getElem_cons_succ, List.getElem_cons_zero, Act.put, List.setIfInBounds_toArray, List.set_cons_zero, List.set_cons_succ]
        refine wpAnyH_ready (rs := [13]) (by kernel_rfl) (by simp) ?_
        refine AllReadyH.cons (o := _) rfl (fun K hK => ?_) AllReadyH.nil
        go_simp
        refine hK.out _ _ (HS.out _ (hU1.alloc hU1.size _)) (fun hHeld2 => ?_)
        clear hHeld1
        clear hK K
        try simp only [List.getElem_toArray, List.getElem_cons_succ, List.getElem_cons_zero, Act.put, List.setIfInBounds_toArray, List.set_cons_zero, List.set_cons_succ]
        refine wpAnyH_ready (rs := [14]) (by kernel_rfl) (by simp) ?_
        refine AllReadyH.cons (o := _) rfl (fun K hK => ?_) AllReadyH.nil
        refine step_append_lies _ rfl _ _ 23 rfl w.heap.size 60 i0 (.agg #[.slice none 0 0, .int .i64 0]) 2 32 Tryz.underlying23 hii hz0 hz1 hz2 rfl (by decide) _ _ _ rfl (hO1.1.alloc _) ⟨u1.heap.size, 0, none⟩ 1 1 (cellsI ((rq, xs, rc), xn)) rfl rfl (cells_new _ _ _) (by simp [cellsI, rowv, Value.oneCell']) (by decide) (by unfold maxLen; omega) (by omega) (by have := hU1.size; simp; omega) (u1.heap.size + 1) (by simp) ?_
        intro g' cap' w5 hown' hgrow hor hlt5
        have hO5 := hO1.appended (x := ((rq, xs, rc), xn)) hW1 hown' hgrow
        have hB5 : Below w.heap.size w w5 := (hU1.alloc hU1.size _).grown hgrow (by have := hU1.size; simp; omega) (fun k e => (hO1.1.lt k e).1)
        refine hK.out _ _ (HS.out _ hB5) (fun hHeld3 => ?_)
        clear hK K hown' hgrow hor hlt5 hHeld2 hO1 hW1 hU1
        try simp only [List.getElem_toArray, List.getElem_cons_succ, List.getElem_cons_zero, Act.put, List.setIfInBounds_toArray, List.set_cons_zero, List.set_cons_succ]
        refine wpAnyH_take (i := 15) (oi := _) (v := ?_) rfl (by kernel_rfl) (by kernel_rfl) (by kernel_rfl) (fun _ _ _ h => h) (Or.inl ⟨by rfl, ?_⟩) (by assumption) ?_
        rotate_left
        · intro w hSw
          try dsimp only at hSw
          go_simp
          all_goals with_reducible rfl
        simp only [List.getElem_toArray, List.getElem_cons_succ, List.getElem_cons_zero, Act.put, List.setIfInBounds_toArray, List.set_cons_zero, List.set_cons_succ]
        refine wpAnyH_done (by kernel_rfl) ?_ _
        have HP2 : PutB true (os ++ [((rq, xs, rc), xn)]) rs (i + 1) ys n := by
          unfold PutB
          rw [← HPUT.out]
          rw [vals_app, List.append_assoc]; rfl
        have HD2 : DoneB true ys rs (i + 1) := (fun _ k hk hkl => HDK.out (by first | rfl | trivial) k (by omega) hkl)
        have HL2 : Hid (∀ r ∈ os ++ [((rq, xs, rc), xn)], r.1.2.1.length ≤ 100000) := (by intro r hr; rcases List.mem_append.1 hr with hr | hr; exact hlen.out r hr; rw [List.mem_singleton] at hr; subst hr; first | exact hxl | exact hly)
        go_wp2_with fail
        go_roundw
        case rel => exact ⟨i + 1, os ++ [((rq, xs, rc), xn)], true, by go_num, rfl, by omega, hO5, HP2, HD2, (by simp [LenB] <;> omega), HL2, hB5⟩
        case measure => simp [intOf]; omega
      | false =>
        have hosl2 : os.length ≤ i := by simpa [LenB] using hosl
        clear hdn hosl hos hB hbk
        rcases Int.lt_trichotomy cv 0 with hneg | hzero | hpos
        · have hne : (cv == 0) = false := by rw [beq_eq_false_iff_ne]; omega
          by_cases hn0 : n = 0
          · have hnz : (n != 0) = false := by rw [bne_eq_false_iff_eq]; exact hn0
            have HPP := Lib.hid (by have := HPA.out.1 hneg; rw [if_pos hn0] at this; exact this)
            clear hn0
            go_wp2_with fail
            refine HCM.out.mono ?_
            rintro e u ⟨rfl, kb⟩
            have HOW := Lib.hid (HOW.out.below kb)
            have HBW := Lib.hid (HBW.out.trans (kb.mono hBs))
            have hBu := HBW.out.size
            have c0 := (kb.cell (p := ⟨b, off + i * 2, none⟩) (Nat.lt_of_lt_of_le hbl hBs)).trans c0
            have c1 := (kb.cell (p := ⟨b, off + i * 2 + 1, none⟩) (Nat.lt_of_lt_of_le hbl hBs)).trans c1
            clear kb HCM
            go_wp2_with fail
            refine wp_region_held_drew (S := fun w' : World => Below w.heap.size w w' ∧ w'.cell? ⟨b, off + i * 2, none⟩ = some (.slice xq xs.length xc) ∧ w'.cell? ⟨b, off + i * 2 + 1, none⟩ = some (.int .i64 xn)) (by kernel_rfl) (HS.out _ HBW.out.drew) (fun hHeld => ?_)
            have hOW := HOW.out.below ((Below.refl _ _).drew)
            refine wpAnyH_take (i := 0) (oi := _) (v := ?_) rfl (by kernel_rfl) (by kernel_rfl) (by kernel_rfl) (fun _ _ _ h => h) (Or.inl ⟨by rfl, ?_⟩) (by assumption) ?_
            rotate_left
            · intro w hSw
              try dsimp only at hSw
              go_simp
              all_goals with_reducible rfl
            simp only [List.getElem_toArray, List.getElem_cons_succ, List.getElem_cons_zero, Act.put, List.setIfInBounds_toArray, List.set_cons_zero, List.set_cons_succ]
            refine wpAnyH_take (i := 1) (oi := _) (v := ?_) rfl (by kernel_rfl) (by kernel_rfl) (by kernel_rfl) (fun _ _ _ h => h) (Or.inl ⟨by rfl, ?_⟩) (by assumption) ?_
            rotate_left
            · intro w hSw
              try dsimp only at hSw
              go_simp
              all_goals with_reducible rfl
            simp only [List.getElem_toArray, List.getElem_cons_succ, List.getElem_cons_zero, Act.put, List.setIfInBounds_toArray, List.set_cons_zero, List.set_cons_succ]
            refine wpAnyH_take (i := 2) (oi := _) (v := ?_) rfl (by kernel_rfl) (by kernel_rfl) (by kernel_rfl) (fun _ _ _ h => h) (Or.inl ⟨by rfl, ?_⟩) (by assumption) ?_
            rotate_left
            · intro w hSw
              try dsimp only at hSw
              go_simp
              all_goals with_reducible rfl
            simp only [List.getElem_toArray, List.getElem_cons_succ, List.getElem_cons_zero, Act.put, List.setIfInBounds_toArray, List.set_cons_zero, List.set_cons_succ]
            refine wpAnyH_take (i := 3) (oi := _) (v := ?_) rfl (by kernel_rfl) (by kernel_rfl) (by kernel_rfl) (fun _ _ _ h => h) (Or.inl ⟨by rfl, ?_⟩) (by assumption) ?_
            rotate_left
            · intro w hSw
              try dsimp only at hSw
              go_simp
              all_goals with_reducible rfl
            simp only [List.getElem_toArray, List.getElem_cons_succ, List.getElem_cons_zero, Act.put, List.setIfInBounds_toArray, List.set_cons_zero, List.set_cons_succ]
            refine wpAnyH_take (i := 4) (oi := _) (v := ?_) rfl (by kernel_rfl) (by kernel_rfl) (by kernel_rfl) (fun _ _ _ h => h) (Or.inl ⟨by rfl, ?_⟩) (by assumption) ?_
            rotate_left
            · intro w hSw
              try dsimp only at hSw
              go_simp
              all_goals with_reducible rfl
            simp only [List.getElem_toArray, List.getElem_cons_succ, List.getElem_cons_zero, Act.put, List.setIfInBounds_toArray, List.set_cons_zero, List.set_cons_succ]
            refine wpAnyH_take (i := 5) (oi := _) (v := ?_) rfl (by kernel_rfl) (by kernel_rfl) (by kernel_rfl) (fun _ _ _ h => h) (Or.inl ⟨by rfl, ?_⟩) (by assumption) ?_
            rotate_left
            · intro w hSw
              try dsimp only at hSw
              go_simp
              all_goals with_reducible rfl
            simp only [List.getElem_toArray, List.getElem_cons_succ, List.getElem_cons_zero, Act.put, List.setIfInBounds_toArray, List.set_cons_zero, List.set_cons_succ]
            refine wpAnyH_take (i := 7) (oi := _) (v := ?_) rfl (by kernel_rfl) (by kernel_rfl) (by kernel_rfl) (fun _ _ _ h => h) (Or.inl ⟨by rfl, ?_⟩) (by assumption) ?_
            rotate_left
            · intro w hSw
              try dsimp only at hSw
              go_simp
              all_goals with_reducible rfl
            simp only [List.getElem_toArray, List.getElem_cons_succ, List.getElem_cons_zero, Act.put, List.setIfInBounds_toArray, List.set_cons_zero, List.set_cons_succ]
            refine wpAnyH_take (i := 8) (oi := _) (v := ?_) rfl (by kernel_rfl) (by kernel_rfl) (by kernel_rfl) (fun _ _ _ h => h) (Or.inl ⟨by rfl, ?_⟩) (by assumption) ?_
            rotate_left
            · intro w hSw
              try dsimp only at hSw
              go_simp
              all_goals with_reducible rfl
            simp only [List.getElem_toArray, List.getElem_cons_succ, List.getElem_cons_zero, Act.put, List.setIfInBounds_toArray, List.set_cons_zero, List.set_cons_succ]
            refine wpAnyH_take (i := 9) (oi := _) (v := ?_) rfl (by kernel_rfl) (by kernel_rfl) (by kernel_rfl) (fun _ _ _ h => h) (Or.inl ⟨by rfl, ?_⟩) (by assumption) ?_
            rotate_left
            · intro w hSw
              try dsimp only at hSw
              go_simp
              all_goals with_reducible rfl
            simp only [List.getElem_toArray, List.getElem_cons_succ, List.getElem_cons_zero, Act.put, List.setIfInBounds_toArray, List.set_cons_zero, List.set_cons_succ]
            refine wpAnyH_take (i := 10) (oi := _) (v := ?_) rfl (by kernel_rfl) (by kernel_rfl) (by kernel_rfl) (fun _ _ _ h => h) (Or.inl ⟨by rfl, ?_⟩) (by assumption) ?_
            rotate_left
            · intro w hSw
              try dsimp only at hSw
              go_simp
              all_goals with_reducible rfl
            simp only [List.getElem_toArray, List.getElem_cons_succ, List.getElem_cons_zero, Act.put, List.setIfInBounds_toArray, List.set_cons_zero, List.set_cons_succ]
            refine wpAnyH_take (i := 11) (oi := _) (v := ?_) rfl (by kernel_rfl) (by kernel_rfl) (by kernel_rfl) (fun _ _ _ h => h) (Or.inl ⟨by rfl, ?_⟩) (by assumption) ?_
            rotate_left
            · intro w hSw
              try dsimp only at hSw
              go_simp
              all_goals with_reducible rfl
            simp only [List.getElem_toArray, List.getElem_cons_succ, List.getElem_cons_zero, Act.put, List.setIfInBounds_toArray, List.set_cons_zero, List.set_cons_succ]
            refine wpAnyH_ready (rs := [6]) (by kernel_rfl) (by simp) ?_
            refine AllReadyH.cons (o := _) rfl (fun K hK => ?_) AllReadyH.nil
            go_simp
            refine (HOX.out _ hHeld.1).mono ?_
            rintro e u1 ⟨⟨rq, rx, rc⟩, rfl, hrx, hown1, kb1⟩
            dsimp only [rowv] at hrx hown1 ⊢
            have hrx := hrx.symm
            subst hrx
            have hU1 : Below w.heap.size w u1 := hHeld.1.trans (kb1.mono hHeld.1.size)
            have hO1 := hOW.below kb1
            have hW1 := ownsRow_base hown1 hHeld.1.size
            refine hK.out _ _ (HS.out _ hU1) (fun hHeld1 => ?_)
            clear kb1 hown1 hHeld
            clear hK K
            try simp only [List.getElem_toArray, List.getElem_cons_succ, List.getElem_cons_zero, Act.put, List.setIfInBounds_toArray, List.set_cons_zero, List.set_cons_succ]
            refine wpAnyH_take (i := 12) (oi := _) (v := ?_) rfl (by kernel_rfl) (by kernel_rfl) (by kernel_rfl) (fun _ _ _ h => h) (Or.inl ⟨by rfl, ?_⟩) (by assumption) ?_
            rotate_left
            · intro w hSw
              try dsimp only at hSw
              go_simp
              all_goals with_reducible rfl
            simp only [List.getElem_toArray, List.getElem_cons_succ, List.getElem_cons_zero, Act.put, List.setIfInBounds_toArray, List.set_cons_zero, List.set_cons_succ]
            refine wpAnyH_ready (rs := [13]) (by kernel_rfl) (by simp) ?_
            refine AllReadyH.cons (o := _) rfl (fun K hK => ?_) AllReadyH.nil
            go_simp
            refine hK.out _ _ (HS.out _ (hU1.alloc hU1.size _)) (fun hHeld2 => ?_)
            clear hHeld1
            clear hK K
            try simp only [List.getElem_toArray, List.getElem_cons_succ, List.getElem_cons_zero, Act.put, List.setIfInBounds_toArray, List.set_cons_zero, List.set_cons_succ]
            refine wpAnyH_ready (rs := [14]) (by kernel_rfl) (by simp) ?_
            refine AllReadyH.cons (o := _) rfl (fun K hK => ?_) AllReadyH.nil
            refine step_append_lies _ rfl _ _ 23 rfl w.heap.size 60 i0 (.agg #[.slice none 0 0, .int .i64 0]) 2 32 Tryz.underlying23 hii hz0 hz1 hz2 rfl (by decide) _ _ _ rfl (hO1.1.alloc _) ⟨u1.heap.size, 0, none⟩ 1 1 (cellsI ((rq, xs, rc), xn)) rfl rfl (cells_new _ _ _) (by simp [cellsI, rowv, Value.oneCell']) (by decide) (by unfold maxLen; omega) (by omega) (by have := hU1.size; simp; omega) (u1.heap.size + 1) (by simp) ?_
            intro g' cap' w5 hown' hgrow hor hlt5
            have hO5 := hO1.appended (x := ((rq, xs, rc), xn)) hW1 hown' hgrow
            have hB5 : Below w.heap.size w w5 := (hU1.alloc hU1.size _).grown hgrow (by have := hU1.size; simp; omega) (fun k e => (hO1.1.lt k e).1)
            refine hK.out _ _ (HS.out _ hB5) (fun hHeld3 => ?_)
            clear hK K hown' hgrow hor hlt5 hHeld2 hO1 hW1 hU1
            try simp only [List.getElem_toArray, List.getElem_cons_succ, List.getElem_cons_zero, Act.put, List.setIfInBounds_toArray, List.set_cons_zero, List.set_cons_succ]
            refine wpAnyH_take (i := 15) (oi := _) (v := ?_) rfl (by kernel_rfl) (by kernel_rfl) (by kernel_rfl) (fun _ _ _ h => h) (Or.inl ⟨by rfl, ?_⟩) (by assumption) ?_
            rotate_left
            · intro w hSw
              try dsimp only at hSw
              go_simp
              all_goals with_reducible rfl
            simp only [List.getElem_toArray, List.getElem_cons_succ, List.getElem_cons_zero, Act.put, List.setIfInBounds_toArray, List.set_cons_zero, List.set_cons_succ]
            refine wpAnyH_done (by kernel_rfl) ?_ _
            have HP2 : PutB true (os ++ [((rq, xs, rc), xn)]) rs (i + 1) ys n := by
              unfold PutB
              rw [← HPUT.out]
              rw [vals_app, List.append_assoc, if_pos rfl, if_neg (by decide), HPP.out]; rfl
            have HD2 : DoneB true ys rs (i + 1) := (fun _ k hk hkl => cmp_lt_trans (by rw [HCV.out]; exact hneg) (HUP2.out k (by omega) hkl))
            have HL2 : Hid (∀ r ∈ os ++ [((rq, xs, rc), xn)], r.1.2.1.length ≤ 100000) := (by intro r hr; rcases List.mem_append.1 hr with hr | hr; exact hlen.out r hr; rw [List.mem_singleton] at hr; subst hr; first | exact hxl | exact hly)
            go_wp2_with fail
            go_roundw
            case rel => exact ⟨i + 1, os ++ [((rq, xs, rc), xn)], true, by go_num, rfl, by omega, hO5, HP2, HD2, (by simp [LenB] <;> omega), HL2, hB5⟩
            case measure => simp [intOf]; omega
          · have hnz : (n != 0) = true := by rw [bne_iff_ne]; exact hn0
            have HPP := Lib.hid (by have := HPA.out.1 hneg; rw [if_neg hn0] at this; exact this)
            clear hn0
            go_wp2_with fail
            refine HCM.out.mono ?_
            rintro e u ⟨rfl, kb⟩
            have HOW := Lib.hid (HOW.out.below kb)
            have HBW := Lib.hid (HBW.out.trans (kb.mono hBs))
            have hBu := HBW.out.size
            have c0 := (kb.cell (p := ⟨b, off + i * 2, none⟩) (Nat.lt_of_lt_of_le hbl hBs)).trans c0
            have c1 := (kb.cell (p := ⟨b, off + i * 2 + 1, none⟩) (Nat.lt_of_lt_of_le hbl hBs)).trans c1
            clear kb HCM
            go_wp2_with fail
            refine (HOY.out _ HBW.out).mono ?_
            rintro e u2 ⟨⟨sq, sx, sc⟩, rfl, hsx, hownS, kb2⟩
            dsimp only [rowv] at hsx hownS ⊢
            have hsx := hsx.symm
            subst hsx
            have hU2 : Below w.heap.size w u2 := HBW.out.trans (kb2.mono hBu)
            have hO2 := HOW.out.below kb2
            have hS2 := ownsRow_base hownS hBu
            clear kb2 hownS
            go_wp2_with (at_builtin; refine wpList_append_own _ rfl _ _ 23 rfl w.heap.size 60 i0 (.agg #[.slice none 0 0, .int .i64 0]) 2 32 Tryz.underlying23 hii hz0 hz1 hz2 rfl (by decide) _ _ _ rfl (hO2.1.alloc _) ⟨u2.heap.size, 0, none⟩ 1 1 (cellsI ((sq, ys, sc), n)) rfl rfl (cells_new _ _ _) (by simp [cellsI, rowv, Value.oneCell']) (by unfold maxLen; omega) (by omega) (by have := hU2.size; simp; omega) ?_; intro v3 w3 hown3 hgrow3 _; have hO3 := hO2.appended (x := ((sq, ys, sc), n)) hS2 hown3 hgrow3; have hB3 : Below w.heap.size w w3 := (hU2.alloc hU2.size _).grown hgrow3 (by have := hU2.size; simp; omega) (fun k e => (hO2.1.lt k e).1))
            obtain ⟨os3, hos3⟩ : ∃ os3, os ++ [((sq, ys, sc), n)] = os3 := ⟨_, rfl⟩
            have hosl3 : os3.length ≤ i + 1 := by rw [← hos3, List.length_append]; simp; omega
            rw [hos3] at hO3
            have HOS3 := Lib.hid hos3
            clear hos3
            have HOW := Lib.hid hO3
            have HBW := Lib.hid hB3
            have hBu := hB3.size
            refine wp_region_held_drew (S := fun w' : World => Below w.heap.size w w' ∧ w'.cell? ⟨b, off + i * 2, none⟩ = some (.slice xq xs.length xc) ∧ w'.cell? ⟨b, off + i * 2 + 1, none⟩ = some (.int .i64 xn)) (by kernel_rfl) (HS.out _ HBW.out.drew) (fun hHeld => ?_)
            have hOW := HOW.out.below ((Below.refl _ _).drew)
            refine wpAnyH_take (i := 0) (oi := _) (v := ?_) rfl (by kernel_rfl) (by kernel_rfl) (by kernel_rfl) (fun _ _ _ h => h) (Or.inl ⟨by rfl, ?_⟩) (by assumption) ?_
            rotate_left
            · intro w hSw
              try dsimp only at hSw
              go_simp
              all_goals with_reducible rfl
            simp only [List.getElem_toArray, List.getElem_cons_succ, List.getElem_cons_zero, Act.put, List.setIfInBounds_toArray, List.set_cons_zero, List.set_cons_succ]
            refine wpAnyH_take (i := 1) (oi := _) (v := ?_) rfl (by kernel_rfl) (by kernel_rfl) (by kernel_rfl) (fun _ _ _ h => h) (Or.inl ⟨by rfl, ?_⟩) (by assumption) ?_
            rotate_left
            · intro w hSw
              try dsimp only at hSw
              go_simp
              all_goals with_reducible rfl
            simp only [List.getElem_toArray, List.getElem_cons_succ, List.getElem_cons_zero, Act.put, List.setIfInBounds_toArray, List.set_cons_zero, List.set_cons_succ]
            refine wpAnyH_take (i := 2) (oi := _) (v := ?_) rfl (by kernel_rfl) (by kernel_rfl) (by kernel_rfl) (fun _ _ _ h => h) (Or.inl ⟨by rfl, ?_⟩) (by assumption) ?_
            rotate_left
            · intro w hSw
              try dsimp only at hSw
              go_simp
              all_goals with_reducible rfl
            simp only [List.getElem_toArray, List.getElem_cons_succ, List.getElem_cons_zero, Act.put, List.setIfInBounds_toArray, List.set_cons_zero, List.set_cons_succ]
            refine wpAnyH_take (i := 3) (oi := _) (v := ?_) rfl (by kernel_rfl) (by kernel_rfl) (by kernel_rfl) (fun _ _ _ h => h) (Or.inl ⟨by rfl, ?_⟩) (by assumption) ?_
            rotate_left
            · intro w hSw
              try dsimp only at hSw
              go_simp
              all_goals with_reducible rfl
            simp only [List.getElem_toArray, List.getElem_cons_succ, List.getElem_cons_zero, Act.put, List.setIfInBounds_toArray, List.set_cons_zero, List.set_cons_succ]
            refine wpAnyH_take (i := 4) (oi := _) (v := ?_) rfl (by kernel_rfl) (by kernel_rfl) (by kernel_rfl) (fun _ _ _ h => h) (Or.inl ⟨by rfl, ?_⟩) (by assumption) ?_
            rotate_left
            · intro w hSw
              try dsimp only at hSw
              go_simp
              all_goals with_reducible rfl
            simp only [List.getElem_toArray, List.getElem_cons_succ, List.getElem_cons_zero, Act.put, List.setIfInBounds_toArray, List.set_cons_zero, List.set_cons_succ]
            refine wpAnyH_take (i := 5) (oi := _) (v := ?_) rfl (by kernel_rfl) (by kernel_rfl) (by kernel_rfl) (fun _ _ _ h => h) (Or.inl ⟨by rfl, ?_⟩) (by assumption) ?_
            rotate_left
            · intro w hSw
              try dsimp only at hSw
              go_simp
              all_goals with_reducible rfl
            simp only [List.getElem_toArray, List.getElem_cons_succ, List.getElem_cons_zero, Act.put, List.setIfInBounds_toArray, List.set_cons_zero, List.set_cons_succ]
            refine wpAnyH_take (i := 7) (oi := _) (v := ?_) rfl (by kernel_rfl) (by kernel_rfl) (by kernel_rfl) (fun _ _ _ h => h) (Or.inl ⟨by rfl, ?_⟩) (by assumption) ?_
            rotate_left
            · intro w hSw
              try dsimp only at hSw
              go_simp
              all_goals with_reducible rfl
            simp only [List.getElem_toArray, List.getElem_cons_succ, List.getElem_cons_zero, Act.put, List.setIfInBounds_toArray, List.set_cons_zero, List.set_cons_succ]
            refine wpAnyH_take (i := 8) (oi := _) (v := ?_) rfl (by kernel_rfl) (by kernel_rfl) (by kernel_rfl) (fun _ _ _ h => h) (Or.inl ⟨by rfl, ?_⟩) (by assumption) ?_
            rotate_left
            · intro w hSw
              try dsimp only at hSw
              go_simp
              all_goals with_reducible rfl
            simp only [List.getElem_toArray, List.getElem_cons_succ, List.getElem_cons_zero, Act.put, List.setIfInBounds_toArray, List.set_cons_zero, List.set_cons_succ]
            refine wpAnyH_take (i := 9) (oi := _) (v := ?_) rfl (by kernel_rfl) (by kernel_rfl) (by kernel_rfl) (fun _ _ _ h => h) (Or.inl ⟨by rfl, ?_⟩) (by assumption) ?_
            rotate_left
            · intro w hSw
              try dsimp only at hSw
              go_simp
              all_goals with_reducible rfl
            simp only [List.getElem_toArray, List.getElem_cons_succ, List.getElem_cons_zero, Act.put, List.setIfInBounds_toArray, List.set_cons_zero, List.set_cons_succ]
            refine wpAnyH_take (i := 10) (oi := _) (v := ?_) rfl (by kernel_rfl) (by kernel_rfl) (by kernel_rfl) (fun _ _ _ h => h) (Or.inl ⟨by rfl, ?_⟩) (by assumption) ?_
            rotate_left
            · intro w hSw
              try dsimp only at hSw
              go_simp
              all_goals with_reducible rfl
            simp only [List.getElem_toArray, List.getElem_cons_succ, List.getElem_cons_zero, Act.put, List.setIfInBounds_toArray, List.set_cons_zero, List.set_cons_succ]
            refine wpAnyH_take (i := 11) (oi := _) (v := ?_) rfl (by kernel_rfl) (by kernel_rfl) (by kernel_rfl) (fun _ _ _ h => h) (Or.inl ⟨by rfl, ?_⟩) (by assumption) ?_
            rotate_left
            · intro w hSw
              try dsimp only at hSw
              go_simp
              all_goals with_reducible rfl
            simp only [List.getElem_toArray, List.getElem_cons_succ, List.getElem_cons_zero, Act.put, List.setIfInBounds_toArray, List.set_cons_zero, List.set_cons_succ]
            refine wpAnyH_ready (rs := [6]) (by kernel_rfl) (by simp) ?_
            refine AllReadyH.cons (o := _) rfl (fun K hK => ?_) AllReadyH.nil
            go_simp
            refine (HOX.out _ hHeld.1).mono ?_
            rintro e u1 ⟨⟨rq, rx, rc⟩, rfl, hrx, hown1, kb1⟩
            dsimp only [rowv] at hrx hown1 ⊢
            have hrx := hrx.symm
            subst hrx
            have hU1 : Below w.heap.size w u1 := hHeld.1.trans (kb1.mono hHeld.1.size)
            have hO1 := hOW.below kb1
            have hW1 := ownsRow_base hown1 hHeld.1.size
            refine hK.out _ _ (HS.out _ hU1) (fun hHeld1 => ?_)
            clear kb1 hown1 hHeld
            clear hK K
            try simp only [List.getElem_toArray, List.getElem_cons_succ, List.getElem_cons_zero, Act.put, List.setIfInBounds_toArray, List.set_cons_zero, List.set_cons_succ]
            refine wpAnyH_take (i := 12) (oi := _) (v := ?_) rfl (by kernel_rfl) (by kernel_rfl) (by kernel_rfl) (fun _ _ _ h => h) (Or.inl ⟨by rfl, ?_⟩) (by assumption) ?_
            rotate_left
            · intro w hSw
              try dsimp only at hSw
              go_simp
              all_goals with_reducible rfl
            simp only [List.getElem_toArray, List.getElem_cons_succ, List.getElem_cons_zero, Act.put, List.setIfInBounds_toArray, List.set_cons_zero, List.set_cons_succ]
            refine wpAnyH_ready (rs := [13]) (by kernel_rfl) (by simp) ?_
            refine AllReadyH.cons (o := _) rfl (fun K hK => ?_) AllReadyH.nil
            go_simp
            refine hK.out _ _ (HS.out _ (hU1.alloc hU1.size _)) (fun hHeld2 => ?_)
            clear hHeld1
            clear hK K
            try simp only [List.getElem_toArray, List.getElem_cons_succ, List.getElem_cons_zero, Act.put, List.setIfInBounds_toArray, List.set_cons_zero, List.set_cons_succ]
            refine wpAnyH_ready (rs := [14]) (by kernel_rfl) (by simp) ?_
            refine AllReadyH.cons (o := _) rfl (fun K hK => ?_) AllReadyH.nil
            refine step_append_lies _ rfl _ _ 23 rfl w.heap.size 60 i0 (.agg #[.slice none 0 0, .int .i64 0]) 2 32 Tryz.underlying23 hii hz0 hz1 hz2 rfl (by decide) _ _ _ rfl (hO1.1.alloc _) ⟨u1.heap.size, 0, none⟩ 1 1 (cellsI ((rq, xs, rc), xn)) rfl rfl (cells_new _ _ _) (by simp [cellsI, rowv, Value.oneCell']) (by decide) (by unfold maxLen; omega) (by omega) (by have := hU1.size; simp; omega) (u1.heap.size + 1) (by simp) ?_
            intro g' cap' w5 hown' hgrow hor hlt5
            have hO5 := hO1.appended (x := ((rq, xs, rc), xn)) hW1 hown' hgrow
            have hB5 : Below w.heap.size w w5 := (hU1.alloc hU1.size _).grown hgrow (by have := hU1.size; simp; omega) (fun k e => (hO1.1.lt k e).1)
            refine hK.out _ _ (HS.out _ hB5) (fun hHeld3 => ?_)
            clear hK K hown' hgrow hor hlt5 hHeld2 hO1 hW1 hU1
            try simp only [List.getElem_toArray, List.getElem_cons_succ, List.getElem_cons_zero, Act.put, List.setIfInBounds_toArray, List.set_cons_zero, List.set_cons_succ]
            refine wpAnyH_take (i := 15) (oi := _) (v := ?_) rfl (by kernel_rfl) (by kernel_rfl) (by kernel_rfl) (fun _ _ _ h => h) (Or.inl ⟨by rfl, ?_⟩) (by assumption) ?_
            rotate_left
            · intro w hSw
              try dsimp only at hSw
              go_simp
              all_goals with_reducible rfl
            simp only [List.getElem_toArray, List.getElem_cons_succ, List.getElem_cons_zero, Act.put, List.setIfInBounds_toArray, List.set_cons_zero, List.set_cons_succ]
            refine wpAnyH_done (by kernel_rfl) ?_ _
            have HP2 : PutB true (os3 ++ [((rq, xs, rc), xn)]) rs (i + 1) ys n := by
              unfold PutB
              rw [← HPUT.out]
              rw [← HOS3.out, vals_app, vals_app, List.append_assoc, List.append_assoc, if_pos rfl, if_neg (by decide), HPP.out]; rfl
            have HD2 : DoneB true ys rs (i + 1) := (fun _ k hk hkl => cmp_lt_trans (by rw [HCV.out]; exact hneg) (HUP2.out k (by omega) hkl))
            have HL2 : Hid (∀ r ∈ os3 ++ [((rq, xs, rc), xn)], r.1.2.1.length ≤ 100000) := (by intro r hr; rw [← HOS3.out] at hr; rcases List.mem_append.1 hr with hr | hr; (rcases List.mem_append.1 hr with hr | hr; exact hlen.out r hr; rw [List.mem_singleton] at hr; subst hr; exact hly); rw [List.mem_singleton] at hr; subst hr; exact hxl)
            go_wp2_with fail
            go_roundw
            case rel => exact ⟨i + 1, os3 ++ [((rq, xs, rc), xn)], true, by go_num, rfl, by omega, hO5, HP2, HD2, (by simp [LenB] <;> omega), HL2, hB5⟩
            case measure => simp [intOf]; omega
        · have hne : (cv == 0) = true := by rw [beq_iff_eq]; exact hzero
          by_cases hn0 : xn + n = 0
          · have hnz : (xn + n != 0) = false := by rw [bne_eq_false_iff_eq]; exact hn0
            have HPP := Lib.hid (by have := HPA.out.2.1 hzero; rw [if_pos hn0] at this; exact this)
            clear hn0
            go_wp2_with fail
            refine HCM.out.mono ?_
            rintro e u ⟨rfl, kb⟩
            have HOW := Lib.hid (HOW.out.below kb)
            have HBW := Lib.hid (HBW.out.trans (kb.mono hBs))
            have hBu := HBW.out.size
            have c0 := (kb.cell (p := ⟨b, off + i * 2, none⟩) (Nat.lt_of_lt_of_le hbl hBs)).trans c0
            have c1 := (kb.cell (p := ⟨b, off + i * 2 + 1, none⟩) (Nat.lt_of_lt_of_le hbl hBs)).trans c1
            clear kb HCM
            have HP2 : PutB true (os) rs (i + 1) ys n := by
              unfold PutB
              rw [← HPUT.out]
              rw [if_pos rfl, if_neg (by decide), HPP.out]
            have HD2 : DoneB true ys rs (i + 1) := (fun _ k hk hkl => cmp_eq_lt (by rw [HCV.out]; exact hzero) (HUP2.out k (by omega) hkl))
            have HL2 : Hid (∀ r ∈ os, r.1.2.1.length ≤ 100000) := hlen.out
            go_wp2_with fail
            go_roundw
            case rel => exact ⟨i + 1, os, true, by go_num, rfl, by omega, HOW.out, HP2, HD2, (by simp [LenB] <;> omega), HL2, HBW.out⟩
            case measure => simp [intOf]; omega
          · have hnz : (xn + n != 0) = true := by rw [bne_iff_ne]; exact hn0
            have HPP := Lib.hid (by have := HPA.out.2.1 hzero; rw [if_neg hn0] at this; exact this)
            have hwr : IntKind.i64.wrap (xn + n) = xn + n := IntWalk.i64_in _ (by omega)
            have HWR := Lib.hid hwr
            clear hn0 hwr
            go_wp2_with fail
            refine HCM.out.mono ?_
            rintro e u ⟨rfl, kb⟩
            have HOW := Lib.hid (HOW.out.below kb)
            have HBW := Lib.hid (HBW.out.trans (kb.mono hBs))
            have hBu := HBW.out.size
            have c0 := (kb.cell (p := ⟨b, off + i * 2, none⟩) (Nat.lt_of_lt_of_le hbl hBs)).trans c0
            have c1 := (kb.cell (p := ⟨b, off + i * 2 + 1, none⟩) (Nat.lt_of_lt_of_le hbl hBs)).trans c1
            clear kb HCM
            go_wp2_with fail
            have hwr := HWR.out
            refine wp_region_held_drew (S := fun w' : World => Below w.heap.size w w' ∧ w'.cell? ⟨b, off + i * 2, none⟩ = some (.slice xq xs.length xc) ∧ w'.cell? ⟨b, off + i * 2 + 1, none⟩ = some (.int .i64 xn)) (by kernel_rfl) (HS.out _ HBW.out.drew) (fun hHeld => ?_)
            have hOW := HOW.out.below ((Below.refl _ _).drew)
            refine wpAnyH_take (i := 0) (oi := _) (v := ?_) rfl (by kernel_rfl) (by kernel_rfl) (by kernel_rfl) (fun _ _ _ h => h) (Or.inl ⟨by rfl, ?_⟩) (by assumption) ?_
            rotate_left
            · intro w hSw
              try dsimp only at hSw
              go_simp
              all_goals with_reducible rfl
            simp only [List.getElem_toArray, List.getElem_cons_succ, List.getElem_cons_zero, Act.put, List.setIfInBounds_toArray, List.set_cons_zero, List.set_cons_succ]
            refine wpAnyH_take (i := 1) (oi := _) (v := ?_) rfl (by kernel_rfl) (by kernel_rfl) (by kernel_rfl) (fun _ _ _ h => h) (Or.inl ⟨by rfl, ?_⟩) (by assumption) ?_
            rotate_left
            · intro w hSw
              try dsimp only at hSw
              go_simp
              all_goals with_reducible rfl
            simp only [List.getElem_toArray, List.getElem_cons_succ, List.getElem_cons_zero, Act.put, List.setIfInBounds_toArray, List.set_cons_zero, List.set_cons_succ]
            refine wpAnyH_take (i := 3) (oi := _) (v := ?_) rfl (by kernel_rfl) (by kernel_rfl) (by kernel_rfl) (fun _ _ _ h => h) (Or.inl ⟨by rfl, ?_⟩) (by assumption) ?_
            rotate_left
            · intro w hSw
              try dsimp only at hSw
              go_simp
              all_goals with_reducible rfl
            simp only [List.getElem_toArray, List.getElem_cons_succ, List.getElem_cons_zero, Act.put, List.setIfInBounds_toArray, List.set_cons_zero, List.set_cons_succ]
            refine wpAnyH_take (i := 4) (oi := _) (v := ?_) rfl (by kernel_rfl) (by kernel_rfl) (by kernel_rfl) (fun _ _ _ h => h) (Or.inl ⟨by rfl, ?_⟩) (by assumption) ?_
            rotate_left
            · intro w hSw
              try dsimp only at hSw
              go_simp
              all_goals with_reducible rfl
            simp only [List.getElem_toArray, List.getElem_cons_succ, List.getElem_cons_zero, Act.put, List.setIfInBounds_toArray, List.set_cons_zero, List.set_cons_succ]
            refine wpAnyH_take (i := 5) (oi := _) (v := ?_) rfl (by kernel_rfl) (by kernel_rfl) (by kernel_rfl) (fun _ _ _ h => h) (Or.inl ⟨by rfl, ?_⟩) (by assumption) ?_
            rotate_left
            · intro w hSw
              try dsimp only at hSw
              go_simp
              all_goals with_reducible rfl
            simp only [List.getElem_toArray, List.getElem_cons_succ, List.getElem_cons_zero, Act.put, List.setIfInBounds_toArray, List.set_cons_zero, List.set_cons_succ]
            refine wpAnyH_take (i := 6) (oi := _) (v := ?_) rfl (by kernel_rfl) (by kernel_rfl) (by kernel_rfl) (fun _ _ _ h => h) (Or.inl ⟨by rfl, ?_⟩) (by assumption) ?_
            rotate_left
            · intro w hSw
              try dsimp only at hSw
              go_simp
              all_goals with_reducible rfl
            simp only [List.getElem_toArray, List.getElem_cons_succ, List.getElem_cons_zero, Act.put, List.setIfInBounds_toArray, List.set_cons_zero, List.set_cons_succ]
            refine wpAnyH_take (i := 7) (oi := _) (v := ?_) rfl (by kernel_rfl) (by kernel_rfl) (by kernel_rfl) (fun _ _ _ h => h) (Or.inl ⟨by rfl, ?_⟩) (by assumption) ?_
            rotate_left
            · intro w hSw
              try dsimp only at hSw
              go_simp
              all_goals with_reducible rfl
            simp only [List.getElem_toArray, List.getElem_cons_succ, List.getElem_cons_zero, Act.put, List.setIfInBounds_toArray, List.set_cons_zero, List.set_cons_succ]
            refine wpAnyH_take (i := 8) (oi := _) (v := ?_) rfl (by kernel_rfl) (by kernel_rfl) (by kernel_rfl) (fun _ _ _ h => h) (Or.inl ⟨by rfl, ?_⟩) (by assumption) ?_
            rotate_left
            · intro w hSw
              try dsimp only at hSw
              go_simp
              all_goals with_reducible rfl
            simp only [List.getElem_toArray, List.getElem_cons_succ, List.getElem_cons_zero, Act.put, List.setIfInBounds_toArray, List.set_cons_zero, List.set_cons_succ]
            refine wpAnyH_take (i := 9) (oi := _) (v := ?_) rfl (by kernel_rfl) (by kernel_rfl) (by kernel_rfl) (fun _ _ _ h => h) (Or.inl ⟨by rfl, ?_⟩) (by assumption) ?_
            rotate_left
            · intro w hSw
              try dsimp only at hSw
              go_simp
              all_goals with_reducible rfl
            simp only [List.getElem_toArray, List.getElem_cons_succ, List.getElem_cons_zero, Act.put, List.setIfInBounds_toArray, List.set_cons_zero, List.set_cons_succ]
            refine wpAnyH_ready (rs := [2]) (by kernel_rfl) (by simp) ?_
            refine AllReadyH.cons (o := _) rfl (fun K hK => ?_) AllReadyH.nil
            go_simp
            refine (HOY.out _ hHeld.1).mono ?_
            rintro e u1 ⟨⟨rq, rx, rc⟩, rfl, hrx, hown1, kb1⟩
            dsimp only [rowv] at hrx hown1 ⊢
            have hrx := hrx.symm
            subst hrx
            have hU1 : Below w.heap.size w u1 := hHeld.1.trans (kb1.mono hHeld.1.size)
            have hO1 := hOW.below kb1
            have hW1 := ownsRow_base hown1 hHeld.1.size
            refine hK.out _ _ (HS.out _ hU1) (fun hHeld1 => ?_)
            clear kb1 hown1 hHeld
            clear hK K
            try simp only [List.getElem_toArray, List.getElem_cons_succ, List.getElem_cons_zero, Act.put, List.setIfInBounds_toArray, List.set_cons_zero, List.set_cons_succ]
            refine wpAnyH_take (i := 10) (oi := _) (v := ?_) rfl (by kernel_rfl) (by kernel_rfl) (by kernel_rfl) (fun _ _ _ h => h) (Or.inl ⟨by rfl, ?_⟩) (by assumption) ?_
            rotate_left
            · intro w hSw
              try dsimp only at hSw
              go_simp
              all_goals with_reducible rfl
            simp only [List.getElem_toArray, List.getElem_cons_succ, List.getElem_cons_zero, Act.put, List.setIfInBounds_toArray, List.set_cons_zero, List.set_cons_succ]
            refine wpAnyH_ready (rs := [11]) (by kernel_rfl) (by simp) ?_
            refine AllReadyH.cons (o := _) rfl (fun K hK => ?_) AllReadyH.nil
            go_simp
            refine hK.out _ _ (HS.out _ (hU1.alloc hU1.size _)) (fun hHeld2 => ?_)
            clear hHeld1
            clear hK K
            try simp only [List.getElem_toArray, List.getElem_cons_succ, List.getElem_cons_zero, Act.put, List.setIfInBounds_toArray, List.set_cons_zero, List.set_cons_succ]
            refine wpAnyH_ready (rs := [12]) (by kernel_rfl) (by simp) ?_
            refine AllReadyH.cons (o := _) rfl (fun K hK => ?_) AllReadyH.nil
            refine step_append_lies _ rfl _ _ 23 rfl w.heap.size 60 i0 (.agg #[.slice none 0 0, .int .i64 0]) 2 32 Tryz.underlying23 hii hz0 hz1 hz2 rfl (by decide) _ _ _ rfl (hO1.1.alloc _) ⟨u1.heap.size, 0, none⟩ 1 1 (cellsI ((rq, ys, rc), xn + n)) rfl rfl (cells_new _ _ _) (by simp [cellsI, rowv, Value.oneCell']) (by decide) (by unfold maxLen; omega) (by omega) (by have := hU1.size; simp; omega) (u1.heap.size + 1) (by simp) ?_
            intro g' cap' w5 hown' hgrow hor hlt5
            have hO5 := hO1.appended (x := ((rq, ys, rc), xn + n)) hW1 hown' hgrow
            have hB5 : Below w.heap.size w w5 := (hU1.alloc hU1.size _).grown hgrow (by have := hU1.size; simp; omega) (fun k e => (hO1.1.lt k e).1)
            refine hK.out _ _ (HS.out _ hB5) (fun hHeld3 => ?_)
            clear hK K hown' hgrow hor hlt5 hHeld2 hO1 hW1 hU1
            try simp only [List.getElem_toArray, List.getElem_cons_succ, List.getElem_cons_zero, Act.put, List.setIfInBounds_toArray, List.set_cons_zero, List.set_cons_succ]
            refine wpAnyH_take (i := 13) (oi := _) (v := ?_) rfl (by kernel_rfl) (by kernel_rfl) (by kernel_rfl) (fun _ _ _ h => h) (Or.inl ⟨by rfl, ?_⟩) (by assumption) ?_
            rotate_left
            · intro w hSw
              try dsimp only at hSw
              go_simp
              all_goals with_reducible rfl
            simp only [List.getElem_toArray, List.getElem_cons_succ, List.getElem_cons_zero, Act.put, List.setIfInBounds_toArray, List.set_cons_zero, List.set_cons_succ]
            refine wpAnyH_done (by kernel_rfl) ?_ _
            clear hwr
            have HP2 : PutB true (os ++ [((rq, ys, rc), xn + n)]) rs (i + 1) ys n := by
              unfold PutB
              rw [← HPUT.out]
              rw [vals_app, List.append_assoc, if_pos rfl, if_neg (by decide), HPP.out]; rfl
            have HD2 : DoneB true ys rs (i + 1) := (fun _ k hk hkl => cmp_eq_lt (by rw [HCV.out]; exact hzero) (HUP2.out k (by omega) hkl))
            have HL2 : Hid (∀ r ∈ os ++ [((rq, ys, rc), xn + n)], r.1.2.1.length ≤ 100000) := (by intro r hr; rcases List.mem_append.1 hr with hr | hr; exact hlen.out r hr; rw [List.mem_singleton] at hr; subst hr; first | exact hxl | exact hly)
            go_wp2_with fail
            go_roundw
            case rel => exact ⟨i + 1, os ++ [((rq, ys, rc), xn + n)], true, by go_num, rfl, by omega, hO5, HP2, HD2, (by simp [LenB] <;> omega), HL2, hB5⟩
            case measure => simp [intOf]; omega
        · have hne : (cv == 0) = false := by rw [beq_eq_false_iff_ne]; omega
          have hng : decide (cv < 0) = false := by simp; omega
          have HPP := Lib.hid (HPA.out.2.2 hpos)
          go_wp2_with fail
          refine HCM.out.mono ?_
          rintro e u ⟨rfl, kb⟩
          have HOW := Lib.hid (HOW.out.below kb)
          have HBW := Lib.hid (HBW.out.trans (kb.mono hBs))
          have hBu := HBW.out.size
          have c0 := (kb.cell (p := ⟨b, off + i * 2, none⟩) (Nat.lt_of_lt_of_le hbl hBs)).trans c0
          have c1 := (kb.cell (p := ⟨b, off + i * 2 + 1, none⟩) (Nat.lt_of_lt_of_le hbl hBs)).trans c1
          clear kb HCM
          go_wp2_with fail
          refine wp_region_held_drew (S := fun w' : World => Below w.heap.size w w' ∧ w'.cell? ⟨b, off + i * 2, none⟩ = some (.slice xq xs.length xc) ∧ w'.cell? ⟨b, off + i * 2 + 1, none⟩ = some (.int .i64 xn)) (by kernel_rfl) (HS.out _ HBW.out.drew) (fun hHeld => ?_)
          have hOW := HOW.out.below ((Below.refl _ _).drew)
          refine wpAnyH_take (i := 0) (oi := _) (v := ?_) rfl (by kernel_rfl) (by kernel_rfl) (by kernel_rfl) (fun _ _ _ h => h) (Or.inl ⟨by rfl, ?_⟩) (by assumption) ?_
          rotate_left
          · intro w hSw
            try dsimp only at hSw
            go_simp
            all_goals with_reducible rfl
          simp only [List.getElem_toArray, List.getElem_cons_succ, List.getElem_cons_zero, Act.put, List.setIfInBounds_toArray, List.set_cons_zero, List.set_cons_succ]
          refine wpAnyH_take (i := 1) (oi := _) (v := ?_) rfl (by kernel_rfl) (by kernel_rfl) (by kernel_rfl) (fun _ _ _ h => h) (Or.inl ⟨by rfl, ?_⟩) (by assumption) ?_
          rotate_left
          · intro w hSw
            try dsimp only at hSw
            go_simp
            all_goals with_reducible rfl
          simp only [List.getElem_toArray, List.getElem_cons_succ, List.getElem_cons_zero, Act.put, List.setIfInBounds_toArray, List.set_cons_zero, List.set_cons_succ]
          refine wpAnyH_take (i := 2) (oi := _) (v := ?_) rfl (by kernel_rfl) (by kernel_rfl) (by kernel_rfl) (fun _ _ _ h => h) (Or.inl ⟨by rfl, ?_⟩) (by assumption) ?_
          rotate_left
          · intro w hSw
            try dsimp only at hSw
            go_simp
            all_goals with_reducible rfl
          simp only [List.getElem_toArray, List.getElem_cons_succ, List.getElem_cons_zero, Act.put, List.setIfInBounds_toArray, List.set_cons_zero, List.set_cons_succ]
          refine wpAnyH_take (i := 3) (oi := _) (v := ?_) rfl (by kernel_rfl) (by kernel_rfl) (by kernel_rfl) (fun _ _ _ h => h) (Or.inl ⟨by rfl, ?_⟩) (by assumption) ?_
          rotate_left
          · intro w hSw
            try dsimp only at hSw
            go_simp
            all_goals with_reducible rfl
          simp only [List.getElem_toArray, List.getElem_cons_succ, List.getElem_cons_zero, Act.put, List.setIfInBounds_toArray, List.set_cons_zero, List.set_cons_succ]
          refine wpAnyH_take (i := 4) (oi := _) (v := ?_) rfl (by kernel_rfl) (by kernel_rfl) (by kernel_rfl) (fun _ _ _ h => h) (Or.inl ⟨by rfl, ?_⟩) (by assumption) ?_
          rotate_left
          · intro w hSw
            try dsimp only at hSw
            go_simp
            all_goals with_reducible rfl
          simp only [List.getElem_toArray, List.getElem_cons_succ, List.getElem_cons_zero, Act.put, List.setIfInBounds_toArray, List.set_cons_zero, List.set_cons_succ]
          refine wpAnyH_take (i := 5) (oi := _) (v := ?_) rfl (by kernel_rfl) (by kernel_rfl) (by kernel_rfl) (fun _ _ _ h => h) (Or.inl ⟨by rfl, ?_⟩) (by assumption) ?_
          rotate_left
          · intro w hSw
            try dsimp only at hSw
            go_simp
            all_goals with_reducible rfl
          simp only [List.getElem_toArray, List.getElem_cons_succ, List.getElem_cons_zero, Act.put, List.setIfInBounds_toArray, List.set_cons_zero, List.set_cons_succ]
          refine wpAnyH_take (i := 7) (oi := _) (v := ?_) rfl (by kernel_rfl) (by kernel_rfl) (by kernel_rfl) (fun _ _ _ h => h) (Or.inl ⟨by rfl, ?_⟩) (by assumption) ?_
          rotate_left
          · intro w hSw
            try dsimp only at hSw
            go_simp
            all_goals with_reducible rfl
          simp only [List.getElem_toArray, List.getElem_cons_succ, List.getElem_cons_zero, Act.put, List.setIfInBounds_toArray, List.set_cons_zero, List.set_cons_succ]
          refine wpAnyH_take (i := 8) (oi := _) (v := ?_) rfl (by kernel_rfl) (by kernel_rfl) (by kernel_rfl) (fun _ _ _ h => h) (Or.inl ⟨by rfl, ?_⟩) (by assumption) ?_
          rotate_left
          · intro w hSw
            try dsimp only at hSw
            go_simp
            all_goals with_reducible rfl
          simp only [List.getElem_toArray, List.getElem_cons_succ, List.getElem_cons_zero, Act.put, List.setIfInBounds_toArray, List.set_cons_zero, List.set_cons_succ]
          refine wpAnyH_take (i := 9) (oi := _) (v := ?_) rfl (by kernel_rfl) (by kernel_rfl) (by kernel_rfl) (fun _ _ _ h => h) (Or.inl ⟨by rfl, ?_⟩) (by assumption) ?_
          rotate_left
          · intro w hSw
            try dsimp only at hSw
            go_simp
            all_goals with_reducible rfl
          simp only [List.getElem_toArray, List.getElem_cons_succ, List.getElem_cons_zero, Act.put, List.setIfInBounds_toArray, List.set_cons_zero, List.set_cons_succ]
          refine wpAnyH_take (i := 10) (oi := _) (v := ?_) rfl (by kernel_rfl) (by kernel_rfl) (by kernel_rfl) (fun _ _ _ h => h) (Or.inl ⟨by rfl, ?_⟩) (by assumption) ?_
          rotate_left
          · intro w hSw
            try dsimp only at hSw
            go_simp
            all_goals with_reducible rfl
          simp only [List.getElem_toArray, List.getElem_cons_succ, List.getElem_cons_zero, Act.put, List.setIfInBounds_toArray, List.set_cons_zero, List.set_cons_succ]
          refine wpAnyH_take (i := 11) (oi := _) (v := ?_) rfl (by kernel_rfl) (by kernel_rfl) (by kernel_rfl) (fun _ _ _ h => h) (Or.inl ⟨by rfl, ?_⟩) (by assumption) ?_
          rotate_left
          · intro w hSw
            try dsimp only at hSw
            go_simp
            all_goals with_reducible rfl
          simp only [List.getElem_toArray, List.getElem_cons_succ, List.getElem_cons_zero, Act.put, List.setIfInBounds_toArray, List.set_cons_zero, List.set_cons_succ]
          refine wpAnyH_ready (rs := [6]) (by kernel_rfl) (by simp) ?_
          refine AllReadyH.cons (o := _) rfl (fun K hK => ?_) AllReadyH.nil
          go_simp
          refine (HOX.out _ hHeld.1).mono ?_
          rintro e u1 ⟨⟨rq, rx, rc⟩, rfl, hrx, hown1, kb1⟩
          dsimp only [rowv] at hrx hown1 ⊢
          have hrx := hrx.symm
          subst hrx
          have hU1 : Below w.heap.size w u1 := hHeld.1.trans (kb1.mono hHeld.1.size)
          have hO1 := hOW.below kb1
          have hW1 := ownsRow_base hown1 hHeld.1.size
          refine hK.out _ _ (HS.out _ hU1) (fun hHeld1 => ?_)
          clear kb1 hown1 hHeld
          clear hK K
          try simp only [List.getElem_toArray, List.getElem_cons_succ, List.getElem_cons_zero, Act.put, List.setIfInBounds_toArray, List.set_cons_zero, List.set_cons_succ]
          refine wpAnyH_take (i := 12) (oi := _) (v := ?_) rfl (by kernel_rfl) (by kernel_rfl) (by kernel_rfl) (fun _ _ _ h => h) (Or.inl ⟨by rfl, ?_⟩) (by assumption) ?_
          rotate_left
          · intro w hSw
            try dsimp only at hSw
            go_simp
            all_goals with_reducible rfl
          simp only [List.getElem_toArray, List.getElem_cons_succ, List.getElem_cons_zero, Act.put, List.setIfInBounds_toArray, List.set_cons_zero, List.set_cons_succ]
          refine wpAnyH_ready (rs := [13]) (by kernel_rfl) (by simp) ?_
          refine AllReadyH.cons (o := _) rfl (fun K hK => ?_) AllReadyH.nil
          go_simp
          refine hK.out _ _ (HS.out _ (hU1.alloc hU1.size _)) (fun hHeld2 => ?_)
          clear hHeld1
          clear hK K
          try simp only [List.getElem_toArray, List.getElem_cons_succ, List.getElem_cons_zero, Act.put, List.setIfInBounds_toArray, List.set_cons_zero, List.set_cons_succ]
          refine wpAnyH_ready (rs := [14]) (by kernel_rfl) (by simp) ?_
          refine AllReadyH.cons (o := _) rfl (fun K hK => ?_) AllReadyH.nil
          refine step_append_lies _ rfl _ _ 23 rfl w.heap.size 60 i0 (.agg #[.slice none 0 0, .int .i64 0]) 2 32 Tryz.underlying23 hii hz0 hz1 hz2 rfl (by decide) _ _ _ rfl (hO1.1.alloc _) ⟨u1.heap.size, 0, none⟩ 1 1 (cellsI ((rq, xs, rc), xn)) rfl rfl (cells_new _ _ _) (by simp [cellsI, rowv, Value.oneCell']) (by decide) (by unfold maxLen; omega) (by omega) (by have := hU1.size; simp; omega) (u1.heap.size + 1) (by simp) ?_
          intro g' cap' w5 hown' hgrow hor hlt5
          have hO5 := hO1.appended (x := ((rq, xs, rc), xn)) hW1 hown' hgrow
          have hB5 : Below w.heap.size w w5 := (hU1.alloc hU1.size _).grown hgrow (by have := hU1.size; simp; omega) (fun k e => (hO1.1.lt k e).1)
          refine hK.out _ _ (HS.out _ hB5) (fun hHeld3 => ?_)
          clear hK K hown' hgrow hor hlt5 hHeld2 hO1 hW1 hU1
          try simp only [List.getElem_toArray, List.getElem_cons_succ, List.getElem_cons_zero, Act.put, List.setIfInBounds_toArray, List.set_cons_zero, List.set_cons_succ]
          refine wpAnyH_take (i := 15) (oi := _) (v := ?_) rfl (by kernel_rfl) (by kernel_rfl) (by kernel_rfl) (fun _ _ _ h => h) (Or.inl ⟨by rfl, ?_⟩) (by assumption) ?_
          rotate_left
          · intro w hSw
            try dsimp only at hSw
            go_simp
            all_goals with_reducible rfl
          simp only [List.getElem_toArray, List.getElem_cons_succ, List.getElem_cons_zero, Act.put, List.setIfInBounds_toArray, List.set_cons_zero, List.set_cons_succ]
          refine wpAnyH_done (by kernel_rfl) ?_ _
          have HP2 : PutB false (os ++ [((rq, xs, rc), xn)]) rs (i + 1) ys n := by
            unfold PutB
            rw [← HPUT.out]
            rw [vals_app, List.append_assoc, if_neg (by decide), if_neg (by decide), HPP.out]; rfl
          have HD2 : DoneB false ys rs (i + 1) := (fun h => by cases h)
          have HL2 : Hid (∀ r ∈ os ++ [((rq, xs, rc), xn)], r.1.2.1.length ≤ 100000) := (by intro r hr; rcases List.mem_append.1 hr with hr | hr; exact hlen.out r hr; rw [List.mem_singleton] at hr; subst hr; first | exact hxl | exact hly)
          go_wp2_with fail
          go_roundw
          case rel => exact ⟨i + 1, os ++ [((rq, xs, rc), xn)], false, by go_num, rfl, by omega, hO5, HP2, HD2, (by simp [LenB] <;> omega), HL2, hB5⟩
          case measure => simp [intOf]; omega
    · have hge : (rs.length : Int) ≤ (i : Int) := by omega
      have hie : i = rs.length := by omega
      have hdrop : (vals rs).drop i = [] := by rw [hie, ← vals_len rs, List.drop_length]
      unfold PutB at hput
      rw [hdrop] at hput
      have HPUT := Lib.hid hput
      clear hput hdrop hie
      cases dd with
      | true =>
        have HV := Lib.hid (show vals os = put (vals rs) ys n by have := HPUT.out; rwa [if_pos rfl, List.append_nil] at this)
        obtain ⟨po, co, rfl, hco⟩ := slice_of_own HOW.out.1
        have HI := Lib.hid (HOW.out.items rfl fun r hr => Nat.le_trans (hlen.out r hr) (by decide))
        have HN := Lib.hid (show po = none → co = 0 from fun e => by subst e; rcases HOW.out.1.2 with ⟨e, _⟩ | ⟨_, _, _, e, _⟩ <;> simp at e; exact e.2)
        have hosl2 : os.length ≤ rs.length + 1 := by simp [LenB] at hosl; omega
        clear hos hosl
        go_wp2_with fail
        go_ret
        exact ⟨po, os, co, rfl, HV.out, hco, hosl2, HI.out, HN.out, HBW.out⟩
      | false =>
        have HP0 := Lib.hid (show vals os ++ put [] ys n = put (vals rs) ys n by have := HPUT.out; rwa [if_neg (by decide)] at this)
        have hosl2 : os.length ≤ rs.length := by simp [LenB] at hosl; omega
        clear hosl hos
        by_cases hn0 : n = 0
        · have hnz : (n != 0) = false := by rw [bne_eq_false_iff_eq]; exact hn0
          have HV := Lib.hid (show vals os = put (vals rs) ys n by have := HP0.out; rwa [put, if_pos hn0, List.append_nil] at this)
          obtain ⟨po, co, rfl, hco⟩ := slice_of_own HOW.out.1
          have HI := Lib.hid (HOW.out.items rfl fun r hr => Nat.le_trans (hlen.out r hr) (by decide))
          have HN := Lib.hid (show po = none → co = 0 from fun e => by subst e; rcases HOW.out.1.2 with ⟨e, _⟩ | ⟨_, _, _, e, _⟩ <;> simp at e; exact e.2)
          clear hn0
          go_wp2_with fail
          go_ret
          exact ⟨po, os, co, rfl, HV.out, hco, by omega, HI.out, HN.out, HBW.out⟩
        · have hnz : (n != 0) = true := by rw [bne_iff_ne]; exact hn0
          have HV := Lib.hid (show vals os ++ [(ys, n)] = put (vals rs) ys n by have := HP0.out; rwa [put, if_neg hn0] at this)
          clear hn0
          go_wp2_with fail
          refine (HOY.out _ HBW.out).mono ?_
          rintro e u2 ⟨⟨sq, sx, sc⟩, rfl, hsx, hownS, kb2⟩
          dsimp only [rowv] at hsx hownS ⊢
          have hsx := hsx.symm
          subst hsx
          have hU2 : Below w.heap.size w u2 := HBW.out.trans (kb2.mono hBs)
          have hO2 := HOW.out.below kb2
          have hS2 := ownsRow_base hownS hBs
          clear kb2 hownS
          go_wp2_with (at_builtin; refine wpList_append_own _ rfl _ _ 23 rfl w.heap.size 60 i0 (.agg #[.slice none 0 0, .int .i64 0]) 2 32 Tryz.underlying23 hii hz0 hz1 hz2 rfl (by decide) _ _ _ rfl (hO2.1.alloc _) ⟨u2.heap.size, 0, none⟩ 1 1 (cellsI ((sq, ys, sc), n)) rfl rfl (cells_new _ _ _) (by simp [cellsI, rowv, Value.oneCell']) (by unfold maxLen; omega) (by omega) (by have := hU2.size; simp; omega) ?_; intro v3 w3 hown3 hgrow3 _; have hO3 := hO2.appended (x := ((sq, ys, sc), n)) hS2 hown3 hgrow3; have hB3 : Below w.heap.size w w3 := (hU2.alloc hU2.size _).grown hgrow3 (by have := hU2.size; simp; omega) (fun k e => (hO2.1.lt k e).1))
          have hl3 : (os ++ [((sq, ys, sc), n)]).length = os.length + 1 := by simp
          have hO4 := hO3.1
          rw [hl3] at hO4
          obtain ⟨po, co, rfl, hco⟩ := slice_of_own hO4
          have HN := Lib.hid (show po = none → co = 0 from fun e => by subst e; rcases hO4.2 with ⟨e, _⟩ | ⟨_, _, _, e, _⟩ <;> simp at e)
          go_ret
          exact ⟨po, os ++ [((sq, ys, sc), n)], co, by rw [hl3] <;> rfl, by rw [vals_app]; exact HV.out, by rw [hl3]; exact hco, by rw [hl3]; omega, hO3.items hl3.symm (by intro r hr; rcases List.mem_append.1 hr with hr | hr; exact Nat.le_trans (hlen.out r hr) (by decide); rw [List.mem_singleton] at hr; subst hr; exact Nat.le_trans hly (by decide)), HN.out, hB3⟩
#print axioms Put_any
end Go.Proofs.YthoimepdioeckaaGreatDoor
