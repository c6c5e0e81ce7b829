/-
  The document's own Merged, walked.
-/
import Derived.Test.YthbpdalkifocaaaMerged
namespace Go.Proofs.Ythbpdalkifocaaa
open Go.RowKit

/-- Blocks that lay in a, but one, lie on through a further step that turns what is new, or that one. -/
theorem grown_on {a b c : World} {r : Nat} {row : Option Nat} (h : a.grownBy b (some r)) (k : b.grownBy c row) (hr : ∀ j, row = some j → j = r ∨ a.heap.size ≤ j) : a.grownBy c (some r) :=
  ⟨k.os.trans h.os, k.tape.trans h.tape, k.output.trans h.output, Nat.le_trans h.size k.size, fun j hj hne => (k.block j (Nat.lt_of_lt_of_le hj h.size) (fun e => by
    rcases hr j e.symm with rfl | h2
    · exact hne rfl
    · omega)).trans (h.block j hj hne)⟩
theorem Blk.frozen {V : World} {B : Nat} {t : TypeId} {cs : Array Value} (h : Blk V B t cs) (j : Nat) : V.frozen? ⟨B, j, none⟩ = false := by simp [World.frozen?, show V.heap[B]? = _ from h]
theorem Blk.set0 {V : World} {B : Nat} {t : TypeId} {x y : Value} (h : Blk V B t #[x, y]) (u : Value) : Blk (V.setCell ⟨B, 0, none⟩ u) B t #[u, y] := by
  obtain ⟨hlt, hk⟩ := Array.getElem?_eq_some_iff.1 h
  show (V.heap.modify B _)[B]? = _
  rw [Array.getElem?_eq_getElem (by rw [Array.size_modify]; exact hlt), Array.getElem_modify_self, hk]
  rfl
theorem Blk.set1 {V : World} {B : Nat} {t : TypeId} {x y : Value} (h : Blk V B t #[x, y]) (u : Value) : Blk (V.setCell ⟨B, 1, none⟩ u) B t #[x, u] := by
  obtain ⟨hlt, hk⟩ := Array.getElem?_eq_some_iff.1 h
  show (V.heap.modify B _)[B]? = _
  rw [Array.getElem?_eq_getElem (by rw [Array.size_modify]; exact hlt), Array.getElem_modify_self, hk]
  rfl
theorem pass_take (zs : List (Int × Int)) (s : List Win × Win × Bool) (j : Nat) (h : j < zs.length) : pass (zs.take (j + 1)) s = pass1 (pass (zs.take j) s) (zs[j]?.getD (0, 0)) := by
  unfold pass
  rw [List.take_succ_eq_append_getElem h, List.foldl_append]
  simp [h]

set_option maxRecDepth 100000 in
set_option maxHeartbeats 8000000 in
theorem Merged_some (bk off cap : Nat) (xs : List (Int × Int)) (hn : xs.length ≤ 10000) (hok : ∀ x ∈ xs, okW x) (w : World) (hx : RowAt w bk off xs) :
    Calls Try.prog 23 #[.slice (some ⟨bk, off, none⟩) xs.length cap] w (MergedPost w xs) := by
  obtain ⟨i0, hi, hz0, hz1, hz2⟩ := info_parts infoW
  have HX := Lib.hid hx
  have HOK := Lib.hid hok
  have HT := Lib.hid fun (a b c d : Int) (V : World) => refTouch_any a b c d V
  clear hx hok
  go_enter Try.func23, Try.ntmps23
  go_wp2_with fail
  go_loopw [3, 4] (fun o x wr => ∃ (i : Nat) (ys : List (Int × Int)), i ≤ xs.length ∧ x = .int .i64 i ∧ Hid (OutI xs ys i) ∧ ys.length ≤ i ∧ wr.ownsRow w.heap.size 31 2 o ys.length (flatW ys) ∧ Below w.heap.size w wr)
    (fun _ x _ => xs.length - (intOf x).toNat)
  case atStart =>
    exact ⟨0, [], Nat.zero_le _, rfl, ⟨⟨by simp, by simp⟩, fun p => by simp⟩, by simp, World.ownsRow_nil _ _ _ _, Below.refl _ _⟩
  case round =>
    obtain ⟨i, ys, hin, rfl, hO, hyl, hrow, hB⟩ := hrel
    have hBs := hB.size
    by_cases hlt : i < xs.length
    · obtain ⟨g0, g1⟩ := (HX.out.below hB (Nat.le_refl _)) i hlt
      have hok := HOK.out (xs[i]?.getD (0, 0)) (by simp [List.getElem?_eq_getElem hlt])
      have hM := mid_start hO.out hlt hok
      have hi0 : (0 : Int) ≤ (i : Int) := by omega
      have hlt' : (i : Int) < (xs.length : Int) := by omega
      obtain ⟨x0, x1, hxe⟩ : ∃ x0 x1 : Int, xs[i]?.getD (0, 0) = (x0, x1) := ⟨_, _, rfl⟩
      rw [hxe] at g0 g1 hM
      simp only at g0 g1
      have HM := Lib.hid hM
      clear hM hok hxe
      go_wp2_with fail
      obtain ⟨wo, rfl⟩ : ∃ wo : World, wo = wr := ⟨_, rfl⟩
      have hgl := hrow.lt
      have HGL := Lib.hid (show ∀ k, _ = some k → k ≠ wo.heap.size from fun k e => by have := (hgl k e).2; omega)
      have hb0 : Blk (wo.alloc (.cells #[.int .i64 x0, .int .i64 x1] 31)) wo.heap.size 31 #[.int .i64 x0, .int .i64 x1] := Blk.new _ _ _
      go_loopw [3, 6] (fun o ag wr => ∃ (ys : List (Int × Int)) (a b : Int) (again : Bool), ag = .bool again ∧ Hid (MidI xs ys (a, b) again i) ∧ ys.length ≤ i ∧ wr.ownsRow w.heap.size 31 2 o ys.length (flatW ys) ∧ Hid (∀ k, o.ownBlock = some k → k ≠ wo.heap.size) ∧ Blk wr wo.heap.size 31 #[.int .i64 a, .int .i64 b] ∧ Below w.heap.size w wr)
        (fun o ag _ => 2 * lenOf o + bitOf ag)
      case atStart =>
        exact ⟨ys, x0, x1, true, rfl, HM, hyl, hrow.alloc _, HGL, hb0, hB.alloc hBs _⟩
      case round =>
        obtain ⟨zs, a, b, again, rfl, hM, hzl, hrow2, hne, hbox, hB2⟩ := hrel
        cases again with
        | false =>
          have hp := Put_owned hrow2 (by omega) a b
          have HP := Lib.hid hp
          have k0 : wr.cell? ⟨wo.heap.size, 0, none⟩ = some (.int .i64 a) := hbox.cell 0
          have k1 : wr.cell? ⟨wo.heap.size, 1, none⟩ = some (.int .i64 b) := hbox.cell 1
          clear hp
          go_wp2_with fail
          refine HP.out.mono ?_
          rintro e w3 ⟨v3, rfl, hrow3, hb3⟩
          go_wp2_with fail
          go_roundw
          case rel => exact ⟨i + 1, putF (a, b) zs, by omega, by go_num, mid_end hM.out, by have := putF_len (a, b) zs; omega, ownsRow_base hrow3 hB2.size, hB2.trans (hb3.mono hB2.size)⟩
          case measure => simp [intOf]; omega
        | true =>
          obtain ⟨wm, rfl⟩ : ∃ wm : World, wm = wr := ⟨_, rfl⟩
          have hmp := mid_pass hM.out
          have hRI := rowIs_of_owns hrow2
          have hlen := lenOf_owns hrow2
          rcases hrow2.2 with ⟨rfl, hz0'⟩ | ⟨gb, cap2, cur, rfl, hgb, hgc, hc1, hc2, hcs, hct⟩
          · obtain rfl : zs = [] := List.eq_nil_of_length_eq_zero hz0'
            have HMP := Lib.hid hmp.1
            clear hmp hRI hlen
            go_wp2_with fail
            refine wp_loop_rounds 1 ?_
            rw [rounds_succ]
            go_wp2_with fail
            exact ⟨⟨[], a, b, false, rfl, HMP, by simp, World.ownsRow_nil _ _ _ _, fun k e => by simp [Value.ownBlock] at e, hbox, hB2⟩, by simp [lenOf, bitOf]⟩
          · have hgl2 : gb < wm.heap.size := (Array.getElem?_eq_some_iff.1 hgc).1
            have hgn : gb ≠ wo.heap.size := hne.out gb rfl
            have hRA : RowAt wm gb 0 zs := by
              rcases hRI.2 with ⟨h, _⟩ | ⟨b', off', cp, he, hra⟩
              · cases h
              · simp only [Value.slice.injEq, Option.some.injEq, Addr.mk.injEq] at he
                obtain ⟨⟨rfl, rfl, _⟩, _, _⟩ := he
                exact hra
            have HRA := Lib.hid hRA
            have HMP := Lib.hid hmp
            have hwol := hbox.lt
            clear hmp hRI hlen hRA hgc hct hcs g0 g1
            go_wp2_with fail
            go_loopw [6, 7, 8] (fun ag rs x wr3 => ∃ (j : Nat) (rest : List (Int × Int)) (c d : Int) (ag' : Bool), j ≤ zs.length ∧ x = .int .i64 j ∧ ag = .bool ag' ∧ Hid (pass (zs.take j) ([], (a, b), false) = (rest, (c, d), ag')) ∧ rest.length ≤ j ∧ wr3.ownsRow wm.heap.size 31 2 rs rest.length (flatW rest) ∧ Blk wr3 wo.heap.size 31 #[.int .i64 c, .int .i64 d] ∧ wm.grownBy wr3 (some wo.heap.size))
              (fun _ _ x _ => zs.length - (intOf x).toNat)
            case atStart =>
              exact ⟨0, [], a, b, false, Nat.zero_le _, rfl, rfl, (by show _ = _; simp [pass]), by simp, World.ownsRow_nil _ _ _ _, hbox, ⟨rfl, rfl, rfl, Nat.le_refl _, fun _ _ _ => rfl⟩⟩
            case round =>
              obtain ⟨wr3, rfl⟩ : ∃ wr3 : World, wr3 = wr := ⟨_, rfl⟩
              obtain ⟨j, rest, c, d, ag', hjn, rfl, rfl, hps, hrl, hrow3, hbox3, hG⟩ := hrel
              have hGs := hG.size
              by_cases hjl : j < zs.length
              · obtain ⟨e0, e1⟩ := HRA.out j hjl
                have hpt := pass_take zs ([], (a, b), false) j hjl
                rw [hps.out] at hpt
                obtain ⟨y0, y1, hye⟩ : ∃ y0 y1 : Int, zs[j]?.getD (0, 0) = (y0, y1) := ⟨_, _, rfl⟩
                rw [hye] at e0 e1 hpt
                simp only [Nat.zero_add] at e0 e1
                have hj0 : (0 : Int) ≤ (j : Int) := by omega
                have hj1 : (j : Int) < (zs.length : Int) := by omega
                have hgk : wr3.heap[gb]? = wm.heap[gb]? := hG.block gb hgl2 (fun e => hgn (by cases e; rfl))
                have f0 : wr3.cell? ⟨gb, j * 2, none⟩ = some (.int .i64 y0) := (World.cell?_of_block (a := ⟨gb, j * 2, none⟩) hgk).trans e0
                have f1 : wr3.cell? ⟨gb, j * 2 + 1, none⟩ = some (.int .i64 y1) := (World.cell?_of_block (a := ⟨gb, j * 2 + 1, none⟩) hgk).trans e1
                have hgl3 : gb < wr3.heap.size := by omega
                have hwl3 := hbox3.lt
                have hS : ∀ w' : World, Below wr3.heap.size wr3 w' → (Below wr3.heap.size wr3 w' ∧ w'.cell? ⟨wo.heap.size, 0, none⟩ = some (.int .i64 c) ∧ w'.cell? ⟨wo.heap.size, 1, none⟩ = some (.int .i64 d) ∧ w'.cell? ⟨gb, j * 2, none⟩ = some (.int .i64 y0) ∧ w'.cell? ⟨gb, j * 2 + 1, none⟩ = some (.int .i64 y1)) := fun w' hb => ⟨hb, (hb.cell (p := ⟨wo.heap.size, 0, none⟩) hwl3).trans (hbox3.cell 0), (hb.cell (p := ⟨wo.heap.size, 1, none⟩) hwl3).trans (hbox3.cell 1), (hb.cell (p := ⟨gb, j * 2, none⟩) hgl3).trans f0, (hb.cell (p := ⟨gb, j * 2 + 1, none⟩) hgl3).trans f1⟩
                have keepS : ∀ (u v : World), Below wr3.heap.size wr3 u → Below u.heap.size u v → Below wr3.heap.size wr3 v := fun u v h1 h2 => h1.trans (h2.mono h1.size)
                have HS1 := Lib.hid hS
                have HK := Lib.hid keepS
                have hWr : Below wr3.heap.size wr3 wr3 := Below.refl _ _
                clear hS keepS e0 e1 hye f0 f1 hgk
                by_cases ht : touches y0 y1 c d = true
                · have hp : Hid (pass (zs.take (j + 1)) ([], (a, b), false) = (rest, (min c y0, max d y1), true)) := by show _ = _; rw [hpt]; simp [pass1, ht]
                  clear hpt
                  go_wp2_with fail
                  go_region_held3 (fun w' => Below wr3.heap.size wr3 w' ∧ w'.cell? ⟨wo.heap.size, 0, none⟩ = some (.int .i64 c) ∧ w'.cell? ⟨wo.heap.size, 1, none⟩ = some (.int .i64 d) ∧ w'.cell? ⟨gb, j * 2, none⟩ = some (.int .i64 y0) ∧ w'.cell? ⟨gb, j * 2 + 1, none⟩ = some (.int .i64 y1)) (first | exact HS1.out _ (HK.out _ _ (by assumption) (by assumption)) | exact HS1.out _ (HK.out _ _ (And.left (by assumption)) (by assumption)) | exact HS1.out _ (Below.drew (by assumption)) | exact HS1.out _ (Below.drew (And.left (by assumption))) | assumption)
                    (first
                      | (go_at_call 39; refine (HT.out _ _ _ _ _).mono ?_; rintro e w' ⟨rfl, hb⟩))
                  have hBv : Below wr3.heap.size wr3 w' := And.left (by assumption)
                  obtain ⟨_, j0, j1, j2, j3⟩ := HS1.out _ hBv
                  go_wp2_with fail
                  go_still_tail 17, (by kernel_rfl)
                  have hBd : Below wr3.heap.size wr3 w'.drew := hBv.drew
                  clear j0 j1 j2 j3 hBv
                  change wpList _ _ _ _ _ w'.drew
                  generalize w'.drew = W7 at hBd ⊢
                  obtain ⟨_, j0, j1, j2, j3⟩ := HS1.out _ hBd
                  have hbx : Blk W7 wo.heap.size 31 #[.int .i64 c, .int .i64 d] := (hBd.block _ hwl3).trans hbox3
                  have z0 := hbx.frozen 0
                  have z1 := hbx.frozen 1
                  have hbx2 := (hbx.set0 (.int .i64 (min c y0))).set1 (.int .i64 (max d y1))
                  have hG7 : wm.grownBy ((W7.setCell ⟨wo.heap.size, 0, none⟩ (.int .i64 (min c y0))).setCell ⟨wo.heap.size, 1, none⟩ (.int .i64 (max d y1))) (some wo.heap.size) :=
                    grown_on (grown_on (grown_on hG (grown_of_below hBd) (fun _ e => by cases e)) (grownBy_setCell' _ _ _) (fun j e => .inl (by cases e; rfl))) ⟨rfl, rfl, rfl, by simp [World.setCell], fun k _ hk => Below.heap_setCell _ _ _ k (fun e => hk (by rw [e]))⟩ (fun j e => .inl (by cases e; rfl))
                  have hG8 : wr3.grownBy ((W7.setCell ⟨wo.heap.size, 0, none⟩ (.int .i64 (min c y0))).setCell ⟨wo.heap.size, 1, none⟩ (.int .i64 (max d y1))) (some wo.heap.size) :=
                    grown_on (grown_on (grown_on ⟨rfl, rfl, rfl, Nat.le_refl _, fun _ _ _ => rfl⟩ (grown_of_below hBd) (fun _ e => by cases e)) (grownBy_setCell' _ _ _) (fun j e => .inl (by cases e; rfl))) ⟨rfl, rfl, rfl, by simp [World.setCell], fun k _ hk => Below.heap_setCell _ _ _ k (fun e => hk (by rw [e]))⟩ (fun j e => .inl (by cases e; rfl))
                  have hr7 := hrow3.kept hG8 (by
                    cases hob : Value.ownBlock _ with
                    | none => exact .inl rfl
                    | some q => exact .inr (fun e => by have := (hrow3.lt q hob).1; cases e; omega))
                  have hmn : (if y0 < c then y0 else c) = min c y0 := by split <;> omega
                  have hmx : (if d < y1 then y1 else d) = max d y1 := by split <;> omega
                  have HMN := Lib.hid hmn
                  have HMX := Lib.hid hmx
                  clear hmn hmx
                  go_wp2_with fail
                  rw [HMN.out, HMX.out]
                  exact ⟨⟨j + 1, rest, min c y0, max d y1, true, by omega, by go_num, rfl, hp, by omega, hr7, hbx2, hG7⟩, by simp [intOf]; omega⟩
                · have ht' : touches y0 y1 c d = false := by simpa using ht
                  have hp : Hid (pass (zs.take (j + 1)) ([], (a, b), false) = (rest ++ [(y0, y1)], (c, d), ag')) := by show _ = _; rw [hpt]; simp [pass1, ht']
                  clear hpt ht
                  go_wp2_with fail
                  go_region_held3 (fun w' => Below wr3.heap.size wr3 w' ∧ w'.cell? ⟨wo.heap.size, 0, none⟩ = some (.int .i64 c) ∧ w'.cell? ⟨wo.heap.size, 1, none⟩ = some (.int .i64 d) ∧ w'.cell? ⟨gb, j * 2, none⟩ = some (.int .i64 y0) ∧ w'.cell? ⟨gb, j * 2 + 1, none⟩ = some (.int .i64 y1)) (first | exact HS1.out _ (HK.out _ _ (by assumption) (by assumption)) | exact HS1.out _ (HK.out _ _ (And.left (by assumption)) (by assumption)) | exact HS1.out _ (Below.drew (by assumption)) | exact HS1.out _ (Below.drew (And.left (by assumption))) | assumption)
                    (first
                      | (go_at_call 39; refine (HT.out _ _ _ _ _).mono ?_; rintro e w' ⟨rfl, hb⟩))
                  have hBv : Below wr3.heap.size wr3 w' := And.left (by assumption)
                  obtain ⟨_, j0, j1, j2, j3⟩ := HS1.out _ hBv
                  have hrv := owns_below hrow3 hBv
                  have hvs := hBv.size
                  have hGv : wm.grownBy w' (some wo.heap.size) := grown_on hG (grown_of_below hBv) (fun _ e => by cases e)
                  have hbv : Blk w' wo.heap.size 31 #[.int .i64 c, .int .i64 d] := (hBv.block _ hwl3).trans hbox3
                  go_wp2_with (at_builtin; refine wpList_append_own _ rfl _ _ 22 rfl wm.heap.size 31 i0 (.agg #[.int .i64 0, .int .i64 0]) 2 16 Try.underlying22 hi hz0 hz1 hz2 rfl (by decide) _ _ _ rfl (hrv.alloc _) ⟨w'.heap.size, 0, none⟩ 1 1 (cellsW (y0, y1)) rfl rfl (cells_two_new _ _ _ _) (by simp [cellsW, Value.oneCell']) (by unfold maxLen; omega) (by omega) (by simp <;> omega) ?_; intro v' w5 hown' hgrow _; have hG5 : wm.grownBy w5 (some wo.heap.size) := grown_on (grown_on hGv (World.grownBy_alloc _ _ none) (fun _ e => by cases e)) hgrow (fun k e => .inr (hrv.lt k e).1); have hb5 : Blk w5 wo.heap.size 31 #[.int .i64 c, .int .i64 d] := (hbv.kept (World.grownBy_alloc _ _ none) (by simp)).kept hgrow (fun e => by have := (hrv.lt _ e.symm).1; omega))
                  go_roundw
                  case rel => exact ⟨j + 1, rest ++ [(y0, y1)], c, d, ag', by omega, by go_num, rfl, hp, by simp; omega, by rw [flatW_snoc, List.length_append]; exact hown', hb5, hG5⟩
                  case measure => simp [intOf]; omega
              · have hje : j = zs.length := by omega
                have hjg : zs.length ≤ j := by omega
                have hpz : pass zs ([], (a, b), false) = (rest, (c, d), ag') := by
                  have := hps.out
                  rw [hje, List.take_length] at this
                  exact this
                obtain ⟨m1, m2, m3⟩ := HMP.out
                rw [hpz] at m1 m2 m3
                simp only at m1 m2 m3
                have M1 := Lib.hid m1
                have M3 := Lib.hid m3
                have hl3 := Lib.hid (lenOf_owns hrow3)
                have hne3 : Hid (∀ k, Value.ownBlock _ = some k → k ≠ wo.heap.size) := fun k e => by have := (hrow3.lt k e).1; omega
                have hB3 := hB2.grown hG hB2.size (fun k e => by cases e; exact hBs)
                have hbs := hB2.size
                clear hje hpz m1 m3 hjl
                go_wp2_with fail
                go_roundw
                case rel => exact ⟨rest, c, d, ag', rfl, M1, by omega, ownsRow_base hrow3 hbs, hne3, hbox3, hB3⟩
                case measure =>
                  rw [hl3.out]
                  simp only [lenOf, bitOf]
                  cases ag' with
                  | true => have := M3.out rfl; simp only; omega
                  | false => simp only; omega
    · have hie : i = xs.length := by omega
      have hge : xs.length ≤ i := by omega
      have hO' : OutI xs ys xs.length := by rw [← hie]; exact hO.out
      have HO := Lib.hid hO'
      clear hlt hO' hie hO
      go_wp2_with fail
      go_ret
      refine ⟨ys, HO.out.1, fun p => ?_, by omega, _, rfl, hrow, hB⟩
      have := HO.out.2 p
      rwa [List.take_length] at this

theorem Merged_zero (q : Option Addr) (cap : Nat) (w : World) :
    Calls Try.prog 23 #[.slice q 0 cap] w (MergedPost w []) := by
  go_enter Try.func23, Try.ntmps23
  go_wp2_with fail
  refine wp_loop_rounds 1 ?_
  rw [rounds_succ]
  go_wp2_with fail
  go_ret
  exact ⟨[], ⟨by simp, by simp⟩, fun p => Iff.rfl, Nat.le_refl _, _, rfl, World.ownsRow_nil _ _ _ _, Below.refl _ _⟩
end Go.Proofs.Ythbpdalkifocaaa
