/-
  The document's own Put, as a contract: at every list and window.
-/
import Derived.Test.YthbpdalkifocaaaMergeRef
import Derived.Test.YthbpdalkifocaaaAwake
import Derived.LoopTactic
import Derived.Laws.AppendOwn
import Derived.Deep.DeepCutAuto
namespace Go.Proofs.Ythbpdalkifocaaa
open Go.RowKit

theorem RowAt.below {W W' : World} {b off : Nat} {xs : List (Int × Int)} {B : Nat} (h : RowAt W b off xs) (hb : Below B W W') (hB : W.heap.size ≤ B) : RowAt W' b off xs := fun i hi => by
  obtain ⟨h1, h2⟩ := h i hi
  exact ⟨(hb.cell (p := ⟨b, off + i * 2, none⟩) (Nat.lt_of_lt_of_le (World.block_lt_of_cell? W _ h1) hB)).trans h1, (hb.cell (p := ⟨b, off + i * 2 + 1, none⟩) (Nat.lt_of_lt_of_le (World.block_lt_of_cell? W _ h2) hB)).trans h2⟩

/-- What Put has still to do. -/
def putRest (done : Bool) (p : Win) (l : List Win) : List Win := if done then l else putF p l

theorem drop_get (xs : List (Int × Int)) (i : Nat) (h : i < xs.length) : xs.drop i = (xs[i]?.getD (0, 0)) :: xs.drop (i + 1) := by
  rw [List.drop_eq_getElem_cons h]; simp [h]

set_option maxRecDepth 100000 in
set_option maxHeartbeats 4000000 in
theorem Put_some (bk off cap : Nat) (a b : Int) (xs : List (Int × Int)) (hn : xs.length ≤ 100000) (w : World) (hx : RowAt w bk off xs) :
    Calls Try.prog 40 #[.slice (some ⟨bk, off, none⟩) xs.length cap, .agg #[.int .i64 a, .int .i64 b]] w (RowPost w.heap.size w (putF (a, b) xs)) := by
  obtain ⟨i0, hi, hz0, hz1, hz2⟩ := info_parts infoW
  have hm0 := guardW
  have HX := Lib.hid hx
  have hcm := Lib.hid fun (c d e f : Int) (W : World) => (refCompare_any c d e f W).mono (R' := fun r w' => r = .returned (.int .i64 (cmpW c d e f)) ∧ Below W.heap.size W w') fun _ _ ⟨h1, h2⟩ => ⟨h1, by rw [h2]; exact ((Below.refl _ _).alloc (Nat.le_refl _) _).alloc (by simp) _⟩
  clear hx
  go_enter Try.func40, Try.ntmps40
  go_wp2_with fail
  obtain ⟨W1, hW1⟩ : ∃ W1, w.alloc (.cells #[.int .i64 a, .int .i64 b] 31) = W1 := ⟨_, rfl⟩
  have hz : W1.heap.size = w.heap.size + 1 := by rw [← hW1]; simp
  have hB1 : Below w.heap.size w W1 := by rw [← hW1]; exact (Below.refl _ _).alloc (Nat.le_refl _) _
  have ha1 : W1.cell? ⟨w.heap.size, 0, none⟩ = some (.int .i64 a) ∧ W1.cell? ⟨w.heap.size, 1, none⟩ = some (.int .i64 b) := by rw [← hW1]; exact ⟨by simp [World.cell?_alloc_new], by simp [World.cell?_alloc_new]⟩
  have HX1 := Lib.hid (HX.out.below hB1 (Nat.le_refl _))
  have HA := Lib.hid ha1
  have HZ := Lib.hid hz
  have hzl : w.heap.size + 1 ≤ W1.heap.size := by omega
  have hzl' : W1.heap.size ≤ w.heap.size + 1 := by omega
  rw [hW1]
  clear hW1 ha1 hz
  go_loopw [5, 6, 7] (fun o dn x wr => ∃ (i : Nat) (done : Bool) (ys : List (Int × Int)), i ≤ xs.length ∧ x = .int .i64 i ∧ dn = .bool done ∧ Hid (putF (a, b) xs = ys ++ putRest done (a, b) (xs.drop i)) ∧ ys.length ≤ i + done.toNat ∧ wr.ownsRow (w.heap.size + 1) 31 2 o ys.length (flatW ys) ∧ Below (w.heap.size + 1) W1 wr)
    (fun _ _ x _ => xs.length - (intOf x).toNat)
  case atStart =>
    exact ⟨0, false, [], Nat.zero_le _, rfl, rfl, (by show _ = _; simp [putRest]), by simp, World.ownsRow_nil _ _ _ _, Below.refl _ _⟩
  case round =>
    obtain ⟨i, done, ys, hin, rfl, rfl, hput, hyl, hrow, hB⟩ := hrel
    have hBs := hB.size
    by_cases hlt : i < xs.length
    · obtain ⟨g0, g1⟩ := HX1.out i hlt
      have hdr := drop_get xs i hlt
      have hle0 : (0 : Int) ≤ (i : Int) := by omega
      have hlt' : (i : Int) < (xs.length : Int) := by omega
      have hBs' : w.heap.size + 1 ≤ wr.heap.size := by omega
      have hxe : ∃ x0 x1 : Int, xs[i]?.getD (0, 0) = (x0, x1) := ⟨_, _, rfl⟩
      obtain ⟨x0, x1, hxe⟩ := hxe
      rw [hxe] at hdr g0 g1
      simp only at g0 g1
      have hS : ∀ w' : World, Below wr.heap.size wr w' → (Below wr.heap.size wr w' ∧ w'.cell? ⟨w.heap.size, 0, none⟩ = some (.int .i64 a) ∧ w'.cell? ⟨w.heap.size, 1, none⟩ = some (.int .i64 b) ∧ w'.cell? ⟨bk, off + i * 2, none⟩ = some (.int .i64 x0) ∧ w'.cell? ⟨bk, off + i * 2 + 1, none⟩ = some (.int .i64 x1)) := fun w' hb =>
        ⟨hb, ((hB.trans (hb.mono hBs')).cell (p := ⟨w.heap.size, 0, none⟩) (Nat.lt_succ_self _)).trans HA.out.1, ((hB.trans (hb.mono hBs')).cell (p := ⟨w.heap.size, 1, none⟩) (Nat.lt_succ_self _)).trans HA.out.2,
          ((hB.trans (hb.mono hBs')).cell (p := ⟨bk, off + i * 2, none⟩) (Nat.lt_of_lt_of_le (World.block_lt_of_cell? W1 _ g0) hzl')).trans g0,
          ((hB.trans (hb.mono hBs')).cell (p := ⟨bk, off + i * 2 + 1, none⟩) (Nat.lt_of_lt_of_le (World.block_lt_of_cell? W1 _ g1) hzl')).trans g1⟩
      have keepS : ∀ (u v : World), Below wr.heap.size wr u → Below u.heap.size u v → Below wr.heap.size wr v := fun u v h1 h2 => h1.trans (h2.mono h1.size)
      have HS1 := Lib.hid hS
      have HK := Lib.hid keepS
      have hWr : Below wr.heap.size wr wr := Below.refl _ _
      have HG := Lib.hid (And.intro g0 g1)
      clear hS keepS g0 g1 hxe
      cases done with
      | true =>
        have hyl' : ys.length ≤ i + 1 := hyl
        have hp : Hid (putF (a, b) xs = (ys ++ [(x0, x1)]) ++ putRest true (a, b) (xs.drop (i + 1))) := by show _ = _; rw [hput.out, hdr]; simp [putRest]
        have HD := Lib.hid hdr
        obtain ⟨_, c0, c1, c2, c3⟩ := HS1.out _ hWr
        clear hdr hput hyl
        go_wp2_with fail
        go_quiet (fail)
        have hd5 := below_drewN (Below.refl wr.heap.size wr) nq
        have hr5 := owns_below hrow hd5
        have hB5 : Below (w.heap.size + 1) W1 (wr.drewN nq) := below_drewN hB nq
        obtain ⟨_, j0, j1, j2, j3⟩ := HS1.out _ hd5
        have hs5 : w.heap.size + 1 ≤ (wr.drewN nq).heap.size := hBs'
        clear hd5 c0 c1 c2 c3
        generalize wr.drewN nq = W5 at *
        go_wp2_with (at_builtin; refine wpList_append_own _ rfl _ _ 22 rfl (w.heap.size + 1) 31 i0 (.agg #[.int .i64 0, .int .i64 0]) 2 16 Try.underlying22 hi hz0 hz1 hz2 rfl (by decide) _ _ _ rfl (hr5.alloc _) ⟨W5.heap.size, 0, none⟩ 1 1 (cellsW (x0, x1)) rfl rfl (cells_two_new _ _ _ _) (by simp [cellsW, Value.oneCell']) (by unfold maxLen; omega) (by omega) (by simp <;> omega) ?_; intro v' w3 hown' hgrow _; have hB3 : Below (w.heap.size + 1) W1 w3 := (hB5.alloc hs5 _).grown hgrow (by simp <;> omega) (fun k e => (hr5.lt k e).1))
        go_roundw
        case rel => exact ⟨i + 1, true, ys ++ [(x0, x1)], by omega, by go_num, rfl, hp, by simp [Bool.toNat]; omega, by rw [flatW_snoc, List.length_append]; exact hown', hB3⟩
        case measure => simp [intOf]; omega
      | false =>
        have hyl' : ys.length ≤ i := hyl
        by_cases hc : cmpW a b x0 x1 ≤ 0
        · by_cases hxw : x0 = a ∧ x1 = b
          · obtain ⟨rfl, rfl⟩ := hxw
            have hp : Hid (putF (x0, x1) xs = (ys ++ [(x0, x1)]) ++ putRest true (x0, x1) (xs.drop (i + 1))) := by show _ = _; rw [hput.out, hdr]; simp [putRest, putF, hc]
            have HD := Lib.hid hdr
            have hq := fun V => neqW x0 x1 x0 x1 V
            clear hdr hput hyl
            go_wp2_with fail
            go_region_held3 (fun w' => Below wr.heap.size wr w' ∧ w'.cell? ⟨w.heap.size, 0, none⟩ = some (.int .i64 x0) ∧ w'.cell? ⟨w.heap.size, 1, none⟩ = some (.int .i64 x1) ∧ w'.cell? ⟨bk, off + i * 2, none⟩ = some (.int .i64 x0) ∧ w'.cell? ⟨bk, off + i * 2 + 1, none⟩ = some (.int .i64 x1)) (first | exact HS1.out _ (HK.out _ _ (by assumption) (by assumption)) | exact HS1.out _ (HK.out _ _ (And.left (by assumption)) (by assumption)) | exact HS1.out _ (Below.drew (by assumption)) | exact HS1.out _ (Below.drew (And.left (by assumption))) | assumption)
              (first
                | (go_at_call 50; refine (hcm.out _ _ _ _ _).mono ?_; rintro e w' ⟨rfl, hb⟩))
            have hBv : Below wr.heap.size wr w' := And.left (by assumption)
            have hrv := owns_below hrow hBv
            have hBv1 : Below (w.heap.size + 1) W1 w' := hB.trans (hBv.mono hBs')
            have hvs : w.heap.size + 1 ≤ w'.heap.size := by have := hBv.size; omega
            obtain ⟨_, j0, j1, j2, j3⟩ := HS1.out _ hBv
            go_wp2_with fail
            go_quiet (fail)
            have hd5 := below_drewN (Below.refl w'.heap.size w') nq
            have hr5 := owns_below hrv hd5
            have hB5 : Below (w.heap.size + 1) W1 (w'.drewN nq) := below_drewN hBv1 nq
            obtain ⟨_, j4, j5, j6, j7⟩ := HS1.out _ (hBv.trans (hd5.mono hBv.size))
            have hs5 : w.heap.size + 1 ≤ (w'.drewN nq).heap.size := hvs
            have hgen : ∀ V : World, Below (w.heap.size + 1) W1 V → w.heap.size + 1 ≤ V.heap.size := fun V h => by have := h.size; omega
            clear hd5 j0 j1 j2 j3 hBv hBv1 hrv hvs
            generalize w'.drewN nq = W5 at *
            go_wp2_with (at_builtin; refine wpList_append_own _ rfl _ _ 22 rfl (w.heap.size + 1) 31 i0 (.agg #[.int .i64 0, .int .i64 0]) 2 16 Try.underlying22 hi hz0 hz1 hz2 rfl (by decide) _ _ _ rfl (hr5.alloc _) ⟨W5.heap.size, 0, none⟩ 1 1 (cellsW (x0, x1)) rfl rfl (cells_two_new _ _ _ _) (by simp [cellsW, Value.oneCell']) (by unfold maxLen; omega) (by omega) (by simp <;> omega) ?_; intro v' w3 hown' hgrow _; have hB3 : Below (w.heap.size + 1) W1 w3 := (hB5.alloc hs5 _).grown hgrow (by simp <;> omega) (fun k e => (hr5.lt k e).1))
            go_roundw
            case rel => exact ⟨i + 1, true, ys ++ [(x0, x1)], by omega, by go_num, rfl, hp, by simp [Bool.toNat]; omega, by rw [flatW_snoc, List.length_append]; exact hown', hB3⟩
            case measure => simp [intOf]; omega
          · have hq0 : (x0 == a && x1 == b) = false := by simp; omega
            have hp : Hid (putF (a, b) xs = (ys ++ [(a, b)] ++ [(x0, x1)]) ++ putRest true (a, b) (xs.drop (i + 1))) := by
              show _ = _
              rw [hput.out, hdr]
              have : ¬ ((x0, x1) = ((a, b) : Int × Int)) := fun h => hxw ⟨congrArg Prod.fst h, congrArg Prod.snd h⟩
              simp only [putRest, putF, hc, if_true, if_neg this]
              simp
            have HD := Lib.hid hdr
            have hq : ∀ V, (binOp .neq 31 (.agg #[.int .i64 x0, .int .i64 x1]) (.agg #[.int .i64 a, .int .i64 b])).run Try.prog V = .ok (.bool true) V := fun V => by rw [neqW, hq0]; rfl
            clear hdr hput hyl hxw hq0
            go_wp2_with fail
            go_region_held3 (fun w' => Below wr.heap.size wr w' ∧ w'.cell? ⟨w.heap.size, 0, none⟩ = some (.int .i64 a) ∧ w'.cell? ⟨w.heap.size, 1, none⟩ = some (.int .i64 b) ∧ w'.cell? ⟨bk, off + i * 2, none⟩ = some (.int .i64 x0) ∧ w'.cell? ⟨bk, off + i * 2 + 1, none⟩ = some (.int .i64 x1)) (first | exact HS1.out _ (HK.out _ _ (by assumption) (by assumption)) | exact HS1.out _ (HK.out _ _ (And.left (by assumption)) (by assumption)) | exact HS1.out _ (Below.drew (by assumption)) | exact HS1.out _ (Below.drew (And.left (by assumption))) | assumption)
              (first
                | (go_at_call 50; refine (hcm.out _ _ _ _ _).mono ?_; rintro e w' ⟨rfl, hb⟩))
            have hBv : Below wr.heap.size wr w' := And.left (by assumption)
            have hrv := owns_below hrow hBv
            have hBv1 : Below (w.heap.size + 1) W1 w' := hB.trans (hBv.mono hBs')
            have hvs : w.heap.size + 1 ≤ w'.heap.size := by have := hBv.size; omega
            obtain ⟨_, j0, j1, j2, j3⟩ := HS1.out _ hBv
            go_wp2_with fail
            go_quiet (fail)
            have hd5 := below_drewN (Below.refl w'.heap.size w') nq
            have hr5 := owns_below hrv hd5
            have hB5 : Below (w.heap.size + 1) W1 (w'.drewN nq) := below_drewN hBv1 nq
            obtain ⟨_, j4, j5, j6, j7⟩ := HS1.out _ (hBv.trans (hd5.mono hBv.size))
            have hs5 : w.heap.size + 1 ≤ (w'.drewN nq).heap.size := hvs
            have hgen : ∀ V : World, Below (w.heap.size + 1) W1 V → w.heap.size + 1 ≤ V.heap.size := fun V h => by have := h.size; omega
            clear hd5 j0 j1 j2 j3 hBv hBv1 hrv hvs
            generalize w'.drewN nq = W5 at *
            go_wp2_with (first
              | (at_builtin; refine wpList_append_own _ rfl _ _ 22 rfl (w.heap.size + 1) 31 i0 (.agg #[.int .i64 0, .int .i64 0]) 2 16 Try.underlying22 hi hz0 hz1 hz2 rfl (by decide) _ _ _ rfl (hr6.alloc _) ⟨w6.heap.size, 0, none⟩ 1 1 (cellsW (x0, x1)) rfl rfl (cells_two_new _ _ _ _) (by simp [cellsW, Value.oneCell']) (by unfold maxLen; omega) (by omega) (by simp <;> omega) ?_; intro v' w3 hown' hgrow _; have hB3 : Below (w.heap.size + 1) W1 w3 := (hB6.alloc hs6 _).grown hgrow (by simp <;> omega) (fun k e => (hr6.lt k e).1))
              | (at_builtin; refine wpList_append_own _ rfl _ _ 22 rfl (w.heap.size + 1) 31 i0 (.agg #[.int .i64 0, .int .i64 0]) 2 16 Try.underlying22 hi hz0 hz1 hz2 rfl (by decide) _ _ _ rfl (hr5.alloc _) ⟨W5.heap.size, 0, none⟩ 1 1 (cellsW (a, b)) rfl rfl (cells_two_new _ _ _ _) (by simp [cellsW, Value.oneCell']) (by unfold maxLen; omega) (by omega) (by simp <;> omega) ?_; intro v6 w6 hown6 hgrow6 _; have hB6 : Below (w.heap.size + 1) W1 w6 := (hB5.alloc hs5 _).grown hgrow6 (by simp <;> omega) (fun k e => (hr5.lt k e).1); have hs6 := hgen w6 hB6; have hr6 : w6.ownsRow (w.heap.size + 1) 31 2 v6 (ys ++ [(a, b)]).length (flatW (ys ++ [(a, b)])) := (by rw [flatW_snoc, List.length_append]; exact hown6); have hl6 : (ys ++ [(a, b)]).length = ys.length + 1 := (by simp); have m0 : w6.cell? ⟨bk, off + i * 2, none⟩ = some (.int .i64 x0) := (hB6.cell (p := ⟨bk, off + i * 2, none⟩) (Nat.lt_of_lt_of_le (World.block_lt_of_cell? W1 _ HG.out.1) hzl')).trans HG.out.1; have m1 : w6.cell? ⟨bk, off + i * 2 + 1, none⟩ = some (.int .i64 x1) := (hB6.cell (p := ⟨bk, off + i * 2 + 1, none⟩) (Nat.lt_of_lt_of_le (World.block_lt_of_cell? W1 _ HG.out.2) hzl')).trans HG.out.2))
            go_roundw
            case rel => exact ⟨i + 1, true, (ys ++ [(a, b)]) ++ [(x0, x1)], by omega, by go_num, rfl, hp, by simp [Bool.toNat]; omega, by rw [flatW_snoc, List.length_append]; exact hown', hB3⟩
            case measure => simp [intOf]; omega
        · have hc' : 0 < cmpW a b x0 x1 := by omega
          have hp : Hid (putF (a, b) xs = (ys ++ [(x0, x1)]) ++ putRest false (a, b) (xs.drop (i + 1))) := by show _ = _; rw [hput.out, hdr]; simp [putRest, putF, hc]
          have HD := Lib.hid hdr
          clear hdr hput hyl hc
          go_wp2_with fail
          go_region_held3 (fun w' => Below wr.heap.size wr w' ∧ w'.cell? ⟨w.heap.size, 0, none⟩ = some (.int .i64 a) ∧ w'.cell? ⟨w.heap.size, 1, none⟩ = some (.int .i64 b) ∧ w'.cell? ⟨bk, off + i * 2, none⟩ = some (.int .i64 x0) ∧ w'.cell? ⟨bk, off + i * 2 + 1, none⟩ = some (.int .i64 x1)) (first | exact HS1.out _ (HK.out _ _ (by assumption) (by assumption)) | exact HS1.out _ (HK.out _ _ (And.left (by assumption)) (by assumption)) | exact HS1.out _ (Below.drew (by assumption)) | exact HS1.out _ (Below.drew (And.left (by assumption))) | assumption)
            (first
              | (go_at_call 50; refine (hcm.out _ _ _ _ _).mono ?_; rintro e w' ⟨rfl, hb⟩))
          have hBv : Below wr.heap.size wr w' := And.left (by assumption)
          have hrv := owns_below hrow hBv
          have hBv1 : Below (w.heap.size + 1) W1 w' := hB.trans (hBv.mono hBs')
          have hvs : w.heap.size + 1 ≤ w'.heap.size := by have := hBv.size; omega
          obtain ⟨_, j0, j1, j2, j3⟩ := HS1.out _ hBv
          go_wp2_with (at_builtin; refine wpList_append_own _ rfl _ _ 22 rfl (w.heap.size + 1) 31 i0 (.agg #[.int .i64 0, .int .i64 0]) 2 16 Try.underlying22 hi hz0 hz1 hz2 rfl (by decide) _ _ _ rfl (hrv.alloc _) ⟨w'.heap.size, 0, none⟩ 1 1 (cellsW (x0, x1)) rfl rfl (cells_two_new _ _ _ _) (by simp [cellsW, Value.oneCell']) (by unfold maxLen; omega) (by omega) (by simp <;> omega) ?_; intro v' w3 hown' hgrow _; have hB3 : Below (w.heap.size + 1) W1 w3 := (hBv1.alloc hvs _).grown hgrow (by simp <;> omega) (fun k e => (hrv.lt k e).1))
          go_roundw
          case rel => exact ⟨i + 1, false, ys ++ [(x0, x1)], by omega, by go_num, rfl, hp, by simp [Bool.toNat]; omega, by rw [flatW_snoc, List.length_append]; exact hown', hB3⟩
          case measure => simp [intOf]; omega
    · have hge : xs.length ≤ i := by omega
      have hie : i = xs.length := by omega
      have hBw : Below w.heap.size w wr := hB1.trans (hB.mono (by omega))
      cases done with
      | true =>
        have hyl' : ys.length ≤ i + 1 := hyl
        have hp : putF (a, b) xs = ys := by rw [hput.out, hie]; simp [putRest]
        have HP := Lib.hid hp
        clear hp hie hput hlt hyl
        go_wp2_with fail
        go_ret
        exact ⟨_, rfl, by rw [HP.out]; exact ownsRow_base hrow (by omega), hBw⟩
      | false =>
        have hyl' : ys.length ≤ i := hyl
        have hp : putF (a, b) xs = ys ++ [(a, b)] := by rw [hput.out, hie]; simp [putRest, putF]
        have HP := Lib.hid hp
        have k0 : wr.cell? ⟨w.heap.size, 0, none⟩ = some (.int .i64 a) := (hB.cell (p := ⟨w.heap.size, 0, none⟩) (by show w.heap.size < _; omega)).trans HA.out.1
        have k1 : wr.cell? ⟨w.heap.size, 1, none⟩ = some (.int .i64 b) := (hB.cell (p := ⟨w.heap.size, 1, none⟩) (by show w.heap.size < _; omega)).trans HA.out.2
        clear hp hie hput hlt hyl
        go_wp2_with (at_builtin; refine wpList_append_own _ rfl _ _ 22 rfl (w.heap.size + 1) 31 i0 (.agg #[.int .i64 0, .int .i64 0]) 2 16 Try.underlying22 hi hz0 hz1 hz2 rfl (by decide) _ _ _ rfl (hrow.alloc _) ⟨wr.heap.size, 0, none⟩ 1 1 (cellsW (a, b)) rfl rfl (cells_two_new _ _ _ _) (by simp [cellsW, Value.oneCell']) (by unfold maxLen; omega) (by omega) (by simp <;> omega) ?_; intro v' w3 hown' hgrow _; have hB3 : Below (w.heap.size + 1) W1 w3 := (hB.alloc (by omega) _).grown hgrow (by simp <;> omega) (fun k e => (hrow.lt k e).1))
        go_ret
        refine ⟨_, rfl, ?_, hB1.trans (hB3.mono (by omega))⟩
        rw [HP.out, flatW_snoc, List.length_append]
        exact ownsRow_base hown' (by omega)

theorem Put_zero (q : Option Addr) (cap : Nat) (a b : Int) (w : World) :
    Calls Try.prog 40 #[.slice q 0 cap, .agg #[.int .i64 a, .int .i64 b]] w (RowPost w.heap.size w (putF (a, b) [])) := by
  obtain ⟨i0, hi, hz0, hz1, hz2⟩ := info_parts infoW
  have hb := (Below.refl w.heap.size w).alloc (Nat.le_refl _) (.cells #[.int .i64 a, .int .i64 b] 31)
  have h0 := World.ownsRow_nil (w.alloc (.cells #[.int .i64 a, .int .i64 b] 31)) (w.heap.size) 31 2
  go_enter Try.func40, Try.ntmps40
  go_wp2
  refine wp_loop_rounds 1 ?_
  rw [rounds_succ]
  go_wp2_with (at_builtin; refine wpList_append_own _ rfl _ _ 22 rfl w.heap.size 31 i0 (.agg #[.int .i64 0, .int .i64 0]) 2 16 Try.underlying22 hi hz0 hz1 hz2 rfl (by decide) _ _ _ rfl (h0.alloc _) ⟨w.heap.size + 1, 0, none⟩ 1 1 (cellsW (a, b)) rfl rfl (by have := cells_two_new (w.alloc (.cells #[.int .i64 a, .int .i64 b] 31)) (.int .i64 a) (.int .i64 b) 31; rw [World.size_alloc] at this; exact this) (by simp [cellsW, Value.oneCell']) (by unfold maxLen; omega) (by omega) (by simp; try omega) ?_; intro v' w3 hown' hgrow _; have hB3 : Below w.heap.size w w3 := (hb.alloc (by simp) _).grown hgrow (by simp; try omega) (fun k e => (h0.lt k e).1))
  go_ret
  exact ⟨_, rfl, hown', hB3⟩

theorem Put_owned {w : World} {base : Nat} {o : Value} {ys : List (Int × Int)} (h : w.ownsRow base 31 2 o ys.length (flatW ys)) (hn : ys.length ≤ 100000) (a b : Int) :
    Calls Try.prog 40 #[o, .agg #[.int .i64 a, .int .i64 b]] w (RowPost w.heap.size w (putF (a, b) ys)) := by
  have hr := rowIs_of_owns h
  rcases h.2 with ⟨rfl, h0⟩ | ⟨g, cap, cur, rfl, hb, hg, _⟩
  · obtain rfl : ys = [] := List.eq_nil_of_length_eq_zero h0
    exact Put_zero none 0 a b w
  · rcases hr.2 with ⟨h, _⟩ | ⟨bk, off, cp, he, hra⟩
    · cases h
    · rw [he]
      exact Put_some bk off cp a b ys hn w hra
end Go.Proofs.Ythbpdalkifocaaa
