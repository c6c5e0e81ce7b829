/-
  lineOf and readLine of package bag, as contracts.
-/
import Derived.Test.YtledgnolmiecfaaGreatDoorBl
import Derived.Test.YtledgnolmiecfaaGreatDoorBo
import Derived.Test.YtledgnolmiecfaaGreatDoorKp
import Derived.Deep.RegionHeld3
namespace Go.Proofs.YtledgnolmiecfaaGreatDoor
open Go.RowKit Go.Lib
set_option linter.unusedSimpArgs false
set_option linter.unusedVariables false

theorem wordNum_bounds {x : List UInt8} {v : Int} (h : wordNum x = some v) : -9223372036854775808 ≤ v ∧ v ≤ 9223372036854775807 := by
  unfold wordNum at h
  cases hh : atoiAll x with
  | ok u => rw [hh] at h; cases h; exact atoiAll_bounds hh
  | «syntax» => rw [hh] at h; cases h
  | range => rw [hh] at h; cases h
theorem line_parts (x : It) : cut (trimSuffix (lineT x) [10]) [32] = (itoa x.2, textR x.1, true) := by
  have e : lineT x = (itoa x.2 ++ 32 :: textR x.1) ++ [10] := by unfold lineT; simp
  have h : trimSuffix (lineT x) [10] = itoa x.2 ++ 32 :: textR x.1 := by
    rw [e]
    unfold trimSuffix hasSuffix
    rw [if_pos (by simp; exact ⟨itoa x.2 ++ 32 :: textR x.1, by simp⟩)]
    rw [List.length_append, List.length_singleton, Nat.add_sub_cancel, List.take_left' rfl]
  rw [h]
  exact cut_at fun c hc hc2 => itoa_no32 x.2 (by rw [← hc2]; exact hc)
theorem cut_le (l s : List UInt8) : (cut l s).1.length ≤ l.length ∧ (cut l s).2.1.length ≤ l.length := by
  unfold cut
  split
  · simp only [List.length_take, List.length_drop]; omega
  · simp
theorem bs_line (x : It) : bs (itoa x.2) ++ (ByteArray.mk #[32]) ++ bs (textR x.1) ++ (ByteArray.mk #[10]) = bs (lineT x) := by
  rw [show (ByteArray.mk #[32]) = bs [32] from rfl, show (ByteArray.mk #[10]) = bs [10] from rfl, bs_app, bs_app, bs_app]
  unfold lineT
  simp

set_option maxRecDepth 100000 in
set_option maxHeartbeats 1000000 in
theorem lineOf_any (r : ItR) (w : World) (hR : RowOK w r.1) (hv : validRow r.1.2.1 = true) (h0 : -9223372036854775808 ≤ r.2) (h1 : r.2 ≤ 9223372036854775807) (hT : Tab w.heap.size w) :
    Calls Tryz.prog 17 #[nItem r] w fun e w' => e = .returned (.string (bs (lineT (itv r)))) ∧ Below w.heap.size w w' := by
  obtain ⟨⟨q, xs, qc⟩, n⟩ := r
  dsimp only [rowv, itv, nItem] at *
  have HB1 := Lib.hid ((Below.refl w.heap.size w).alloc (Nat.le_refl _) (.cells #[.slice q xs.length qc, .int .i64 n] 38))
  have HK1 := Lib.hid (Blk.new w 38 #[.slice q xs.length qc, .int .i64 n])
  have HS1 := Lib.hid (show (w.alloc (.cells #[.slice q xs.length qc, .int .i64 n] 38)).heap.size = w.heap.size + 1 by simp)
  have HIT := Lib.hid (fun W (hb : Below w.heap.size w W) => itoa_any n h0 h1 w.heap.size W (hT.onT hb))
  have HTX := Lib.hid (fun W (hb : Below w.heap.size w W) => rowText_any q xs qc W (hR.belowV hb).2 (hT.up hb hb.size))
  have ht : textOf xs = textR xs := by unfold textOf; rw [hv]; rfl
  rw [ht] at HTX
  unfold TextPost at HTX
  rw [show (⟨(textR xs).toArray⟩ : ByteArray) = bs (textR xs) from rfl] at HTX
  rw [show (⟨(itoa n).toArray⟩ : ByteArray) = bs (itoa n) from rfl] at HIT
  have z1 : (bs (itoa n)).size ≤ 21 := by rw [bs_size]; exact itoa_length_le n h0 h1
  have z2 : (bs (textR xs)).size ≤ 6424 := by
    rw [bs_size, textR_tail]
    have h1 := tailT_len (valid_split hv).2
    have h2 := (valid_split hv).1
    omega
  have gg1 : ¬ 9223372036854775807 < (bs (itoa n)).size + 1 := by omega
  have gg2 : ¬ 9223372036854775807 < (bs (itoa n)).size + 1 + (bs (textR xs)).size := by omega
  have gg3 : ¬ 9223372036854775807 < (bs (itoa n)).size + 1 + (bs (textR xs)).size + 1 := by omega
  have HE := Lib.hid (bs_line (xs, n))
  dsimp only at HE
  clear ht hv hR hT h0 h1
  generalize bs (itoa n) = y1 at z1 HIT HE gg1 gg2 gg3
  generalize bs (textR xs) = y2 at z2 HTX HE gg2 gg3
  generalize bs (lineT (xs, n)) = y3 at HE ⊢
  generalize hw1 : w.alloc (.cells #[.slice q xs.length qc, .int .i64 n] 38) = w1 at HB1 HK1 HS1
  have HS := Lib.hid (fun W (h : Below w1.heap.size w1 W) => (show Below w1.heap.size w1 W ∧ W.cell? ⟨w.heap.size, 0, none⟩ = some (.slice q xs.length qc) ∧ W.cell? ⟨w.heap.size, 1, none⟩ = some (.int .i64 n) from
    ⟨h, (HK1.out.belowV h (by rw [HS1.out]; omega)).cell 0, (HK1.out.belowV h (by rw [HS1.out]; omega)).cell 1⟩))
  clear HK1
  go_enter Tryz.func17, Tryz.ntmps17
  go_wp2_with fail
  refine wp_region_held_drew (S := fun W' : World => Below w1.heap.size w1 W' ∧ W'.cell? ⟨w.heap.size, 0, none⟩ = some (.slice q xs.length qc) ∧ W'.cell? ⟨w.heap.size, 1, none⟩ = some (.int .i64 n)) (by kernel_rfl) (HS.out _ ((Below.refl _ _).drew)) (fun hHeld => ?_)
  refine wpAnyH_take (i := 0) (oi := _) (v := ?_) rfl (by kernel_rfl) (by kernel_rfl) (by kernel_rfl) (fun _ _ _ h => h) (Or.inl ⟨by rfl, ?_⟩) (by assumption) ?_
  rotate_left
  · intro w hSw
    try dsimp only at hSw
    go_simp
    all_goals with_reducible rfl
  simp only [List.getElem_toArray, List.getElem_cons_succ, List.getElem_cons_zero, Act.put, List.setIfInBounds_toArray, List.set_cons_zero, List.set_cons_succ]
  refine wpAnyH_take (i := 1) (oi := _) (v := ?_) rfl (by kernel_rfl) (by kernel_rfl) (by kernel_rfl) (fun _ _ _ h => h) (Or.inl ⟨by rfl, ?_⟩) (by assumption) ?_
  rotate_left
  · intro w hSw
    try dsimp only at hSw
    go_simp
    all_goals with_reducible rfl
  simp only [List.getElem_toArray, List.getElem_cons_succ, List.getElem_cons_zero, Act.put, List.setIfInBounds_toArray, List.set_cons_zero, List.set_cons_succ]
  refine wpAnyH_take (i := 4) (oi := _) (v := ?_) rfl (by kernel_rfl) (by kernel_rfl) (by kernel_rfl) (fun _ _ _ h => h) (Or.inl ⟨by rfl, ?_⟩) (by assumption) ?_
  rotate_left
  · intro w hSw
    try dsimp only at hSw
    go_simp
    all_goals with_reducible rfl
  simp only [List.getElem_toArray, List.getElem_cons_succ, List.getElem_cons_zero, Act.put, List.setIfInBounds_toArray, List.set_cons_zero, List.set_cons_succ]
  refine wpAnyH_take (i := 5) (oi := _) (v := ?_) rfl (by kernel_rfl) (by kernel_rfl) (by kernel_rfl) (fun _ _ _ h => h) (Or.inl ⟨by rfl, ?_⟩) (by assumption) ?_
  rotate_left
  · intro w hSw
    try dsimp only at hSw
    go_simp
    all_goals with_reducible rfl
  simp only [List.getElem_toArray, List.getElem_cons_succ, List.getElem_cons_zero, Act.put, List.setIfInBounds_toArray, List.set_cons_zero, List.set_cons_succ]
  refine wpAnyH_ready (rs := [2]) (by kernel_rfl) (by simp) ?_
  refine AllReadyH.cons (o := _) rfl (fun K hK => ?_) AllReadyH.nil
  go_simp
  refine (HIT.out _ (HB1.out.trans (hHeld.1.mono HB1.out.size))).mono ?_
  rintro e w9 ⟨rfl, k9⟩
  have HB9 := Lib.hid (hHeld.1.trans (k9.mono hHeld.1.size))
  clear hHeld k9
  refine hK.out _ _ (HS.out _ HB9.out) (fun hHeld1 => ?_)
  clear hK K
  try simp only [List.getElem_toArray, List.getElem_cons_succ, List.getElem_cons_zero, Act.put, List.setIfInBounds_toArray, List.set_cons_zero, List.set_cons_succ]
  refine wpAnyH_take (i := 3) (oi := _) (v := ?_) rfl (by kernel_rfl) (by kernel_rfl) (by kernel_rfl) (fun _ _ _ h => h) (Or.inl ⟨by rfl, ?_⟩) (by assumption) ?_
  rotate_left
  · intro w hSw
    try dsimp only at hSw
    go_simp
    all_goals with_reducible rfl
  simp only [List.getElem_toArray, List.getElem_cons_succ, List.getElem_cons_zero, Act.put, List.setIfInBounds_toArray, List.set_cons_zero, List.set_cons_succ]
  refine wpAnyH_ready (rs := [6]) (by kernel_rfl) (by simp) ?_
  refine AllReadyH.cons (o := _) rfl (fun K hK => ?_) AllReadyH.nil
  go_simp
  refine (HTX.out _ (HB1.out.trans (HB9.out.mono HB1.out.size))).mono ?_
  rintro e w8 ⟨rfl, k8⟩
  have HB8 := Lib.hid (HB9.out.trans (k8.mono HB9.out.size))
  clear hHeld1 k8 HB9
  refine hK.out _ _ (HS.out _ HB8.out) (fun hHeld1 => ?_)
  clear hK K
  try simp only [List.getElem_toArray, List.getElem_cons_succ, List.getElem_cons_zero, Act.put, List.setIfInBounds_toArray, List.set_cons_zero, List.set_cons_succ]
  refine wpAnyH_take (i := 7) (oi := _) (v := ?_) rfl (by kernel_rfl) (by kernel_rfl) (by kernel_rfl) (fun _ _ _ h => h) (Or.inl ⟨by rfl, ?_⟩) (by assumption) ?_
  rotate_left
  · intro w hSw
    try dsimp only at hSw
    go_simp
    all_goals with_reducible rfl
  simp only [List.getElem_toArray, List.getElem_cons_succ, List.getElem_cons_zero, Act.put, List.setIfInBounds_toArray, List.set_cons_zero, List.set_cons_succ]
  refine wpAnyH_take (i := 8) (oi := _) (v := ?_) rfl (by kernel_rfl) (by kernel_rfl) (by kernel_rfl) (fun _ _ _ h => h) (Or.inl ⟨by rfl, ?_⟩) (by assumption) ?_
  rotate_left
  · intro w hSw
    try dsimp only at hSw
    go_simp
    all_goals with_reducible rfl
  simp only [List.getElem_toArray, List.getElem_cons_succ, List.getElem_cons_zero, Act.put, List.setIfInBounds_toArray, List.set_cons_zero, List.set_cons_succ]
  refine wpAnyH_take (i := 9) (oi := _) (v := ?_) rfl (by kernel_rfl) (by kernel_rfl) (by kernel_rfl) (fun _ _ _ h => h) (Or.inl ⟨by rfl, ?_⟩) (by assumption) ?_
  rotate_left
  · intro w hSw
    try dsimp only at hSw
    go_simp
    all_goals with_reducible rfl
  simp only [List.getElem_toArray, List.getElem_cons_succ, List.getElem_cons_zero, Act.put, List.setIfInBounds_toArray, List.set_cons_zero, List.set_cons_succ]
  refine wpAnyH_done (by kernel_rfl) ?_ _
  clear hHeld1
  have HBB := Lib.hid (HB1.out.trans (HB8.out.mono HB1.out.size))
  clear HB8 HS
  go_wp2_with fail
  go_ret
  exact ⟨by rw [← HE.out]; rfl, HBB.out⟩

theorem own_set2 {W : World} {B : Nat} {v : Value} {xs : List Val} {cs : Array Value} (h : OwnsV W B v xs) (k : Blk W B 38 cs) (a b : Value) : OwnsV ((W.setCell ⟨B, 0, none⟩ a).setCell ⟨B, 1, none⟩ b) B v xs := by
  have hne : ∀ x, v.ownBlock = some x → x ≠ B := apart_blk h k (by decide)
  have h1 : OwnsV (W.setCell ⟨B, 0, none⟩ a) B v xs := own_keep2 h (keep2_set W B 0 a none) fun x hx => ⟨hne x hx, fun e => by cases e⟩
  exact own_keep2 h1 (keep2_set _ B 1 b none) fun x hx => ⟨hne x hx, fun e => by cases e⟩

/-- What readLine gives. -/
def RlPost (s : ByteArray) (w : World) (e : Ending) (w' : World) : Prop :=
  ∃ (r : ItR) (ok : Bool), e = .returned (.tuple #[nItem r, .bool ok]) ∧ Below w.heap.size w w' ∧ r.1.2.1.length ≤ 8 ∧ OwnsV w' w.heap.size (rowv r.1) r.1.2.1 ∧ (ok = true → s.data.toList = lineT (itv r) ∧ ∀ x, itOK x = true → s.data.toList = lineT x → x = itv r) ∧ (ok = false → ∀ x, itOK x = true → s.data.toList ≠ lineT x)
set_option maxRecDepth 100000 in
set_option maxHeartbeats 2000000 in
theorem readLine_any (s : ByteArray) (hs : s.size ≤ 70000) (w : World) (hE : Env w.heap.size w) :
    Calls Tryz.prog 22 #[.string s] w (RlPost s w) := by
  have HB1 := Lib.hid ((Below.refl w.heap.size w).alloc (Nat.le_refl _) (.cells #[.slice none 0 0, .int .i64 0] 38))
  have HK1 := Lib.hid (Blk.new w 38 #[.slice none 0 0, .int .i64 0])
  have HS1 := Lib.hid (show (w.alloc (.cells #[.slice none 0 0, .int .i64 0] 38)).heap.size = w.heap.size + 1 by simp)
  generalize hw1 : w.alloc (.cells #[.slice none 0 0, .int .i64 0] 38) = w1 at HB1 HK1 HS1
  have hE1 := hE.on HB1.out
  obtain ⟨m, hm⟩ := hE1.max w1 (Below.refl _ _)
  have htl := trimSuffix_le s.data.toList [10]
  have hsl : s.data.toList.length = s.size := by simp
  have HTR := Lib.hid (Tryz.strings_TrimSuffix s ⟨#[10]⟩ w1 (by omega))
  rw [show (⟨#[10]⟩ : ByteArray).data.toList = [10] from rfl, show (⟨(trimSuffix s.data.toList [10]).toArray⟩ : ByteArray) = bs (trimSuffix s.data.toList [10]) from rfl] at HTR
  have HC := Lib.hid (Tryz.strings_Cut (bs (trimSuffix s.data.toList [10])) ⟨#[32]⟩ m w1 (by rw [bs_size]; omega) hm)
  rw [show (⟨#[32]⟩ : ByteArray).data.toList = [32] from rfl, bs_data] at HC
  have hal := cut_le (trimSuffix s.data.toList [10]) [32]
  have HLN := Lib.hid (fun (x : It) (h : s.data.toList = lineT x) => (show (cut (trimSuffix s.data.toList [10]) [32]).1 = itoa x.2 ∧ (cut (trimSuffix s.data.toList [10]) [32]).2.1 = textR x.1 by rw [h, line_parts]; exact ⟨rfl, rfl⟩))
  generalize bs (trimSuffix s.data.toList [10]) = s1 at HTR HC
  generalize cut (trimSuffix s.data.toList [10]) [32] = cc at HC hal HLN
  obtain ⟨a, c, found⟩ := cc
  dsimp only at HC hal HLN
  rw [show (⟨a.toArray⟩ : ByteArray) = bs a from rfl, show (⟨c.toArray⟩ : ByteArray) = bs c from rfl] at HC
  have HAT := Lib.hid (fun W (hb : Below w1.heap.size w1 W) => atoi_any (bs a) (by rw [bs_size]; omega) w.heap.size W (hE1.on (hb.mono HB1.out.size)))
  rw [bs_data] at HAT
  obtain ⟨xs, er, hP, _, h8, hgood, hconv⟩ := both (bs c)
  rw [bs_data] at hgood hconv
  have HP := Lib.hid (fun W (hb : Below w1.heap.size w1 W) => hP W ((hE1.on (hb.mono HB1.out.size)).up (Nat.le_trans HB1.out.size hb.size)))
  have HTB := Lib.hid (fun W (hb : Below w1.heap.size w1 W) => ((hE1.on (hb.mono HB1.out.size)).up (Nat.le_trans HB1.out.size hb.size)).tab)
  have H8 := Lib.hid h8
  have HG := Lib.hid (And.intro hgood hconv)
  generalize bs a = sa at HC HAT
  generalize bs c = sc at HC HP
  clear hP hgood hconv h8 hE hE1 hm htl hsl hal hs
  go_enter Tryz.func22, Tryz.ntmps22
  go_wp2_with fail
  refine HTR.out.mono ?_
  rintro e wz ⟨rfl, hwz⟩
  rw [hwz]
  clear hwz
  go_wp2_with fail
  refine HC.out.mono ?_
  rintro e wz ⟨rfl, kk, rfl⟩
  have HB2 := Lib.hid (below_drewN (Below.refl w1.heap.size w1) kk)
  clear HTR HC
  generalize w1.drewN kk = w2 at HB2 ⊢
  go_wp2_with fail
  refine (HAT.out _ HB2.out).mono ?_
  rintro e w3 ⟨v, rr, rfl, hvr, k3⟩
  have HB3 := Lib.hid (HB2.out.trans (k3.mono HB2.out.size))
  clear k3 HB2 HAT
  rcases hvr with ⟨hwn, rfl⟩ | ⟨hwn, te, pe, rfl⟩
  · have HWN := Lib.hid hwn
    clear hwn
    go_wp2_with fail
    refine (HP.out _ HB3.out).mono ?_
    rintro e w4 ⟨u, rfl, o4, k4⟩
    obtain ⟨q, qc, rfl⟩ := slice_of_owns o4
    have HB4 := Lib.hid (HB3.out.trans (k4.mono HB3.out.size))
    have HO4 := Lib.hid (ownsRow_base o4 (show w.heap.size ≤ w3.heap.size from Nat.le_trans HB1.out.size HB3.out.size))
    clear k4 o4 HB3 HP
    by_cases he : er = 0
    · subst he
      have e0 : ((0 : Int) != 0) = false := by rfl
      have HK4 := Lib.hid (HK1.out.belowV HB4.out (by rw [HS1.out]; omega))
      obtain ⟨hvx, htx⟩ := HG.out.1 rfl
      have hvb := wordNum_bounds HWN.out
      have hbA := (Below.refl w4.heap.size w4).alloc (Nat.le_refl _) (.cells #[.slice q xs.length qc, .int .i64 v] 38)
      have HB5 := Lib.hid (HB4.out.trans (hbA.mono HB4.out.size))
      have HK5 := Lib.hid (HK4.out.allocG (.cells #[.slice q xs.length qc, .int .i64 v] 38))
      have HKI := Lib.hid (Blk.new w4 38 #[.slice q xs.length qc, .int .i64 v])
      have HO5 := Lib.hid (owns_below HO4.out hbA)
      have HS5 := Lib.hid (show (w4.alloc (.cells #[.slice q xs.length qc, .int .i64 v] 38)).heap.size = w4.heap.size + 1 by simp)
      have HLO := Lib.hid (fun W (hb : Below (w4.heap.size + 1) (w4.alloc (.cells #[.slice q xs.length qc, .int .i64 v] 38)) W) => lineOf_any ((q, xs, qc), v) W ⟨by have := H8.out; dsimp only; omega, (valsIn_of_owns HO5.out).belowV (by rw [HS5.out]; exact hb)⟩ hvx hvb.1 hvb.2 (HTB.out W (HB5.out.trans (hb.mono (by have := HB4.out.size; omega)))))
      dsimp only [itv, nItem, rowv] at HLO
      have HSM := Lib.hid (And.intro hvx htx)
      clear hvx htx hvb hbA
      generalize hw5 : w4.alloc (.cells #[.slice q xs.length qc, .int .i64 v] 38) = w5 at HB5 HK5 HKI HO5 HS5 HLO
      have HLT := Lib.hid (show w.heap.size < w4.heap.size by have := HB4.out.size; have := HS1.out; omega)
      have HS := Lib.hid (fun W (h : Below w.heap.size w W) (h1 : Below w.heap.size w5 W) (hk : Blk W w4.heap.size 38 #[.slice q xs.length qc, .int .i64 v]) => (show Below w.heap.size w5 W ∧ W.cell? ⟨w4.heap.size, 0, none⟩ = some (.slice q xs.length qc) ∧ W.cell? ⟨w4.heap.size, 1, none⟩ = some (.int .i64 v) from ⟨h1, hk.cell 0, hk.cell 1⟩))
      by_cases hL : lineT (xs, v) = s.data.toList
      · have HE := Lib.hid (show bs (lineT (xs, v)) = s by rw [hL, bs_back])
        have HUQ := Lib.hid (show ∀ x, itOK x = true → s.data.toList = lineT x → x = (xs, v) from fun x hx h => by
          obtain ⟨h1, h2⟩ := HLN.out x h
          have h3 := inN_in (itOK_iff.1 hx).2
          have h4 := HWN.out
          rw [h1, wordNum_itoa h3.1 h3.2] at h4
          have h5 := textR_inj (itOK_iff.1 hx).1 HSM.out.1 (by rw [← h2, HSM.out.2])
          exact Prod.ext h5 (Option.some.inj h4))
        clear hL
        rw [HE.out] at HLO
        have HSS := Lib.hid (fun W (h : Below w5.heap.size w5 W) => (show Below w5.heap.size w5 W ∧ W.cell? ⟨w4.heap.size, 0, none⟩ = some (.slice q xs.length qc) ∧ W.cell? ⟨w4.heap.size, 1, none⟩ = some (.int .i64 v) from ⟨h, (HKI.out.belowV h HKI.out.lt).cell 0, (HKI.out.belowV h HKI.out.lt).cell 1⟩))
        go_wp2_with fail
        refine wp_region_held_drew (S := fun W' : World => W'.cell? ⟨w4.heap.size, 0, none⟩ = some (.slice q xs.length qc) ∧ W'.cell? ⟨w4.heap.size, 1, none⟩ = some (.int .i64 v)) (by kernel_rfl) (HSS.out _ ((Below.refl _ _).drew)).2 (fun hHeld => ?_)
        have HBD := Lib.hid ((Below.refl w5.heap.size w5).drew)
        generalize w5.drew = w5d at HBD hHeld ⊢
        refine wpAnyH_take (i := 0) (oi := _) (v := ?_) rfl (by kernel_rfl) (by kernel_rfl) (by kernel_rfl) (fun _ _ _ h => h) (Or.inl ⟨by rfl, ?_⟩) (by assumption) ?_
        rotate_left
        · intro w hSw
          try dsimp only at hSw
          go_simp
          all_goals with_reducible rfl
        simp only [List.getElem_toArray, List.getElem_cons_succ, List.getElem_cons_zero, Act.put, List.setIfInBounds_toArray, List.set_cons_zero, List.set_cons_succ]
        refine wpAnyH_take (i := 3) (oi := _) (v := ?_) rfl (by kernel_rfl) (by kernel_rfl) (by kernel_rfl) (fun _ _ _ h => h) (Or.inl ⟨by rfl, ?_⟩) (by assumption) ?_
        rotate_left
        · intro w hSw
          try dsimp only at hSw
          go_simp
          all_goals with_reducible rfl
        simp only [List.getElem_toArray, List.getElem_cons_succ, List.getElem_cons_zero, Act.put, List.setIfInBounds_toArray, List.set_cons_zero, List.set_cons_succ]
        refine wpAnyH_ready (rs := [1]) (by kernel_rfl) (by simp) ?_
        refine AllReadyH.cons (o := _) rfl (fun K hK => ?_) AllReadyH.nil
        have ee0 := hHeld.1
        have ee1 := hHeld.2
        go_simp
        refine hK.out _ _ hHeld (fun _ => ?_)
        clear hK K ee0 ee1
        try simp only [List.getElem_toArray, List.getElem_cons_succ, List.getElem_cons_zero, Act.put, List.setIfInBounds_toArray, List.set_cons_zero, List.set_cons_succ]
        refine wpAnyH_ready (rs := [2]) (by kernel_rfl) (by simp) ?_
        refine AllReadyH.cons (o := _) rfl (fun K hK => ?_) AllReadyH.nil
        go_simp
        refine (HLO.out _ (by rw [← HS5.out]; exact HBD.out)).mono ?_
        rintro e w6 ⟨rfl, k6⟩
        have HB6 := Lib.hid (HBD.out.trans (k6.mono HBD.out.size))
        have HK6 := Lib.hid (HK5.out.belowV HB6.out HK5.out.lt)
        have HKI6 := Lib.hid (HKI.out.belowV HB6.out HKI.out.lt)
        have HO6 := Lib.hid (owns_below HO5.out HB6.out)
        have HBW := Lib.hid ((HB1.out.trans (HB5.out.mono HB1.out.size)).trans (HB6.out.mono (Nat.le_trans HB1.out.size HB5.out.size)))
        clear hHeld k6 HBD
        refine hK.out _ _ (HSS.out _ HB6.out).2 (fun hHeld1 => ?_)
        clear hK K
        try simp only [List.getElem_toArray, List.getElem_cons_succ, List.getElem_cons_zero, Act.put, List.setIfInBounds_toArray, List.set_cons_zero, List.set_cons_succ]
        refine wpAnyH_take (i := 4) (oi := _) (v := ?_) rfl (by kernel_rfl) (by kernel_rfl) (by kernel_rfl) (fun _ _ _ h => h) (Or.inl ⟨by rfl, ?_⟩) (by assumption) ?_
        rotate_left
        · intro w hSw
          try dsimp only at hSw
          go_simp
          all_goals with_reducible rfl
        simp only [List.getElem_toArray, List.getElem_cons_succ, List.getElem_cons_zero, Act.put, List.setIfInBounds_toArray, List.set_cons_zero, List.set_cons_succ]
        have c0 := HK6.out.cell 0
        have c1 := HK6.out.cell 1
        have f0 := HK6.out.froz 0
        have f1 := HK6.out.froz 1
        simp only [List.getElem?_toArray, List.getElem?_cons_zero, List.getElem?_cons_succ] at c0 c1
        have HF := Lib.hid (show Below w.heap.size w ((w6.setCell ⟨w.heap.size, 0, none⟩ (.slice q xs.length qc)).setCell ⟨w.heap.size, 1, none⟩ (.int .i64 v)) ∧ Blk ((w6.setCell ⟨w.heap.size, 0, none⟩ (.slice q xs.length qc)).setCell ⟨w.heap.size, 1, none⟩ (.int .i64 v)) w.heap.size 38 #[.slice q xs.length qc, .int .i64 v] ∧ OwnsV ((w6.setCell ⟨w.heap.size, 0, none⟩ (.slice q xs.length qc)).setCell ⟨w.heap.size, 1, none⟩ (.int .i64 v)) w.heap.size (.slice q xs.length qc) xs from
          ⟨(HBW.out.setCell (p := ⟨w.heap.size, 0, none⟩) (Nat.le_refl _) _).setCell (p := ⟨w.heap.size, 1, none⟩) (Nat.le_refl _) _, (HK6.out.setG 0 _).setG 1 _, own_set2 HO6.out HK6.out _ _⟩)
        have HX := Lib.hid (show ((w6.setCell ⟨w.heap.size, 0, none⟩ (.slice q xs.length qc)).setCell ⟨w.heap.size, 1, none⟩ (.int .i64 v)).cell? ⟨w4.heap.size, 0, none⟩ = some (.slice q xs.length qc) ∧ ((w6.setCell ⟨w.heap.size, 0, none⟩ (.slice q xs.length qc)).setCell ⟨w.heap.size, 1, none⟩ (.int .i64 v)).cell? ⟨w4.heap.size, 1, none⟩ = some (.int .i64 v) from
          ⟨((HKI6.out.setOther (by have := HLT.out; omega) _).setOther (by have := HLT.out; omega) _).cell 0, ((HKI6.out.setOther (by have := HLT.out; omega) _).setOther (by have := HLT.out; omega) _).cell 1⟩)
        refine wpAnyH_ready (rs := [5]) (by kernel_rfl) (by simp) ?_
        refine AllReadyH.cons (o := _) rfl (fun K hK => ?_) AllReadyH.nil
        go_simp
        refine hK.out _ _ HX.out (fun hHeld1 => ?_)
        clear hK K
        try simp only [List.getElem_toArray, List.getElem_cons_succ, List.getElem_cons_zero, Act.put, List.setIfInBounds_toArray, List.set_cons_zero, List.set_cons_succ]
        refine wpAnyH_take (i := 6) (oi := _) (v := ?_) rfl (by kernel_rfl) (by kernel_rfl) (by kernel_rfl) (fun _ _ _ h => h) (Or.inl ⟨by rfl, ?_⟩) (by assumption) ?_
        rotate_left
        · intro w hSw
          try dsimp only at hSw
          go_simp
          all_goals with_reducible rfl
        simp only [List.getElem_toArray, List.getElem_cons_succ, List.getElem_cons_zero, Act.put, List.setIfInBounds_toArray, List.set_cons_zero, List.set_cons_succ]
        refine wpAnyH_done (by kernel_rfl) ?_ _
        clear hHeld1
        go_wp2_with fail
        have r0 := HF.out.2.1.cell 0
        have r1 := HF.out.2.1.cell 1
        simp only [List.getElem?_toArray, List.getElem?_cons_zero, List.getElem?_cons_succ] at r0 r1
        refine bodyPost_ret (v := .tuple #[.agg #[.slice q xs.length qc, .int .i64 v], .bool true]) (by simp [results, Tryz.f22, go_sem, r0, r1]) rfl ?_
        exact ⟨((q, xs, qc), v), true, rfl, HF.out.1, H8.out, HF.out.2.2, (fun _ => ⟨by rw [← HE.out]; rfl, HUQ.out⟩), fun h => by cases h⟩
      · have HNO := Lib.hid (show ∀ x, itOK x = true → s.data.toList ≠ lineT x from fun x hx h => by
          obtain ⟨h1, h2⟩ := HLN.out x h
          have h3 := inN_in (itOK_iff.1 hx).2
          have h4 := HWN.out
          rw [h1, wordNum_itoa h3.1 h3.2] at h4
          have h5 := textR_inj (itOK_iff.1 hx).1 HSM.out.1 (by rw [← h2, HSM.out.2])
          apply hL
          rw [h, ← h5, ← Option.some.inj h4])
        have hzy : ((bs (lineT (xs, v))).toList == s.toList) = false := by
          have := bs_ne hL
          rw [bs_back] at this
          simpa using this
        clear hL
        generalize bs (lineT (xs, v)) = y at HLO hzy
        have HSS := Lib.hid (fun W (h : Below w5.heap.size w5 W) => (show Below w5.heap.size w5 W ∧ W.cell? ⟨w4.heap.size, 0, none⟩ = some (.slice q xs.length qc) ∧ W.cell? ⟨w4.heap.size, 1, none⟩ = some (.int .i64 v) from ⟨h, (HKI.out.belowV h HKI.out.lt).cell 0, (HKI.out.belowV h HKI.out.lt).cell 1⟩))
        go_wp2_with fail
        refine wp_region_held_drew (S := fun W' : World => W'.cell? ⟨w4.heap.size, 0, none⟩ = some (.slice q xs.length qc) ∧ W'.cell? ⟨w4.heap.size, 1, none⟩ = some (.int .i64 v)) (by kernel_rfl) (HSS.out _ ((Below.refl _ _).drew)).2 (fun hHeld => ?_)
        have HBD := Lib.hid ((Below.refl w5.heap.size w5).drew)
        generalize w5.drew = w5d at HBD hHeld ⊢
        refine wpAnyH_take (i := 0) (oi := _) (v := ?_) rfl (by kernel_rfl) (by kernel_rfl) (by kernel_rfl) (fun _ _ _ h => h) (Or.inl ⟨by rfl, ?_⟩) (by assumption) ?_
        rotate_left
        · intro w hSw
          try dsimp only at hSw
          go_simp
          all_goals with_reducible rfl
        simp only [List.getElem_toArray, List.getElem_cons_succ, List.getElem_cons_zero, Act.put, List.setIfInBounds_toArray, List.set_cons_zero, List.set_cons_succ]
        refine wpAnyH_take (i := 3) (oi := _) (v := ?_) rfl (by kernel_rfl) (by kernel_rfl) (by kernel_rfl) (fun _ _ _ h => h) (Or.inl ⟨by rfl, ?_⟩) (by assumption) ?_
        rotate_left
        · intro w hSw
          try dsimp only at hSw
          go_simp
          all_goals with_reducible rfl
        simp only [List.getElem_toArray, List.getElem_cons_succ, List.getElem_cons_zero, Act.put, List.setIfInBounds_toArray, List.set_cons_zero, List.set_cons_succ]
        refine wpAnyH_ready (rs := [1]) (by kernel_rfl) (by simp) ?_
        refine AllReadyH.cons (o := _) rfl (fun K hK => ?_) AllReadyH.nil
        have ee0 := hHeld.1
        have ee1 := hHeld.2
        go_simp
        refine hK.out _ _ hHeld (fun _ => ?_)
        clear hK K ee0 ee1
        try simp only [List.getElem_toArray, List.getElem_cons_succ, List.getElem_cons_zero, Act.put, List.setIfInBounds_toArray, List.set_cons_zero, List.set_cons_succ]
        refine wpAnyH_ready (rs := [2]) (by kernel_rfl) (by simp) ?_
        refine AllReadyH.cons (o := _) rfl (fun K hK => ?_) AllReadyH.nil
        go_simp
        refine (HLO.out _ (by rw [← HS5.out]; exact HBD.out)).mono ?_
        rintro e w6 ⟨rfl, k6⟩
        have HB6 := Lib.hid (HBD.out.trans (k6.mono HBD.out.size))
        have HK6 := Lib.hid (HK5.out.belowV HB6.out HK5.out.lt)
        have HKI6 := Lib.hid (HKI.out.belowV HB6.out HKI.out.lt)
        have HO6 := Lib.hid (owns_below HO5.out HB6.out)
        have HBW := Lib.hid ((HB1.out.trans (HB5.out.mono HB1.out.size)).trans (HB6.out.mono (Nat.le_trans HB1.out.size HB5.out.size)))
        clear hHeld k6 HBD
        refine hK.out _ _ (HSS.out _ HB6.out).2 (fun hHeld1 => ?_)
        clear hK K
        try simp only [List.getElem_toArray, List.getElem_cons_succ, List.getElem_cons_zero, Act.put, List.setIfInBounds_toArray, List.set_cons_zero, List.set_cons_succ]
        refine wpAnyH_take (i := 4) (oi := _) (v := ?_) rfl (by kernel_rfl) (by kernel_rfl) (by kernel_rfl) (fun _ _ _ h => h) (Or.inl ⟨by rfl, ?_⟩) (by assumption) ?_
        rotate_left
        · intro w hSw
          try dsimp only at hSw
          go_simp
          all_goals with_reducible rfl
        simp only [List.getElem_toArray, List.getElem_cons_succ, List.getElem_cons_zero, Act.put, List.setIfInBounds_toArray, List.set_cons_zero, List.set_cons_succ]
        have c0 := HK6.out.cell 0
        have c1 := HK6.out.cell 1
        have f0 := HK6.out.froz 0
        have f1 := HK6.out.froz 1
        simp only [List.getElem?_toArray, List.getElem?_cons_zero, List.getElem?_cons_succ] at c0 c1
        have HF := Lib.hid (show Below w.heap.size w ((w6.setCell ⟨w.heap.size, 0, none⟩ (.slice q xs.length qc)).setCell ⟨w.heap.size, 1, none⟩ (.int .i64 v)) ∧ Blk ((w6.setCell ⟨w.heap.size, 0, none⟩ (.slice q xs.length qc)).setCell ⟨w.heap.size, 1, none⟩ (.int .i64 v)) w.heap.size 38 #[.slice q xs.length qc, .int .i64 v] ∧ OwnsV ((w6.setCell ⟨w.heap.size, 0, none⟩ (.slice q xs.length qc)).setCell ⟨w.heap.size, 1, none⟩ (.int .i64 v)) w.heap.size (.slice q xs.length qc) xs from
          ⟨(HBW.out.setCell (p := ⟨w.heap.size, 0, none⟩) (Nat.le_refl _) _).setCell (p := ⟨w.heap.size, 1, none⟩) (Nat.le_refl _) _, (HK6.out.setG 0 _).setG 1 _, own_set2 HO6.out HK6.out _ _⟩)
        have HX := Lib.hid (show ((w6.setCell ⟨w.heap.size, 0, none⟩ (.slice q xs.length qc)).setCell ⟨w.heap.size, 1, none⟩ (.int .i64 v)).cell? ⟨w4.heap.size, 0, none⟩ = some (.slice q xs.length qc) ∧ ((w6.setCell ⟨w.heap.size, 0, none⟩ (.slice q xs.length qc)).setCell ⟨w.heap.size, 1, none⟩ (.int .i64 v)).cell? ⟨w4.heap.size, 1, none⟩ = some (.int .i64 v) from
          ⟨((HKI6.out.setOther (by have := HLT.out; omega) _).setOther (by have := HLT.out; omega) _).cell 0, ((HKI6.out.setOther (by have := HLT.out; omega) _).setOther (by have := HLT.out; omega) _).cell 1⟩)
        refine wpAnyH_ready (rs := [5]) (by kernel_rfl) (by simp) ?_
        refine AllReadyH.cons (o := _) rfl (fun K hK => ?_) AllReadyH.nil
        go_simp
        refine hK.out _ _ HX.out (fun hHeld1 => ?_)
        clear hK K
        try simp only [List.getElem_toArray, List.getElem_cons_succ, List.getElem_cons_zero, Act.put, List.setIfInBounds_toArray, List.set_cons_zero, List.set_cons_succ]
        refine wpAnyH_take (i := 6) (oi := _) (v := ?_) rfl (by kernel_rfl) (by kernel_rfl) (by kernel_rfl) (fun _ _ _ h => h) (Or.inl ⟨by rfl, ?_⟩) (by assumption) ?_
        rotate_left
        · intro w hSw
          try dsimp only at hSw
          go_simp
          all_goals with_reducible rfl
        simp only [List.getElem_toArray, List.getElem_cons_succ, List.getElem_cons_zero, Act.put, List.setIfInBounds_toArray, List.set_cons_zero, List.set_cons_succ]
        refine wpAnyH_done (by kernel_rfl) ?_ _
        clear hHeld1
        go_wp2_with fail
        have r0 := HF.out.2.1.cell 0
        have r1 := HF.out.2.1.cell 1
        simp only [List.getElem?_toArray, List.getElem?_cons_zero, List.getElem?_cons_succ] at r0 r1
        refine bodyPost_ret (v := .tuple #[.agg #[.slice q xs.length qc, .int .i64 v], .bool false]) (by simp [results, Tryz.f22, go_sem, r0, r1]) rfl ?_
        exact ⟨((q, xs, qc), v), false, rfl, HF.out.1, H8.out, HF.out.2.2, (fun h => by cases h), fun _ => HNO.out⟩
    · have e1 : (er != 0) = true := by simpa using he
      have HNO := Lib.hid (show ∀ x, itOK x = true → s.data.toList ≠ lineT x from fun x hx h => by
        obtain ⟨h1, h2⟩ := HLN.out x h
        exact he (HG.out.2 ⟨x.1, (itOK_iff.1 hx).1, h2.symm⟩))
      have HK4 := Lib.hid (HK1.out.belowV HB4.out (by rw [HS1.out]; omega))
      have c0 := HK4.out.cell 0
      have c1 := HK4.out.cell 1
      have f0 := HK4.out.froz 0
      have f1 := HK4.out.froz 1
      simp only [List.getElem?_toArray, List.getElem?_cons_zero, List.getElem?_cons_succ] at c0 c1
      have HF := Lib.hid (show Below w.heap.size w ((w4.setCell ⟨w.heap.size, 0, none⟩ (.slice none 0 0)).setCell ⟨w.heap.size, 1, none⟩ (.int .i64 0)) ∧ Blk ((w4.setCell ⟨w.heap.size, 0, none⟩ (.slice none 0 0)).setCell ⟨w.heap.size, 1, none⟩ (.int .i64 0)) w.heap.size 38 #[.slice none 0 0, .int .i64 0] from
        ⟨((HB1.out.trans (HB4.out.mono HB1.out.size)).setCell (p := ⟨w.heap.size, 0, none⟩) (Nat.le_refl _) _).setCell (p := ⟨w.heap.size, 1, none⟩) (Nat.le_refl _) _, (HK4.out.setG 0 _).setG 1 _⟩)
      go_wp2_with fail
      have r0 := HF.out.2.cell 0
      have r1 := HF.out.2.cell 1
      simp only [List.getElem?_toArray, List.getElem?_cons_zero, List.getElem?_cons_succ] at r0 r1
      refine bodyPost_ret (v := .tuple #[.agg #[.slice none 0 0, .int .i64 0], .bool false]) (by simp [results, Tryz.f22, go_sem, r0, r1]) rfl ?_
      exact ⟨((none, [], 0), 0), false, rfl, HF.out.1, by simp, World.ownsRow_nil _ _ _ _, (fun h => by cases h), fun _ => HNO.out⟩
  · have HWN := Lib.hid hwn
    clear hwn
    go_wp2_with fail
    refine (HP.out _ HB3.out).mono ?_
    rintro e w4 ⟨u, rfl, o4, k4⟩
    obtain ⟨q, qc, rfl⟩ := slice_of_owns o4
    have HB4 := Lib.hid (HB3.out.trans (k4.mono HB3.out.size))
    clear k4 o4 HB3 HP
    have HNO := Lib.hid (show ∀ x, itOK x = true → s.data.toList ≠ lineT x from fun x hx h => by
      obtain ⟨h1, h2⟩ := HLN.out x h
      have h3 := inN_in (itOK_iff.1 hx).2
      have h4 := HWN.out
      rw [h1, wordNum_itoa h3.1 h3.2] at h4
      cases h4)
    have HK4 := Lib.hid (HK1.out.belowV HB4.out (by rw [HS1.out]; omega))
    have c0 := HK4.out.cell 0
    have c1 := HK4.out.cell 1
    have f0 := HK4.out.froz 0
    have f1 := HK4.out.froz 1
    simp only [List.getElem?_toArray, List.getElem?_cons_zero, List.getElem?_cons_succ] at c0 c1
    have HF := Lib.hid (show Below w.heap.size w ((w4.setCell ⟨w.heap.size, 0, none⟩ (.slice none 0 0)).setCell ⟨w.heap.size, 1, none⟩ (.int .i64 0)) ∧ Blk ((w4.setCell ⟨w.heap.size, 0, none⟩ (.slice none 0 0)).setCell ⟨w.heap.size, 1, none⟩ (.int .i64 0)) w.heap.size 38 #[.slice none 0 0, .int .i64 0] from
      ⟨((HB1.out.trans (HB4.out.mono HB1.out.size)).setCell (p := ⟨w.heap.size, 0, none⟩) (Nat.le_refl _) _).setCell (p := ⟨w.heap.size, 1, none⟩) (Nat.le_refl _) _, (HK4.out.setG 0 _).setG 1 _⟩)
    go_wp2_with fail
    have r0 := HF.out.2.cell 0
    have r1 := HF.out.2.cell 1
    simp only [List.getElem?_toArray, List.getElem?_cons_zero, List.getElem?_cons_succ] at r0 r1
    refine bodyPost_ret (v := .tuple #[.agg #[.slice none 0 0, .int .i64 0], .bool false]) (by simp [results, Tryz.f22, go_sem, r0, r1]) rfl ?_
    exact ⟨((none, [], 0), 0), false, rfl, HF.out.1, by simp, World.ownsRow_nil _ _ _ _, (fun h => by cases h), fun _ => HNO.out⟩
end Go.Proofs.YtledgnolmiecfaaGreatDoor
