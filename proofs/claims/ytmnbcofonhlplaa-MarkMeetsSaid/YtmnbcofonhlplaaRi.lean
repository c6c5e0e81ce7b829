/-
  NewMeet, Inputs, IsIdle, Held of the document's own meets, as contracts; and those of no meet at all.
-/
import Derived.Test.YtmnbcofonhlplaaRs
namespace Go.Proofs.Ytmnbcofonhlplaa
open Go.RowKit Go.Lib
set_option linter.unusedSimpArgs false

theorem infoRI : (Try.prog.info? 66).map (fun i => (i.zero, i.size, i.bytes)) = some (some (.agg #[.int .i64 0, .bool false, .bool false]), 3, 16) := by kernel_rfl
def NewPostR (w : World) (k : Nat) (e : Ending) (w' : World) : Prop := ∃ B g c, e = .returned (.tuple #[.pointer (some ⟨B, 0, none⟩), .int .i64 0]) ∧ MeetR w' w.heap.size B g c (List.replicate k in0) (-1000000000000) ∧ Below w.heap.size w w'
set_option maxRecDepth 100000 in
theorem rkNew_bad (n : Int) (h : inR n 1 8 = false) (w : World) : Calls Try.prog 9 #[.int .i64 n] w fun e w' => e = .returned (.tuple #[.pointer none, .int .i64 7]) ∧ w = w' := by
  have hw := rkWithin_any n 1 8 w
  rw [h] at hw
  go_enter Try.func9, Try.ntmps9
  go_wp2_with fail
  refine hw.mono ?_
  rintro e w1 ⟨rfl, rfl⟩
  go_wp2_with fail
  go_ret2
  exact ⟨rfl, rfl⟩
theorem slice_own6 {W : World} {lo n : Nat} {e : TypeId} {size : Nat} {v : Value} {xs : List Value} (h : W.ownsRow lo e size v n xs) : ∃ p c, v = .slice p n c := by
  rcases h.2 with ⟨rfl, h0⟩ | ⟨g', cap', cur, h', _⟩
  · exact ⟨none, 0, by rw [h0]⟩
  · exact ⟨_, _, h'⟩
theorem ownR_next {W : World} {lo : Nat} {v : Value} {i : Nat} (h : W.ownsRow lo 66 3 v (i + 1) (flatR (List.replicate i in0) ++ [.int .i64 (-1000000000000), .bool false, .bool false])) : W.ownsRow lo 66 3 v (i + 1) (flatR (List.replicate (i + 1) in0)) := by
  rw [List.replicate_succ', flatR_app]; exact h
set_option maxRecDepth 100000 in
set_option maxHeartbeats 1000000 in
theorem rkNew_ok (k : Nat) (h1 : 1 ≤ k) (h8 : k ≤ 8) (w : World) : Calls Try.prog 9 #[.int .i64 (k : Int)] w (NewPostR w k) := by
  obtain ⟨i0, hii, hz0, hz1, hz2⟩ := info_parts infoRI
  have hw := rkWithin_any (k : Int) 1 8 w
  rw [show inR (k : Int) 1 8 = true from inR_iff.2 (by omega)] at hw
  go_enter Try.func9, Try.ntmps9
  go_wp2_with fail
  refine hw.mono ?_
  rintro e w1 ⟨rfl, rfl⟩
  go_wp2_with fail
  go_loopw [5] (fun s wr => ∃ (i : Nat) (v : Value), s = .int .i64 i ∧ i ≤ k ∧ Blk wr w.heap.size 64 #[v, .int .i64 (-1000000000000)] ∧ wr.ownsRow w.heap.size 66 3 v i (flatR (List.replicate i in0)) ∧ Below w.heap.size w wr) (fun s _ => k - (RowKit.intOf s).toNat)
  case atStart => exact ⟨0, _, rfl, Nat.zero_le _, Blk.new _ _ _, World.ownsRow_nil _ _ _ _, below_new _ _⟩
  case round =>
    obtain ⟨i, v, rfl, hin, hK, hrow, hB⟩ := hrel
    have hBs := hB.size
    by_cases hlt : i < k
    · have hi0 : (0 : Int) ≤ (i : Int) := by omega
      have hi1 : (i : Int) < (k : Int) := by omega
      have c0 := hK.cell 0
      have hlt2 := hK.lt
      simp only [List.getElem?_toArray, List.getElem?_cons_zero] at c0
      have hne := fun x hx => apart_blk hrow hK (by decide) x hx
      go_wp2_with (at_builtin; refine wpList_append_own _ rfl _ _ 62 rfl w.heap.size 66 i0 (.agg #[.int .i64 0, .bool false, .bool false]) 3 16 Try.underlying62 hii hz0 hz1 hz2 rfl (by decide) _ _ _ rfl (hrow.alloc _) ⟨wr.heap.size, 0, none⟩ 1 1 [.int .i64 (-1000000000000), .bool false, .bool false] rfl rfl (cells_new _ _ _) (by simp [Value.oneCell']) (by unfold maxLen; omega) (by omega) (by simp <;> omega) ?_; intro v' w5 hown' hgrow _; have hK5 : Blk w5 w.heap.size 64 #[v, .int .i64 (-1000000000000)] := (hK.allocG _).keepG hgrow (fun e => hne _ e.symm rfl); have e0 := hK5.cell 0; have f0 := hK5.froz 0; simp only [List.getElem?_toArray, List.getElem?_cons_zero] at e0; have HB5 := Lib.hid ((hB.alloc hBs (.cells #[.int .i64 (-1000000000000), .bool false, .bool false] 66)).grown hgrow (by simp; omega) (fun k e => (hrow.lt k e).1)); obtain ⟨p', c', hv'⟩ := slice_own6 hown'; subst hv'; have HO5 := Lib.hid hown'; have HK5 := Lib.hid hK5; clear hown' hgrow hK5)
      go_roundw
      case rel =>
        have hO := ownR_next HO5.out
        exact ⟨i + 1, _, by go_num, by omega, HK5.out.setG 0 _, own_keep2 hO (keep2_set _ _ _ _ none) (fun x hx => ⟨apart_blk hO HK5.out (by decide) x hx, fun e => by cases e⟩), HB5.out.setCell (p := ⟨w.heap.size, 0, none⟩) (Nat.le_refl _) _⟩
      case measure => simp [RowKit.intOf]; omega
    · have hge : k ≤ i := by omega
      have hie : i = k := by omega
      subst hie
      obtain ⟨g, c, hv, hc⟩ : ∃ g c, v = .slice (some ⟨g, 0, none⟩) i c ∧ i ≤ c := by
        rcases hrow.2 with ⟨_, h0⟩ | ⟨g', cap', cur, h', hb, hg, hc, _⟩
        · omega
        · exact ⟨g', cap', h', hc⟩
      subst hv
      have hl : (List.replicate i in0).length = i := by simp
      have hmr : ∀ x ∈ List.replicate i in0, markR x.1 := fun x hx => by
        rw [List.eq_of_mem_replicate hx]; unfold markR; decide
      have hM : MeetR wr w.heap.size w.heap.size g c (List.replicate i in0) (-1000000000000) := ⟨Nat.le_refl _, by rw [hl]; exact hK, by rw [hl]; exact hrow, by rw [hl]; exact ⟨h1, h8⟩, hmr, by unfold markR; decide⟩
      have HM := Lib.hid hM
      have HB := Lib.hid hB
      clear hM hK hrow hB hmr hl hc
      go_wp2_with fail
      go_ret2
      exact ⟨_, g, c, rfl, HM.out, HB.out⟩

set_option maxRecDepth 100000 in
set_option maxHeartbeats 1000000 in
theorem rkInputs_any {lo B g c : Nat} {xs : List Inp} {at_ : Int} (w : World) (h : MeetR w lo B g c xs at_) :
    Calls Try.prog 15 #[.pointer (some ⟨B, 0, none⟩)] w (ListPost w (marksM xs)) := by
  obtain ⟨i0, hii, hz0, hz1, hz2⟩ := info_parts infoN
  have HM := Lib.hid h
  have hx9 : xs.length ≤ 8 := h.len.2
  clear h
  go_enter Try.func15, Try.ntmps15
  go_wp2_with fail
  go_loopw [3, 4] (fun o s wr => ∃ i : Nat, s = .int .i64 i ∧ i ≤ xs.length ∧ wr.ownsRow w.heap.size 3 1 o i (flatN ((marksM xs).take i)) ∧ Below w.heap.size w wr) (fun _ s _ => xs.length - (RowKit.intOf s).toNat)
  case atStart => exact ⟨0, rfl, Nat.zero_le _, World.ownsRow_nil _ _ _ _, Below.refl _ _⟩
  case round =>
    obtain ⟨i, rfl, hin, hrow, hB⟩ := hrel
    have hBs := hB.size
    have c0 := (HM.out.belowV hB).blk.cell 0
    simp only [List.getElem?_toArray, List.getElem?_cons_zero] at c0
    by_cases hlt : i < xs.length
    · obtain ⟨d0, d1, d2⟩ := (HM.out.belowV hB).cells hlt
      have hi0 : (0 : Int) ≤ (i : Int) := by omega
      have hi1 : (i : Int) < (xs.length : Int) := by omega
      have hml : (marksM xs).length = xs.length := by simp [marksM]
      have HNX := Lib.hid (show flatN ((marksM xs).take (i + 1)) = flatN ((marksM xs).take i) ++ [.int .i64 (xs[i]?.getD in0).1] from by
        rw [List.take_succ_eq_append_getElem (by omega)]; simp [flatN, marksM, List.getElem?_eq_getElem hlt])
      clear d1 d2 hml
      generalize (xs[i]?.getD in0).1 = m at d0 HNX
      go_wp2_with (at_builtin; refine wpList_append_own _ rfl _ _ 36 rfl w.heap.size 3 i0 (.int .i64 0) 1 8 Try.underlying36 hii hz0 hz1 hz2 rfl (by decide) _ _ _ rfl (hrow.alloc _) ⟨wr.heap.size, 0, none⟩ 1 1 [.int .i64 m] rfl rfl (cells_new _ _ _) (by simp [Value.oneCell']) (by unfold maxLen; omega) (by omega) (by simp <;> omega) ?_; intro v' w5 hown' hgrow _; have HB5 := Lib.hid ((hB.alloc hBs (.cells #[.int .i64 m] 3)).grown hgrow (by simp; omega) (fun k e => (hrow.lt k e).1)); have HO5 := Lib.hid hown'; clear hown' hgrow)
      go_roundw
      case rel => exact ⟨i + 1, by go_num, by omega, by rw [HNX.out]; exact HO5.out, HB5.out⟩
      case measure => simp [RowKit.intOf]; omega
    · have hge : xs.length ≤ i := by omega
      have hie : i = (marksM xs).length := by simp [marksM]; omega
      rw [hie, List.take_length] at hrow
      obtain ⟨p, c, hv, hP⟩ := intsIn_of_owns hrow
      have HP2 := Lib.hid hP
      have HV := Lib.hid hv
      have HB2 := Lib.hid hB
      clear hrow hie hP hv hB
      go_wp2_with fail
      go_ret
      exact ⟨p, c, by rw [← HV.out]; rfl, HP2.out, HB2.out⟩
set_option maxRecDepth 100000 in
theorem rkIsIdle_any {lo B g c : Nat} {xs : List Inp} {at_ : Int} (i : Int) (w : World) (h : MeetR w lo B g c xs at_) :
    Calls Try.prog 17 #[.pointer (some ⟨B, 0, none⟩), .int .i64 i] w fun e w' => e = .returned (.bool (idleM xs i)) ∧ w = w' := by
  have hh := rkWrong_any i w h
  have c0 := h.blk.cell 0
  simp only [List.getElem?_toArray, List.getElem?_cons_zero] at c0
  unfold idleM
  cases q1 : inR i 0 ((xs.length : Int) - 1) with
  | false =>
    rw [q1, if_neg (by decide)] at hh
    rw [Bool.false_and]
    have HH := Lib.hid hh
    clear hh h q1
    go_enter Try.func17, Try.ntmps17
    go_wp2_with fail
    refine HH.out.mono ?_
    rintro e w1 ⟨rfl, rfl⟩
    go_wp2_with fail
    go_ret
    exact ⟨rfl, rfl⟩
  | true =>
    rw [q1, if_pos rfl] at hh
    rw [Bool.true_and]
    obtain ⟨n, rfl⟩ : ∃ n : Nat, i = (n : Int) := Int.eq_ofNat_of_zero_le (inR_iff.1 q1).1
    have hn : n < xs.length := by have := inR_iff.1 q1; omega
    obtain ⟨d0, d1, d2⟩ := h.cells hn
    have hn0 : (0 : Int) ≤ (n : Int) := by omega
    have hn1 : (n : Int) < (xs.length : Int) := by omega
    rw [Int.toNat_natCast]
    have HH := Lib.hid hh
    clear hh h q1 d0 d2
    generalize (xs[n]?.getD in0).2.1 = b at *
    go_enter Try.func17, Try.ntmps17
    go_wp2_with fail
    refine HH.out.mono ?_
    rintro e w1 ⟨rfl, rfl⟩
    go_wp2_with fail
    go_ret
    exact ⟨rfl, rfl⟩
end Go.Proofs.Ytmnbcofonhlplaa
