/-
  Kinds of package fold and of the document, as contracts.
-/
import Derived.Test.YtkldokmmboebmaaAgL
import Derived.Test.YtkldokmmboebmaaSchema
import Derived.Test.YtkldokmmboebmaaRefSchema
import Derived.Test.YtkldokmmboebmaaInts5
namespace Go.Proofs.Ytkldokmmboebmaa
open Go.RowKit

def toldK2 (k ck : Int) : Int × Bool := if k = 4 ∨ k = 5 then (ck, true) else if k = 3 ∨ k = 6 then (1, ck == 1) else (1, true)
def kdAt (l : List Col) (a : Ag) : Int × Bool := toldK2 a.1 (colAt l a.2.toNat).2
def kindsOK (l : List Col) (gs : List Ag) : Bool := gs.all fun a => (kdAt l a).2
def kindsV (l : List Col) (gs : List Ag) : List Int := gs.map fun a => (kdAt l a).1
def kErr (l : List Col) (gs : List Ag) : Int := if schemaOK l = true ∧ validL l.length gs = true then (if kindsOK l gs = true then 0 else 11) else 1
def kVal (l : List Col) (gs : List Ag) : List Int := if kErr l gs = 0 then kindsV l gs else []
theorem kindsV_next {l : List Col} {gs : List Ag} {i : Nat} (h : i < gs.length) : kindsV l (gs.take (i + 1)) = kindsV l (gs.take i) ++ [(kdAt l (gs[i]?.getD ag0)).1] := by
  unfold kindsV
  rw [List.take_succ_eq_append_getElem h, List.map_append, List.getElem?_eq_getElem h]; rfl
theorem kinds_no {l : List Col} {gs : List Ag} {i : Nat} (h : i < gs.length) (hn : (kdAt l (gs[i]?.getD ag0)).2 = false) : kindsOK l gs = false := by
  unfold kindsOK
  rw [List.all_eq_false]
  rw [List.getElem?_eq_getElem h] at hn
  exact ⟨gs[i], List.getElem_mem h, by simpa using hn⟩
theorem kinds_yes {l : List Col} {gs : List Ag} (h : ∀ j, j < gs.length → (kdAt l (gs[j]?.getD ag0)).2 = true) : kindsOK l gs = true := by
  unfold kindsOK
  rw [List.all_eq_true]
  intro x hx
  obtain ⟨k, hk, rfl⟩ := List.mem_iff_getElem.1 hx
  have := h k hk
  rw [List.getElem?_eq_getElem hk] at this
  exact this
theorem agg_col {l : List Col} {gs : List Ag} (hs : schemaOK l = true) (hv : validL l.length gs = true) {i : Nat} (hi : i < gs.length) : 0 ≤ (gs[i]?.getD ag0).2 ∧ (gs[i]?.getD ag0).2 < (l.length : Int) := by
  have h1 := (schemaOK_is hs).1
  unfold validL at hv
  rw [Bool.and_eq_true] at hv
  rw [List.getElem?_eq_getElem hi]
  have := List.all_eq_true.1 hv.2 _ (List.getElem_mem hi)
  unfold aggOK aggP at this
  rcases of_decide_eq_true this with h | h
  · show 0 ≤ gs[i].2 ∧ gs[i].2 < _
    omega
  · exact ⟨h.2.2.1, h.2.2.2⟩
theorem col_kind {l : List Col} (hs : schemaOK l = true) {j : Nat} (hj : j < l.length) : (colAt l j).2 = 1 ∨ (colAt l j).2 = 2 := ((schemaOK_is hs).2.2 j hj).1.2
def KPost (w : World) (ks : List Int) (er : Int) (e : Ending) (w' : World) : Prop := ∃ p c, e = .returned (.tuple #[.slice p ks.length c, .int .i64 er]) ∧ IntsIn w' p ks ∧ Below w.heap.size w w'
theorem kPost_nil {w w' : World} {er : Int} (h : Below w.heap.size w w') : KPost w [] er (.returned (.tuple #[.slice none 0 0, .int .i64 er])) w' := ⟨none, 0, rfl, fun h => absurd h (by simp), h⟩
def flatN (ks : List Int) : List Value := ks.map (.int .i64)
theorem intsIn_of_owns {W : World} {base c : Nat} {p : Option Addr} {ks : List Int} {n : Nat} (hn : n = ks.length) (h : W.ownsRow base 3 1 (.slice p n c) n (flatN ks)) : IntsIn W p ks := fun hp => by
  subst hn
  have hh := h
  rcases h.2 with ⟨h0, hn⟩ | ⟨g, cap, cur, he, _, hg, _⟩
  · omega
  · simp only [Value.slice.injEq, true_and] at he
    obtain ⟨rfl, rfl⟩ := he
    refine ⟨g, 0, rfl, (Array.getElem?_eq_some_iff.1 hg).1, fun i hi => ?_⟩
    simp only [Nat.zero_add]
    refine (hh.cellAt i (by omega)).trans ?_
    unfold flatN
    rw [List.getElem?_map, List.getElem?_eq_getElem hi]; rfl
theorem owns_belowN {W W' : World} {base : Nat} {v : Value} {k : Nat} {e : TypeId} {size : Nat} {xs : List Value} (h : W.ownsRow base e size v k xs) (hb : Below W.heap.size W W') : W'.ownsRow base e size v k xs := owns_below h hb
theorem infoN : (Try.prog.info? 3).map (fun i => (i.zero, i.size, i.bytes)) = some (some (.int .i64 0), 1, 8) := by kernel_rfl

theorem toldKind_any (k ck : Int) (w : World) : Calls Try.prog 23 #[.int .i64 k, .int .i64 ck] w fun e w' => e = .returned (.tuple #[.int .i64 (toldK2 k ck).1, .bool (toldK2 k ck).2]) ∧ w = w' := by
  by_cases h4 : k = 4
  · subst h4
    go_enter Try.func23, Try.ntmps23
    go_wp2_with fail
    go_ret2
    exact ⟨rfl, rfl⟩
  by_cases h5 : k = 5
  · subst h5
    go_enter Try.func23, Try.ntmps23
    go_wp2_with fail
    go_ret2
    exact ⟨rfl, rfl⟩
  by_cases h3 : k = 3
  · subst h3
    go_enter Try.func23, Try.ntmps23
    go_wp2_with fail
    go_ret2
    exact ⟨rfl, rfl⟩
  by_cases h6 : k = 6
  · subst h6
    go_enter Try.func23, Try.ntmps23
    go_wp2_with fail
    go_ret2
    exact ⟨rfl, rfl⟩
  have e : toldK2 k ck = (1, true) := by unfold toldK2; rw [if_neg (by omega), if_neg (by omega)]
  rw [e]
  have d3 : (k == 3) = false := by simpa using h3
  have d4 : (k == 4) = false := by simpa using h4
  have d5 : (k == 5) = false := by simpa using h5
  have d6 : (k == 6) = false := by simpa using h6
  clear h3 h4 h5 h6 e
  go_enter Try.func23, Try.ntmps23
  go_wp2_with fail
  go_ret2
  exact ⟨rfl, rfl⟩

set_option maxRecDepth 100000 in
set_option maxHeartbeats 4000000 in
theorem kinds_any (p q : Option Addr) (l : List Col) (gs : List Ag) (c d : Nat) (hl : l.length ≤ 1000) (hg : gs.length ≤ 1000) (hsz : ∀ j, (colAt l j).1.size ≤ maxLen) (w : World) (hX : ColsIn w p l) (hG : AggsIn w q gs) :
    Calls Try.prog 8 #[.slice p l.length c, .slice q gs.length d] w (KPost w (kVal l gs) (kErr l gs)) := by
  have h1 := rowSchema_any p l c (by omega) hsz w hX
  have h2 := fun W (h : Below w.heap.size w W) => foldValid_any q gs d l.length (by omega) W (hG.belowV h)
  obtain ⟨i0, hi, hz0, hz1, hz2⟩ := info_parts infoN
  cases q1 : schemaOK l with
  | false =>
    have e1 : kErr l gs = 1 := by unfold kErr; rw [q1, if_neg (by rintro ⟨h, _⟩; cases h)]
    have e2 : kVal l gs = [] := by unfold kVal; rw [e1]; rfl
    rw [e1, e2]
    rw [q1] at h1
    have H1 := Lib.hid h1
    clear h1 h2 hX hG q1 e1 e2
    go_enter Try.func8, Try.ntmps8
    go_wp2_with fail
    refine H1.out.mono ?_
    rintro e w1 ⟨rfl, hb1⟩
    go_wp2_with fail
    go_ret2
    exact kPost_nil hb1
  | true =>
    cases q2 : validL l.length gs with
    | false =>
      have e1 : kErr l gs = 1 := by unfold kErr; rw [q2, if_neg (by rintro ⟨_, h⟩; cases h)]
      have e2 : kVal l gs = [] := by unfold kVal; rw [e1]; rfl
      rw [e1, e2]
      rw [q1] at h1
      rw [q2] at h2
      have H1 := Lib.hid h1
      have H2 := Lib.hid h2
      clear h1 h2 hX hG q1 q2 e1 e2
      go_enter Try.func8, Try.ntmps8
      go_wp2_with fail
      refine H1.out.mono ?_
      rintro e w1 ⟨rfl, hb1⟩
      go_wp2_with fail
      refine (H2.out w1 hb1).mono ?_
      rintro e w2 ⟨rfl, hb2⟩
      go_wp2_with fail
      go_ret2
      exact kPost_nil (hb1.trans (hb2.mono hb1.size))
    | true =>
      have HER := Lib.hid (show (kindsOK l gs = false → kErr l gs = 11 ∧ kVal l gs = []) ∧ (kindsOK l gs = true → kErr l gs = 0 ∧ kVal l gs = kindsV l gs) from by
        constructor
        · intro h
          have e1 : kErr l gs = 11 := by unfold kErr; rw [if_pos ⟨q1, q2⟩, h]; rfl
          exact ⟨e1, by unfold kVal; rw [e1]; rfl⟩
        · intro h
          have e1 : kErr l gs = 0 := by unfold kErr; rw [if_pos ⟨q1, q2⟩, h]; rfl
          exact ⟨e1, by unfold kVal; rw [e1, if_pos rfl]⟩)
      have HCOL := Lib.hid fun i (hi : i < gs.length) => agg_col q1 q2 hi
      generalize kErr l gs = ke at HER ⊢
      generalize kVal l gs = kv at HER ⊢
      rw [q1] at h1
      rw [q2] at h2
      have H1 := Lib.hid h1
      have H2 := Lib.hid h2
      have HX := Lib.hid hX
      have HG := Lib.hid hG
      have HTK := Lib.hid toldKind_any
      clear h1 h2 hX hG q1 q2
      go_enter Try.func8, Try.ntmps8
      go_wp2_with fail
      refine H1.out.mono ?_
      rintro e w1 ⟨rfl, hb1⟩
      go_wp2_with fail
      refine (H2.out w1 hb1).mono ?_
      rintro e w2 ⟨rfl, hb2⟩
      have hB2 := hb1.trans (hb2.mono hb1.size)
      have HB2 := Lib.hid hB2
      clear hb1 hb2 H1 H2
      go_wp2_with (at_make; refine wpList_make_full _ rfl _ _ 29 rfl w2.heap.size 3 i0 (.int .i64 0) 1 Try.underlying29 hi hz0 hz1 .i64 .i64 _ _ gs.length rfl rfl rfl rfl (by rw [hz2]; omega) (by unfold maxLen; omega) (Nat.le_refl _) ?_; intro w3 hrow3 hg3)
      have hB3 : Below w.heap.size w w3 := hB2.grown hg3 hB2.size (fun k e => by cases e)
      go_loopw [26] (fun s wr => ∃ (i : Nat) (L : List Value), s = .int .i64 i ∧ i ≤ gs.length ∧ wr.ownsRow w2.heap.size 3 1 (.slice (some ⟨w2.heap.size, 0, none⟩) gs.length gs.length) gs.length L ∧ Hid (L.take i = flatN (kindsV l (gs.take i))) ∧ Hid (∀ j, j < i → (kdAt l (gs[j]?.getD ag0)).2 = true) ∧ Below w.heap.size w wr) (fun s _ => gs.length - (intOf s).toNat)
      case atStart => exact ⟨0, _, rfl, Nat.zero_le _, hrow3, (by simp [Hid, kindsV, flatN]), (fun j hj => absurd hj (by omega)), hB3⟩
      case round =>
        clear hrow3 hg3 hB3 hB2
        obtain ⟨i, L, rfl, hin, hrow, hL, hOK, hB⟩ := hrel
        have hBs := hB.size
        by_cases hlt : i < gs.length
        · obtain ⟨b, off, rfl, hbl, hra⟩ := HG.out (by omega)
          obtain ⟨g0, g1⟩ := (hra.belowV hB hbl) i hlt
          have hi0 : (0 : Int) ≤ (i : Int) := by omega
          have hi1 : (i : Int) < (gs.length : Int) := by omega
          have hnx := kindsV_next (l := l) hlt
          have hno := fun h => kinds_no (l := l) hlt h
          have hcol := HCOL.out i hlt
          clear hra
          generalize hga : gs[i]?.getD ag0 = a at g0 g1 hnx hno hcol
          obtain ⟨k, m⟩ := a
          dsimp only at g0 g1 hcol
          obtain ⟨j, rfl⟩ : ∃ j : Nat, m = (j : Int) := Int.eq_ofNat_of_zero_le hcol.1
          have hjl : j < l.length := by omega
          obtain ⟨bs, offs, rfl, hbls, hras⟩ := HX.out (by omega)
          obtain ⟨_, k1⟩ := (hras.belowV hB hbls) j hjl
          have hkd : kdAt l (k, (j : Int)) = toldK2 k (colAt l j).2 := rfl
          rw [hkd] at hnx hno
          have hOK2 : (toldK2 k (colAt l j).2).2 = true → ∀ j', j' < i + 1 → (kdAt l (gs[j']?.getD ag0)).2 = true := fun h j' hj' => by
            by_cases e : j' = i
            · rw [e, hga]; exact h
            · exact hOK.out j' (by omega)
          obtain ⟨hj0, hj1⟩ := hcol
          clear hras hga hkd hOK
          generalize (colAt l j).2 = ck at k1 hnx hno hOK2
          have hTK := fun W => HTK.out k ck W
          generalize toldK2 k ck = tk at hTK hnx hno hOK2
          obtain ⟨kv', bo⟩ := tk
          dsimp only at hTK hnx hno hOK2
          have HTK2 := Lib.hid hTK
          have HNX := Lib.hid hnx
          have HNO := Lib.hid hno
          have HOK2 := Lib.hid hOK2
          have HROW := Lib.hid hrow
          have HL := Lib.hid hL.out
          have kb := Blk.new wr 28 #[.int .i64 k, .int .i64 (j : Int)]
          have t0 := kb.cell 0
          have t1 := kb.cell 1
          simp only [List.getElem?_toArray, List.getElem?_cons_zero, List.getElem?_cons_succ] at t0 t1
          have hbN := below_new wr (.cells #[.int .i64 k, .int .i64 (j : Int)] 28)
          have hB4 := hB.alloc hBs (.cells #[.int .i64 k, .int .i64 (j : Int)] 28)
          have k1' := (hbN.cell (p := ⟨bs, offs + j * 2 + 1, none⟩) (by show bs < _; omega)).trans k1
          have hrow4 := owns_belowN hrow hbN
          clear hTK hnx hno hOK2 hrow hL k1 hbN kb
          cases bo with
          | false =>
            go_wp2_with fail
            generalize wr.alloc (.cells #[.int .i64 k, .int .i64 (j : Int)] 28) = W4 at *
            go_quiet ((go_at_call 23; exact quiet_eq (HTK2.out _)))
            go_wp2_with fail
            go_ret2
            have hn := HER.out.1 (HNO.out (by first | exact rfl | exact trivial))
            rw [hn.1, hn.2]
            exact kPost_nil (below_drewN hB4 _)
          | true =>
            have f0 := hrow4.frozenAt i
            have hLl : L.length = gs.length * 1 := hrow4.1
            obtain ⟨u0, e0⟩ : ∃ u, (wr.alloc (.cells #[.int .i64 k, .int .i64 (j : Int)] 28)).cell? ⟨w2.heap.size, i, none⟩ = some u := ⟨_, (hrow4.cellAt i (by omega)).trans (List.getElem?_eq_getElem (by omega))⟩
            have HR4 := Lib.hid hrow4
            have HT := Lib.hid (show (L.set i (.int .i64 kv')).take (i + 1) = flatN (kindsV l (gs.take (i + 1))) by
              rw [List.take_succ_eq_append_getElem (by rw [List.length_set]; omega), List.take_set_of_le (Nat.le_refl _), HL.out, HNX.out]
              simp [flatN])
            have HB2S := Lib.hid HB2.out.size
            clear hrow4 hLl
            go_wp2_with fail
            generalize wr.alloc (.cells #[.int .i64 k, .int .i64 (j : Int)] 28) = W4 at *
            go_quiet ((go_at_call 23; exact quiet_eq (HTK2.out _)))
            have hst := (show (W4.drewN nq).ownsRow w2.heap.size 3 1 (.slice (some ⟨w2.heap.size, 0, none⟩) gs.length gs.length) gs.length L from HR4.out).stored i (.int .i64 kv')
            have hB5 : Below w.heap.size w ((W4.drewN nq).setCell ⟨w2.heap.size, i, none⟩ (.int .i64 kv')) := (below_drewN hB4 nq).setCell HB2S.out _
            have HST := Lib.hid (And.intro hst.1 hB5)
            clear hst hB5
            go_wp2_with fail
            go_roundw
            case rel => exact ⟨i + 1, _, by go_num, by omega, HST.out.1, HT.out, HOK2.out (by first | exact rfl | exact trivial), HST.out.2⟩
            case measure => simp [intOf]; omega
        · have hge : gs.length ≤ i := by omega
          have hie : i = gs.length := by omega
          have hk := HER.out.2 (kinds_yes fun j hj => hOK.out j (by omega))
          have hF : wr.ownsRow w2.heap.size 3 1 (.slice (some ⟨w2.heap.size, 0, none⟩) gs.length gs.length) gs.length (flatN (kindsV l gs)) := by
            have hLl : L.length = gs.length * 1 := hrow.1
            have := hL.out
            rw [hie, List.take_length, List.take_of_length_le (by omega)] at this
            rw [← this]; exact hrow
          have HFI := Lib.hid (show ke = 0 ∧ gs.length = kv.length ∧ IntsIn wr (some ⟨w2.heap.size, 0, none⟩) kv from ⟨hk.1, by rw [hk.2]; simp [kindsV], by rw [hk.2]; exact intsIn_of_owns (by simp [kindsV]) hF⟩)
          clear hk hF hie hrow
          go_wp2_with fail
          go_ret2
          exact ⟨some ⟨w2.heap.size, 0, none⟩, gs.length, by rw [HFI.out.1, ← HFI.out.2.1] <;> rfl, HFI.out.2.2, hB⟩
end Go.Proofs.Ytkldokmmboebmaa
