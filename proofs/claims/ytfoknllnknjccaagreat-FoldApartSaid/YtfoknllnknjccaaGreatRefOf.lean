/-
  The document's Of at any bag, from what its tell comes to.
-/
import Derived.Test.YtfoknllnknjccaaGreatRefOf0
namespace Go.Proofs.YtfoknllnknjccaaGreat
open Go.RowKit
set_option linter.unusedSimpArgs false
set_option linter.unusedVariables false

/-- What the document's tell comes to, of a bag that lies in memory. -/
def Tells (w : World) (p : Option Addr) (rs : List ItR) (cap : Nat) (gs : List Ag) : Prop :=
  ∀ a ∈ gs, ∀ W, Below w.heap.size w W → Calls Tryz.prog 76 #[nAg a, .slice p rs.length cap] W (ValPost W (tellK a.1 (took a (vals rs))))
set_option maxRecDepth 100000 in
set_option maxHeartbeats 1000000 in
theorem refTell_any (p q : Option Addr) (gs : List Ag) (rs : List ItR) (c d : Nat) (hl : gs.length ≤ 8) (w : World) (hX : AggsIn w p gs) (hT : Tells w q rs d gs) :
    Calls Tryz.prog 47 #[.slice p gs.length c, .slice q rs.length d] w (OwnP w (toldV gs (vals rs))) := by
  obtain ⟨i0, hi, hz0, hz1, hz2⟩ := info_parts infoV
  have HX := Lib.hid hX
  have HT := Lib.hid fun (i : Nat) (h : i < gs.length) => hT (gs[i]?.getD ag0) (by rw [List.getElem?_eq_getElem h]; exact List.getElem_mem h)
  have HL := Lib.hid (show (toldV gs (vals rs)).length = gs.length from by simp [toldV])
  clear hX hT
  go_enter Tryz.func47, Tryz.ntmps47
  go_wp2_with fail
  go_loopw [5, 6] (fun o s wr => ∃ i : Nat, s = .int .i64 i ∧ i ≤ gs.length ∧ wr.ownsRow w.heap.size 55 3 o i (flatV (toldV (gs.take i) (vals rs))) ∧ Below w.heap.size w wr) (fun _ s _ => gs.length - (RowKit.intOf s).toNat)
  case atStart => exact ⟨0, rfl, Nat.zero_le _, World.ownsRow_nil _ _ _ _, Below.refl _ _⟩
  case round =>
    obtain ⟨i, rfl, hin, hrow, hB⟩ := hrel
    by_cases hlt : i < gs.length
    · obtain ⟨b, off, rfl, hbl, hra⟩ := HX.out (by omega)
      obtain ⟨c0, c1⟩ := (hra.belowV hB hbl) i hlt
      have hi0 : (0 : Int) ≤ (i : Int) := by omega
      have hi1 : (i : Int) < (gs.length : Int) := by omega
      have hnx := toldV_next (l := vals rs) hlt
      have hTT := HT.out i hlt wr hB
      clear hra
      generalize gs[i]?.getD ag0 = x at c0 c1 hnx hTT
      generalize tellK x.1 (took x (vals rs)) = y at hnx hTT
      obtain ⟨x0, x1⟩ := x
      obtain ⟨y0, y1, y2⟩ := y
      have HNX := Lib.hid hnx
      have HTT := Lib.hid hTT
      have HROW := Lib.hid hrow
      have HB := Lib.hid hB
      clear hnx hTT hrow hB
      dsimp only at c0 c1
      go_wp2_with fail
      refine HTT.out.mono ?_
      rintro e w1 ⟨rfl, hb1⟩
      have hB1 := HB.out.trans (hb1.mono HB.out.size)
      have hBs := hB1.size
      have hrow := owns_below HROW.out hb1
      clear hb1
      dsimp only [valA]
      go_wp2_with (at_builtin; refine wpList_append_own _ rfl _ _ 34 rfl w.heap.size 55 i0 (.agg #[.int .i64 0, .int .i64 0, .string ⟨#[]⟩]) 3 32 Tryz.underlying34 hi hz0 hz1 hz2 rfl (by decide) _ _ _ rfl (hrow.alloc _) ⟨w1.heap.size, 0, none⟩ 1 1 (cellsV (y0, y1, y2)) rfl rfl (cells_new _ _ _) (by simp [cellsV, Value.oneCell']) (by unfold maxLen; omega) (by omega) (by simp <;> omega) ?_; intro v' w5 hown' hgrow _; have hB5 : Below w.heap.size w w5 := (hB1.alloc hBs _).grown hgrow (by simp <;> omega) (fun k e => (hrow.lt k e).1))
      go_roundw
      case rel => exact ⟨i + 1, by go_num, by omega, by rw [HNX.out, flatV_app]; simpa [flatV] using hown', hB5⟩
      case measure => simp [RowKit.intOf]; omega
    · have hge : gs.length ≤ i := by omega
      have hie : i = gs.length := by omega
      have HF := Lib.hid (show wr.ownsRow w.heap.size 55 3 _ (toldV gs (vals rs)).length (flatV (toldV gs (vals rs))) by have h := hrow; rw [hie, List.take_length] at h; rw [HL.out]; exact h)
      clear hie hrow
      go_wp2_with fail
      go_ret
      exact ⟨_, rfl, HF.out, hB⟩

def wideB (n : Int) (l : List It) : Bool := l.all fun x => decide ((x.1.length : Int) = n)
theorem wideB_next {n : Int} {l : List It} {i : Nat} (h : i < l.length) : wideB n (l.take (i + 1)) = (wideB n (l.take i) && decide (((l[i]?.getD it0).1.length : Int) = n)) := by
  unfold wideB
  rw [List.take_succ_eq_append_getElem h, List.all_append]; simp [h]
theorem wideB_stop {n : Int} {l : List It} {i : Nat} (h : wideB n (l.take i) = false) : wideB n l = false := by
  unfold wideB at h ⊢
  rw [← List.take_append_drop i l, List.all_append, h]; rfl
set_option maxRecDepth 100000 in
theorem refWidth_any (p : Option Addr) (rs : List ItR) (c : Nat) (n : Int) (hm : rs.length ≤ 9223372036854775807) (w : World) (hX : ItemsIn w p rs) :
    Calls Tryz.prog 55 #[.slice p rs.length c, .int .i64 n] w (BelowB w (wideB n (vals rs) && validBag (vals rs))) := by
  have HV := Lib.hid (refBagValid_any p rs c hm w hX)
  have HX := Lib.hid hX
  clear hX
  go_enter Tryz.func55, Tryz.ntmps55
  go_wp2_with fail
  go_loopw [5] (fun s wr => ∃ i : Nat, s = .int .i64 i ∧ i ≤ rs.length ∧ Hid (wideB n ((vals rs).take i) = true) ∧ wr = w) (fun s _ => rs.length - (RowKit.intOf s).toNat)
  case atStart => exact ⟨0, rfl, Nat.zero_le _, rfl, rfl⟩
  case round =>
    obtain ⟨i, rfl, hin, hv, rfl⟩ := hrel
    by_cases hlt : i < rs.length
    · obtain ⟨b, off, rfl, hbl, hra⟩ := HX.out (by omega)
      obtain ⟨c0, c1, c2, _⟩ := hra i hlt
      have hi0 : (0 : Int) ≤ (i : Int) := by omega
      have hi1 : (i : Int) < (rs.length : Int) := by omega
      have hnx := wideB_next (n := n) (l := vals rs) (i := i) (by rw [vals_len]; exact hlt)
      rw [vals_get, hv.out, Bool.true_and] at hnx
      have hlen := c2.1
      clear hra c2
      generalize rs[i]?.getD ir0 = r at c0 c1 hnx hlen
      obtain ⟨⟨q, xs, qc⟩, m⟩ := r
      dsimp only [rowv, itv] at c0 c1 hnx hlen
      have HNX := Lib.hid hnx
      clear hnx
      by_cases he : (xs.length : Int) = n
      · have hne : ((xs.length : Int) != n) = false := by simpa using he
        have HE := Lib.hid he
        clear he
        go_wp2_with fail
        go_roundw
        case rel => exact ⟨i + 1, by go_num, by omega, (by show _ = _; rw [HNX.out]; exact decide_eq_true HE.out), by first | rfl | trivial⟩
        case measure => simp [RowKit.intOf]; omega
      · have hne : ((xs.length : Int) != n) = true := by simpa using he
        have HF : Hid (wideB n (vals rs) = false) := Lib.hid (wideB_stop (i := i + 1) (by rw [HNX.out]; exact decide_eq_false he))
        clear he
        go_wp2_with fail
        go_ret
        rw [HF.out]
        exact ⟨rfl, Below.refl _ _⟩
    · have hge : rs.length ≤ i := by omega
      have hie : i = rs.length := by omega
      have HF : Hid (wideB n (vals rs) = true) := Lib.hid (by have := hv.out; rwa [hie, ← vals_len, List.take_length] at this)
      clear hie hv
      have HZ := Lib.hid (show (wideB n (vals rs) && validBag (vals rs)) = validBag (vals rs) from by rw [HF.out, Bool.true_and])
      go_wp2_with fail
      refine HV.out.mono ?_
      rintro e w1 ⟨rfl, hb1⟩
      go_wp2_with fail
      go_ret
      rw [HZ.out]
      exact ⟨rfl, hb1⟩
set_option maxRecDepth 100000 in
theorem refOf_any (p q : Option Addr) (gs : List Ag) (rs : List ItR) (c d : Nat) (n : Int) (hm : rs.length ≤ 9223372036854775807) (hv : validL n gs = true) (hw : (wideB n (vals rs) && validBag (vals rs)) = true) (hn0 : 0 ≤ n) (hn8 : n ≤ 8) (w : World) (hX : AggsIn w p gs) (hR : ItemsIn w q rs) (hT : ∀ W, Below w.heap.size w W → Tells W q rs d gs) :
    Calls Tryz.prog 26 #[.slice p gs.length c, .int .i64 n, .slice q rs.length d] w (ResPost w (if wholeB (vals rs) = true then toldV gs (vals rs) else []) (if wholeB (vals rs) = true then 0 else 10)) := by
  have hl := validL_len hv
  have HV := Lib.hid (refValidL_any p gs c n (by omega) w hX)
  rw [hv] at HV
  have HW := Lib.hid fun W (h : Below w.heap.size w W) => refWidth_any q rs d n hm W (hR.belowV h)
  rw [hw] at HW
  have hnn : decide (0 ≤ n ∧ n ≤ 8) = true := decide_eq_true ⟨hn0, hn8⟩
  have HN := Lib.hid fun W => within5_any n 0 8 W
  rw [hnn] at HN
  have HT := Lib.hid fun W (h : Below w.heap.size w W) => refTell_any p q gs rs c d (by omega) W (hX.belowV h) (hT W h)
  have HH := Lib.hid fun W (h : Below w.heap.size w W) => refWhole_any q rs d hm W (hR.belowV h)
  clear hX hv hl hw hR hT hnn
  cases hwb : wholeB (vals rs) with
  | true =>
    rw [hwb] at HH
    rw [if_pos rfl, if_pos rfl]
    clear hwb
    go_enter Tryz.func26, Tryz.ntmps26
    go_wp2_with fail
    refine HV.out.mono ?_
    rintro e w1 ⟨rfl, hb1⟩
    go_wp2_with fail
    refine (HW.out _ hb1).mono ?_
    rintro e w2 ⟨rfl, hb2⟩
    have HB2 := Lib.hid (hb1.trans (hb2.mono hb1.size))
    clear hb1 hb2
    go_wp2_with fail
    refine (HN.out _).mono ?_
    rintro e w3 ⟨rfl, rfl⟩
    go_wp2_with fail
    refine (HH.out _ HB2.out).mono ?_
    rintro e w3 ⟨rfl, hb3⟩
    have HB3 := Lib.hid (HB2.out.trans (hb3.mono HB2.out.size))
    clear hb3
    go_wp2_with fail
    refine (HT.out _ HB3.out).mono ?_
    rintro e w4 ⟨v, rfl, ho, hb4⟩
    have HZ := Lib.hid (And.intro (ownsRow_base ho HB3.out.size) (HB3.out.trans (hb4.mono HB3.out.size)))
    clear ho hb4
    go_wp2_with fail
    go_ret2
    exact ⟨_, rfl, HZ.out.1, HZ.out.2⟩
  | false =>
    rw [hwb] at HH
    rw [if_neg (by decide), if_neg (by decide)]
    clear hwb
    go_enter Tryz.func26, Tryz.ntmps26
    go_wp2_with fail
    refine HV.out.mono ?_
    rintro e w1 ⟨rfl, hb1⟩
    go_wp2_with fail
    refine (HW.out _ hb1).mono ?_
    rintro e w2 ⟨rfl, hb2⟩
    have HB2 := Lib.hid (hb1.trans (hb2.mono hb1.size))
    clear hb1 hb2
    go_wp2_with fail
    refine (HN.out _).mono ?_
    rintro e w3 ⟨rfl, rfl⟩
    go_wp2_with fail
    refine (HH.out _ HB2.out).mono ?_
    rintro e w3 ⟨rfl, hb3⟩
    have HB3 := Lib.hid (HB2.out.trans (hb3.mono HB2.out.size))
    clear hb3
    go_wp2_with fail
    go_ret2
    exact ⟨_, rfl, World.ownsRow_nil _ _ _ _, HB3.out⟩
end Go.Proofs.YtfoknllnknjccaaGreat
