/-
  fill of package clock, as a contract.
-/
import Derived.Test.YtakekegghpgeaaaDoorAt
namespace Go.Proofs.YtakekegghpgeaaaDoor
open Go.RowKit Go.Lib
set_option linter.unusedSimpArgs false

abbrev PairW := Nat × ByteArray
abbrev pw0 : PairW := (0, ⟨#[]⟩)
def plainW (l : List PairW) : List (Nat × List UInt8) := l.map fun x => (x.1, x.2.data.toList)
theorem fill_step (l : List PairW) (i : Nat) (h : i < l.length) (cs : List Int) : fillGo (plainW (l.drop i)) cs = match wordNum (l[i]?.getD pw0).2.data.toList with
    | some v => fillGo (plainW (l.drop (i + 1))) (cs.set (l[i]?.getD pw0).1 v)
    | none => (cs, false) := by
  rw [List.drop_eq_getElem_cons h, List.getElem?_eq_getElem h]
  rfl
def FillPost (w : World) (S : Nat) (R : List Int × Bool) (e : Ending) (w' : World) : Prop := e = .returned (.bool R.2) ∧ SpL w' S R.1 ∧ Grew w S w'
set_option maxRecDepth 100000 in
set_option maxHeartbeats 2000000 in
theorem fill_any (S : Nat) (l : List PairW) (cs : List Int) (p q : Option Addr) (c d : Nat) (w : World) (hl : l.length ≤ 3) (hcs : cs.length = 5) (ho : ∀ x ∈ l, x.1 < 5 ∧ x.2.size ≤ 1000000)
    (hP : 0 < l.length → ∃ g0, p = some ⟨g0, 0, none⟩ ∧ g0 < w.heap.size ∧ g0 ≠ S ∧ ∀ i, i < l.length → w.cell? ⟨g0, i, none⟩ = some (.pointer (some ⟨S, (l[i]?.getD pw0).1, none⟩)))
    (hQ : 0 < l.length → ∃ g1 o1, q = some ⟨g1, o1, none⟩ ∧ g1 < w.heap.size ∧ g1 ≠ S ∧ ∀ i, i < l.length → w.cell? ⟨g1, o1 + i, none⟩ = some (.string (l[i]?.getD pw0).2))
    (B : Nat) (hB : B ≤ S) (hBw : B ≤ w.heap.size) (hE : Env B w) (h : SpL w S cs) :
    Calls Tryd.prog 26 #[.slice p l.length c, .slice q l.length d] w (FillPost w S (fillGo (plainW l) cs)) := by
  obtain ⟨R, hR⟩ : ∃ R, R = fillGo (plainW l) cs := ⟨_, rfl⟩
  rw [← hR]
  have HR := Lib.hid hR
  have HP := Lib.hid hP
  have HQ := Lib.hid hQ
  have HE := Lib.hid hE
  have H := Lib.hid h
  have HO := Lib.hid ho
  have HCS := Lib.hid hcs
  have HBB := Lib.hid (And.intro hB hBw)
  clear hR hP hQ hE h ho hcs hB hBw
  go_enter Tryd.func26, Tryd.ntmps26
  go_wp2_with fail
  go_loopw [11] (fun s wr => ∃ (i : Nat) (xs : List Int), s = .int .i64 i ∧ i ≤ l.length ∧ Hid (fillGo (plainW (l.drop i)) xs = R) ∧ Hid (xs.length = 5) ∧ Hid (SpL wr S xs) ∧ Hid (Grew w S wr)) (fun s _ => l.length - (RowKit.intOf s).toNat)
  case atStart => exact ⟨0, cs, rfl, Nat.zero_le _, HR.out.symm, HCS.out, H.out, grew_refl _ _⟩
  case round =>
    obtain ⟨i, xs, rfl, hin, HG, HX, HS, HK⟩ := hrel
    by_cases hlt : i < l.length
    · obtain ⟨g0, rfl, hg0, hn0, hp⟩ := HP.out (by omega)
      obtain ⟨g1, o1, rfl, hg1, hn1, hq⟩ := HQ.out (by omega)
      have cp := ((HK.out.block g0 hg0 (fun e => hn0 (Option.some.inj e))))
      have cp : wr.cell? ⟨g0, i, none⟩ = some (.pointer (some ⟨S, (l[i]?.getD pw0).1, none⟩)) := by
        rw [← hp i hlt]; simp only [World.cell?, cp]
      have cq := ((HK.out.block g1 hg1 (fun e => hn1 (Option.some.inj e))))
      have cq : wr.cell? ⟨g1, o1 + i, none⟩ = some (.string (l[i]?.getD pw0).2) := by
        rw [← hq i hlt]; simp only [World.cell?, cq]
      have hi0 : (0 : Int) ≤ (i : Int) := by omega
      have hi1 : (i : Int) < (l.length : Int) := by omega
      have hg := HG.out
      rw [fill_step l i hlt] at hg
      have hm := HO.out (l[i]?.getD pw0) (by rw [List.getElem?_eq_getElem hlt]; exact List.getElem_mem hlt)
      have hg0' : g0 < wr.heap.size := Nat.lt_of_lt_of_le hg0 HK.out.size
      clear hp hq HG
      generalize l[i]?.getD pw0 = t at cp cq hg hm
      obtain ⟨o, x⟩ := t
      dsimp only at cp cq hg hm
      have HBw := Lib.hid (HK.out.toBelow HBB.out.1 HBB.out.2)
      have HA := Lib.hid (atoi_any x hm.2 B wr (HE.out.on HBw.out))
      unfold AtoiPost at HA
      have HG := Lib.hid hg
      have HM := Lib.hid hm.1
      have HN0 := Lib.hid (And.intro hg0' hn0)
      clear hg hm hg0 hg1 hn0 hn1 hg0'
      go_wp2_with fail
      refine HA.out.mono ?_
      rintro e w2 ⟨v, r, rfl, hv, k2⟩
      have HS2 := Lib.hid (HS.out.belowV k2 HS.out.lt)
      have HK2 := Lib.hid (HK.out.belowG k2)
      have cp2 := (k2.cell (p := ⟨g0, i, none⟩) HN0.out.1).trans cp
      clear k2 HA HS HK cp cq
      rcases hv with ⟨hv, rfl⟩ | ⟨hv, t, q, rfl⟩
      · have hg := HG.out
        rw [hv] at hg
        have HG2 := Lib.hid hg
        have e1 := HS2.out.cell (j := o) (by rw [HX.out]; exact HM.out)
        have f1 := HS2.out.froz o
        have HF := Lib.hid (show SpL (w2.setCell ⟨S, o, none⟩ (.int .i64 v)) S (xs.set o v) ∧ Grew w S (w2.setCell ⟨S, o, none⟩ (.int .i64 v)) from ⟨HS2.out.setG o v, HK2.out.set o _⟩)
        have HX2 := Lib.hid (show (xs.set o v).length = 5 by rw [List.length_set]; exact HX.out)
        clear hg hv HG
        generalize xs[o]?.getD 0 = old at e1
        go_wp2_with fail
        go_roundw
        case rel => exact ⟨i + 1, xs.set o v, by go_num, by omega, HG2.out, HX2.out, HF.out.1, HF.out.2⟩
        case measure => simp [RowKit.intOf]; omega
      · have hg := HG.out
        rw [hv] at hg
        have HG2 := Lib.hid hg
        clear hg hv HG
        go_wp2_with fail
        go_ret
        exact ⟨by rw [← HG2.out]; rfl, by rw [← HG2.out]; exact HS2.out, HK2.out⟩
    · have hie : i = l.length := by omega
      have hg := HG.out
      rw [hie, List.drop_length] at hg
      have HG2 := Lib.hid (show (xs, true) = R from hg)
      clear hg hie HG
      go_wp2_with fail
      go_ret
      exact ⟨by rw [← HG2.out]; rfl, by rw [← HG2.out]; exact HS.out, HK.out⟩
end Go.Proofs.YtakekegghpgeaaaDoor
