/-
  Find and Fits, in both packages.
-/
import Derived.Test.YtfkkdoodngldhaaDoorRefSchema
namespace Go.Proofs.YtfkkdoodngldhaaDoor
open Go.RowKit

theorem firstAt_cases (l : List Col) (s : ByteArray) : (firstAt l s = -1 ∧ ∀ j, j < l.length → (colAt l j).1 ≠ s) ∨ (∃ j : Nat, j < l.length ∧ firstAt l s = (j : Int) ∧ (colAt l j).1 = s) := by
  by_cases h : l.findIdx (fun c => decide (c.1 = s)) < l.length
  · right
    refine ⟨_, h, by unfold firstAt; rw [if_pos h], ?_⟩
    have h2 := List.findIdx_getElem (w := h)
    simp only [decide_eq_true_eq] at h2
    simpa [colAt, h] using h2
  · left
    refine ⟨by unfold firstAt; rw [if_neg h], fun j hj e => h (List.findIdx_lt_length_of_exists ⟨l[j], List.getElem_mem hj, by simpa [colAt, hj] using e⟩)⟩
def findErr (l : List Col) (s : ByteArray) : Int := if schemaOK l = false then 1 else if firstAt l s = -1 then 5 else 0
def findVal (l : List Col) (s : ByteArray) : Int := if findErr l s = 0 then firstAt l s else 0
def NumsPost (w : World) (n er : Int) (e : Ending) (w' : World) : Prop := e = .returned (.tuple #[.int .i64 n, .int .i64 er]) ∧ Below w.heap.size w w'
theorem zeroI (w : World) : (zeroValue 3).run Tryd.prog w = .ok (.int .i64 0) w := by first | exact Tryd.zero3 w | kernel_rfl | rfl

set_option maxRecDepth 100000 in
set_option maxHeartbeats 1000000 in
theorem refFind_any (p : Option Addr) (l : List Col) (cap : Nat) (s : ByteArray) (hcap : l.length ≤ cap) (hm : l.length ≤ 9223372036854775807) (hmc : cap ≤ 9223372036854775807) (hsz : ∀ j, (colAt l j).1.size ≤ maxLen) (w : World) (hX : ColsIn w p l) :
    Calls Tryd.prog 24 #[.slice p l.length cap, .string s] w (NumsPost w (findVal l s) (findErr l s)) := by
  have hv := refSchema_any p l cap hcap hm hmc hsz w hX
  have ha := fun W (h : Below w.heap.size w W) => At_any p l cap s hm W (hX.belowV h) l.length rfl
  cases hq : schemaOK l with
  | false =>
    have he : findErr l s = 1 := by unfold findErr; rw [hq]; rfl
    have hy : findVal l s = 0 := by unfold findVal; rw [he]; rfl
    rw [he, hy]
    rw [hq] at hv
    have HV := Lib.hid hv
    clear hv ha he hy hX hq hsz
    go_enter Tryd.func24, Tryd.ntmps24
    go_wp2_with fail
    refine HV.out.mono ?_
    rintro e w1 ⟨rfl, hb1⟩
    go_wp2_with fail
    go_ret2
    exact ⟨rfl, hb1⟩
  | true =>
    rw [hq] at hv
    have hr := firstAt_range l s
    by_cases hf : firstAt l s = -1
    · have he : findErr l s = 5 := by unfold findErr; rw [hq, hf]; rfl
      have hy : findVal l s = 0 := by unfold findVal; rw [he]; rfl
      rw [he, hy]
      rw [hf] at ha
      have HV := Lib.hid hv
      have HA := Lib.hid ha
      clear hv ha he hy hX hq hsz hf hr
      go_enter Tryd.func24, Tryd.ntmps24
      go_wp2_with fail
      refine HV.out.mono ?_
      rintro e w1 ⟨rfl, hb1⟩
      go_wp2_with fail
      refine (HA.out _ hb1).mono ?_
      rintro e w2 ⟨rfl, rfl⟩
      go_wp2_with fail
      go_ret2
      exact ⟨rfl, hb1⟩
    · have he : findErr l s = 0 := by unfold findErr; rw [hq, if_neg (by decide), if_neg hf]
      have hy : findVal l s = firstAt l s := by unfold findVal; rw [he]; rfl
      rw [he, hy]
      have hge : 0 ≤ firstAt l s := by omega
      clear he hy hf hr
      generalize firstAt l s = n at ha hge ⊢
      have HV := Lib.hid hv
      have HA := Lib.hid ha
      clear hv ha hX hq hsz
      go_enter Tryd.func24, Tryd.ntmps24
      go_wp2_with fail
      refine HV.out.mono ?_
      rintro e w1 ⟨rfl, hb1⟩
      go_wp2_with fail
      refine (HA.out _ hb1).mono ?_
      rintro e w2 ⟨rfl, rfl⟩
      go_wp2_with fail
      refine (HA.out _ hb1).mono ?_
      rintro e w2 ⟨rfl, rfl⟩
      go_wp2_with fail
      go_ret2
      exact ⟨rfl, hb1⟩

set_option maxRecDepth 100000 in
set_option maxHeartbeats 1000000 in
theorem rowFind_any (p : Option Addr) (l : List Col) (cap : Nat) (s : ByteArray) (hs : s.size ≤ maxLen) (hm : l.length ≤ 9223372036854775807) (hsz : ∀ j, (colAt l j).1.size ≤ maxLen) (w : World) (hX : ColsIn w p l) :
    Calls Tryd.prog 23 #[.slice p l.length cap, .string s] w (NumsPost w (findVal l s) (findErr l s)) := by
  have hv := rowSchema_any p l cap hm hsz w hX
  cases hq : schemaOK l with
  | false =>
    have he : findErr l s = 1 := by unfold findErr; rw [hq]; rfl
    have hy : findVal l s = 0 := by unfold findVal; rw [he]; rfl
    rw [he, hy]
    rw [hq] at hv
    have HV := Lib.hid hv
    clear hv he hy hX hq hsz
    go_enter Tryd.func23, Tryd.ntmps23
    go_wp2_with fail
    refine HV.out.mono ?_
    rintro e w1 ⟨rfl, hb1⟩
    go_wp2_with fail
    go_ret2
    exact ⟨rfl, hb1⟩
  | true =>
    rw [hq] at hv
    obtain ⟨h1, h8, hg⟩ := schemaOK_is hq
    have hdist : Distinct l l.length := distinct_iff.2 fun i hi => (hg i hi).2
    have hn := fun W (h : Below w.heap.size w W) => numbers_any p l cap (by omega) hsz W (hX.belowV h)
    have hl1000 : l.length < maxLen := by unfold maxLen; omega
    have hkey := WideMaps.keyOf_string_mk Tryd.underlying9 hs
    have hfact : ∀ D : DataW Unit, NumOf l l.length D → (Maps.has D (.string s.data.toList) = false ∧ findErr l s = 5 ∧ findVal l s = 0) ∨ (Maps.has D (.string s.data.toList) = true ∧ findErr l s = 0 ∧ ∀ c : Int, D.atKey (.string s.data.toList) (.lit (.int .i64 0)) = .lit (.int .i64 c) → findVal l s = c) := fun D hD => by
      rcases firstAt_cases l s with ⟨hf, hno⟩ | ⟨j, hj, hf, hs⟩
      · left
        have he : findErr l s = 5 := by unfold findErr; rw [hq, hf]; rfl
        refine ⟨?_, he, by unfold findVal; rw [he]; rfl⟩
        rw [Bool.eq_false_iff]
        intro h
        obtain ⟨k, hk, e⟩ := (hD.has s).1 h
        exact hno k hk e
      · right
        have he : findErr l s = 0 := by unfold findErr; rw [hq, if_neg (by decide), if_neg (by omega)]
        refine ⟨(hD.has s).2 ⟨j, hj, hs⟩, he, fun c hc => ?_⟩
        have h2 := hD.at_ hdist j hj (.lit (.int .i64 0))
        rw [hs] at h2
        have h3 := h2.symm.trans hc
        simp only [DataW.lit.injEq, Lit.int.injEq, true_and] at h3
        unfold findVal
        rw [he, if_pos rfl, hf, h3]
    generalize findErr l s = er at hfact ⊢
    generalize findVal l s = vl at hfact ⊢
    have HV := Lib.hid hv
    have HN := Lib.hid hn
    have HF := Lib.hid hfact
    clear hv hX hq hsz hg hdist hn hfact
    go_enter Tryd.func23, Tryd.ntmps23
    go_wp2_with fail
    refine HV.out.mono ?_
    rintro e w1 ⟨rfl, hb1⟩
    go_wp2_with fail
    refine (HN.out _ hb1).mono ?_
    rintro e w2 ⟨bm, D, rfl, hown, hD, hB3⟩
    have hB := hb1.trans (hB3.mono hb1.size)
    rcases HF.out D hD with ⟨hh, rfl, rfl⟩ | ⟨hh, rfl, hc⟩
    · go_wp2_with (at_lookup; refine wpList_lookup_own_ok_int _ rfl _ _ 69 rfl 9 3 .i64 (Maps.string_keyed Tryd.underlying9) mapT Tryd.underlying3 (zeroI _) bm l.length D rfl hown _ _ rfl hkey ?_; intro c hat hwc; rw [hh])
      go_ret2
      exact ⟨rfl, hB⟩
    · have HC := Lib.hid hc
      clear hc
      go_wp2_with (at_lookup; refine wpList_lookup_own_ok_int _ rfl _ _ 69 rfl 9 3 .i64 (Maps.string_keyed Tryd.underlying9) mapT Tryd.underlying3 (zeroI _) bm l.length D rfl hown _ _ rfl hkey ?_; intro c hat hwc; rw [hh]; have HE := Lib.hid (HC.out c hat))
      go_ret2
      obtain rfl := HE.out
      exact ⟨rfl, hB⟩
end Go.Proofs.YtfkkdoodngldhaaDoor
