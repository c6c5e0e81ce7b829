/-
  After and Apply of the document, as contracts.
-/
import Derived.Test.YthoimepdioeckaaGreatDoorApply
namespace Go.Proofs.YthoimepdioeckaaGreatDoor
open Go.RowKit

set_option maxRecDepth 100000 in
set_option maxHeartbeats 4000000 in
theorem After_any (p q : Option Addr) (rs : List ItR) (cs : List ChR) (c d : Nat) (hm1 : rs.length ≤ 400) (hc : rs.length ≤ c) (w : World) (hX : ItemsIn w p rs) (hzp : p = none → c = 0) (hY : ChgIn w q cs)
    (hua : Asc (vals rs)) (hba : Bd 0 (vals rs)) (hvb : validCs (cvals cs) = true) :
    Calls Tryz.prog 40 #[.slice p rs.length c, .slice q cs.length d] w (PutPost w (after (vals rs) (its (cvals cs))) 1000) := by
  have hcl : cs.length ≤ 400 := by have := (validCs_iff.1 hvb).1; rwa [cvals_len] at this
  have HZ := Lib.hid hY
  have HA := Lib.hid (And.intro hua hba)
  have HV := Lib.hid hvb
  have HX0 := Lib.hid hX
  have HZ0 := Lib.hid hzp
  clear hX hY hzp hua hba hvb
  go_enter Tryz.func40, Tryz.ntmps40
  go_wp2_with fail
  go_loopw [5, 6] (fun o s wr => ∃ (i : Nat) (p' : Option Addr) (os : List ItR) (c' : Nat), o = .slice p' os.length c' ∧ s = .int .i64 i ∧ i ≤ cs.length ∧ Hid (vals os = after (vals rs) ((its (cvals cs)).take i)) ∧ Hid (Asc (vals os) ∧ Bd i (vals os)) ∧ os.length ≤ c' ∧ os.length ≤ rs.length + i ∧ ItemsIn wr p' os ∧ Hid (p' = none → c' = 0) ∧ Below w.heap.size w wr) (fun _ s _ => cs.length - (intOf s).toNat)
  case atStart => exact ⟨0, p, rs, c, rfl, rfl, Nat.zero_le _, rfl, HA.out, hc, by omega, HX0.out, HZ0.out, Below.refl _ _⟩
  case round =>
    obtain ⟨i, p', os, c', rfl, rfl, hi, hvo, hbo, hoc, hol, hio, hzo, hB⟩ := hrel
    by_cases hlt : i < cs.length
    · obtain ⟨b, off, rfl, hbl, hra⟩ := HZ.out (by omega)
      obtain ⟨c0, c1', c2', c2, c3⟩ := (hra.belowV hB hbl) i hlt
      have hi0 : (0 : Int) ≤ (i : Int) := by omega
      have hi1 : (i : Int) < (cs.length : Int) := by omega
      have hmem : chv (cs[i]?.getD cr0) ∈ cvals cs := List.mem_map_of_mem (by rw [List.getElem?_eq_getElem hlt]; exact List.getElem_mem hlt)
      have hok := okC_is ((validCs_iff.1 HV.out).2 _ hmem)
      have hit : (its (cvals cs))[i]?.getD it0 = chI (chv (cs[i]?.getD cr0)) := by
        rw [← cvals_get]; unfold its; rw [List.getElem?_map]
        cases (cvals cs)[i]? <;> rfl
      have hnx := after_next (a := vals rs) (show i < (its (cvals cs)).length by rw [its_len, cvals_len]; exact hlt)
      rw [hit, ← hvo.out] at hnx
      clear hra hmem hit
      generalize (cs[i]?.getD cr0) = x at *
      obtain ⟨xt, ⟨xq, xs, xc⟩, xn⟩ := x
      dsimp only [rowv, chv, chI] at c0 c1' c2' c2 c3 hok hnx
      have HP := Lib.hid fun W (h : Below wr.heap.size wr W) => Put_any p' xq os c' xs xc xn (by omega) hbo.out.1.2 (fun r hr => by
          have := hbo.out.2 _ (mem_vals hr)
          unfold big
          simp only [itv] at this
          omega) (by have := hok.2.2.2; unfold big; omega) (fun r hr => by have := row_len (hbo.out.1.1 _ (mem_vals hr)).1; simp only [itv] at this; omega) (by have := row_len hok.2.1; omega) W (hio.belowV h) (c2.belowV h).2 c3
      have HNX := Lib.hid hnx
      have HAS := Lib.hid (show Asc (put (vals os) xs xn) ∧ Bd (i + 1) (put (vals os) xs xn) from ⟨put_asc hbo.out.1 hok.2.1, hbo.out.2.put hok.2.1 (by have := hok.2.2.2; omega) (by have := hok.2.2.2; omega)⟩)
      clear hnx hok c2 c3 hio
      go_wp2_with fail
      go_still_tail 11, (by kernel_rfl)
      have hB2 : Below w.heap.size w wr.drew := hB.drew
      have hB3 : Below wr.heap.size wr wr.drew := (Below.refl _ _).drew
      clear c0 c1' c2'
      change wpList _ _ _ _ _ wr.drew
      generalize wr.drew = W7 at hB2 hB3 ⊢
      go_wp2_with fail
      refine (HP.out _ hB3).mono ?_
      rintro e w3 ⟨p3, os3, c3, rfl, hv3, hoc3, hol3, hi3, hz3, hb3⟩
      have HV3 := Lib.hid hv3
      have HZ3 := Lib.hid hz3
      clear hv3 hz3
      go_wp2_with fail
      go_roundw
      case rel => exact ⟨i + 1, p3, os3, c3, rfl, by go_num, by omega, (by show _ = _; rw [HNX.out, HV3.out]), (by show _ ∧ _; rw [HV3.out]; exact HAS.out), hoc3, by omega, hi3, HZ3.out, hB2.trans (hb3.mono hB2.size)⟩
      case measure => simp [intOf]; omega
    · have hge : (cs.length : Int) ≤ (i : Int) := by omega
      have hie : i = cs.length := by omega
      have HF := Lib.hid (show vals os = after (vals rs) (its (cvals cs)) by have := hvo.out; rwa [hie, ← cvals_len cs, ← its_len, List.take_length] at this)
      clear hie
      go_wp2_with fail
      go_ret
      exact ⟨p', os, c', rfl, HF.out, hoc, by omega, hio, hzo.out, hB⟩

set_option maxRecDepth 100000 in
theorem refApply_any (p q : Option Addr) (rs : List ItR) (cs : List ChR) (c d : Nat) (hm : rs.length ≤ 9223372036854775807) (hm2 : cs.length ≤ 9223372036854775807) (hc : rs.length ≤ c) (w : World) (hX : ItemsIn w p rs) (hz : p = none → c = 0) (hY : ChgIn w q cs) :
    Calls Tryz.prog 12 #[.slice p rs.length c, .slice q cs.length d] w (BagPost w.heap.size w (appVal (vals rs) (cvals cs)) (appErr (vals rs) (cvals cs))) := by
  have h1 := refBagValid_any p rs c hm w hX
  have h2 := fun W (h : Below w.heap.size w W) => refVCs_any q cs d hm2 W (hY.belowV h)
  cases q1 : validBag (vals rs) with
  | false =>
    obtain ⟨e1, e2⟩ := appNo (a := vals rs) (l := cvals cs) (fun h => by rw [q1] at h; exact absurd h.1 (by decide))
    rw [e1, e2]
    rw [q1] at h1
    have H1 := Lib.hid h1
    clear h1 h2 hX hY hz q1 e1 e2
    go_enter Tryz.func12, Tryz.ntmps12
    go_wp2_with fail
    refine H1.out.mono ?_
    rintro e w1 ⟨rfl, hb1⟩
    go_wp2_with fail
    go_ret2
    exact bagPost_nil hb1
  | true =>
    cases q2 : validCs (cvals cs) with
    | false =>
      obtain ⟨e1, e2⟩ := appNo (a := vals rs) (l := cvals cs) (fun h => by rw [q2] at h; exact absurd h.2 (by decide))
      rw [e1, e2]
      rw [q1] at h1
      rw [q2] at h2
      have H1 := Lib.hid h1
      have H2 := Lib.hid h2
      clear h1 h2 hX hY hz q1 q2 e1 e2
      go_enter Tryz.func12, Tryz.ntmps12
      go_wp2_with fail
      refine H1.out.mono ?_
      rintro e w1 ⟨rfl, hb1⟩
      go_wp2_with fail
      refine (H2.out _ hb1).mono ?_
      rintro e w2 ⟨rfl, hb2⟩
      have hB2 := hb1.trans (hb2.mono hb1.size)
      go_wp2_with fail
      go_ret2
      exact bagPost_nil hB2
    | true =>
      obtain ⟨e1, e2⟩ := appYes (a := vals rs) (l := cvals cs) ⟨q1, q2⟩
      rw [e1, e2]
      have hl4 : rs.length ≤ 400 := by have := (validBag_iff.1 q1).1; rwa [vals_len] at this
      have h3 := fun W (h : Below w.heap.size w W) => After_any p q rs cs c d hl4 hc W (hX.belowV h) hz (hY.belowV h) (asc_of_valid q1) (bd_of_valid q1) q2
      rw [q1] at h1
      rw [q2] at h2
      generalize after (vals rs) (its (cvals cs)) = A at h3 ⊢
      have H1 := Lib.hid h1
      have H2 := Lib.hid h2
      have H3 := Lib.hid h3
      clear h1 h2 h3 hX hY hz q1 q2 e1 e2
      go_enter Tryz.func12, Tryz.ntmps12
      go_wp2_with fail
      refine H1.out.mono ?_
      rintro e w1 ⟨rfl, hb1⟩
      go_wp2_with fail
      refine (H2.out _ hb1).mono ?_
      rintro e w2 ⟨rfl, hb2⟩
      have hB2 := hb1.trans (hb2.mono hb1.size)
      clear hb1 hb2
      go_wp2_with fail
      refine (H3.out _ hB2).mono ?_
      rintro e w3 ⟨p3, os3, c3, rfl, hv3, hoc3, hol3, hi3, _, hb3⟩
      have hB3 := hB2.trans (hb3.mono hB2.size)
      have ht := told_any p3 os3 c3 hoc3 (by omega) w3 hi3
      rw [hv3] at ht
      have HT := Lib.hid ht
      clear ht hv3 hi3 hb3
      go_wp2_with fail
      refine HT.out.mono ?_
      rintro e w4 ⟨p4, s4, c4, rfl, h1, h2, h3, h4, h5⟩
      have HH := Lib.hid (And.intro h1 (And.intro h2 (And.intro h3 (And.intro h4 h5))))
      clear h1 h2 h3 h4 h5
      go_wp2_with fail
      go_ret2
      exact ⟨p4, s4, c4, rfl, HH.out.1, HH.out.2.1, HH.out.2.2.1, HH.out.2.2.2.1, hB3.trans (HH.out.2.2.2.2.mono hB3.size)⟩
#print axioms refApply_any
end Go.Proofs.YthoimepdioeckaaGreatDoor
