/-
  The document's own Same at two bags that read as one list; Few.
-/
import Derived.Test.YtfoknllnknjccaaGreatBasA
import Derived.Test.YtfoknllnknjccaaGreatSameR
namespace Go.Proofs.YtfoknllnknjccaaGreat
open Go.RowKit

set_option maxRecDepth 100000 in
set_option maxHeartbeats 1000000 in
theorem SameB_any (p q : Option Addr) (rs ss : List ItR) (c d : Nat) (hv : vals rs = vals ss) (hm : rs.length ≤ 9223372036854775807) (w : World) (hX : ItemsIn w p rs) (hZ : ItemsIn w q ss) :
    Calls Tryz.prog 18 #[.slice p rs.length c, .slice q ss.length d] w fun e w' => e = .returned (.bool true) ∧ Below w.heap.size w w' := by
  have hl : ss.length = rs.length := by rw [← vals_len, ← hv, vals_len]
  have HX := Lib.hid hX
  have HZ := Lib.hid hZ
  have HV := Lib.hid hv
  have HSS := Lib.hid hl
  rw [hl]
  clear hX hZ hv hl
  go_enter Tryz.func18, Tryz.ntmps18
  go_wp2_with fail
  go_loopw [5] (fun s wr => ∃ i : Nat, i ≤ rs.length ∧ s = .int .i64 i ∧ Below w.heap.size w wr) (fun s _ => rs.length - (intOf s).toNat)
  case atStart => exact ⟨0, Nat.zero_le _, rfl, Below.refl _ _⟩
  case round =>
    obtain ⟨i, hi, rfl, hB⟩ := hrel
    by_cases hlt : i < rs.length
    · obtain ⟨b, off, rfl, hbl, hra⟩ := HX.out (by omega)
      obtain ⟨b2, off2, rfl, hbl2, hra2⟩ := HZ.out (by rw [HSS.out]; omega)
      obtain ⟨c0, c1, c2, _⟩ := (hra.belowV hB hbl) i hlt
      obtain ⟨d0, d1, d2, _⟩ := (hra2.belowV hB hbl2) i (by rw [HSS.out]; exact hlt)
      have he : itv (rs[i]?.getD ir0) = itv (ss[i]?.getD ir0) := by rw [← vals_get, ← vals_get, HV.out]
      have hi0 : (0 : Int) ≤ (i : Int) := by omega
      have hi1 : (i : Int) < (rs.length : Int) := by omega
      clear hra hra2
      generalize (rs[i]?.getD ir0) = x at *
      generalize (ss[i]?.getD ir0) = y at *
      obtain ⟨⟨xq, xs, xc⟩, xn⟩ := x
      obtain ⟨⟨yq, ys, yc⟩, yn⟩ := y
      simp only [itv, Prod.mk.injEq] at he
      obtain ⟨rfl, rfl⟩ := he
      dsimp only [rowv] at *
      have HC := Lib.hid fun W (h : Below wr.heap.size wr W) => Same_any xq yq xs xc yc xs.length rfl c2.1 W (c2.belowV h).2 (d2.belowV h).2
      clear c2 d2
      go_wp2_with fail
      go_still_tail 22, (by kernel_rfl)
      have hB2 : Below w.heap.size w wr.drew := hB.drew
      have hB3 : Below wr.heap.size wr wr.drew := (Below.refl _ _).drew
      clear c0 c1 d0 d1
      change wpList _ _ _ _ _ wr.drew
      generalize wr.drew = W7 at hB2 hB3 ⊢
      go_wp2_with fail
      refine (HC.out _ hB3).mono ?_
      rintro e w3 ⟨rfl, hb3⟩
      go_wp2_with fail
      go_roundw
      case rel => exact ⟨i + 1, by omega, by go_num, hB2.trans (hb3.mono hB2.size)⟩
      case measure => simp [intOf]; omega
    · have hge : rs.length ≤ i := by omega
      go_wp2_with fail
      go_ret
      exact ⟨rfl, hB⟩

/-- A bag's slice: its address, its items, its capacity. -/
abbrev BagV := Option Addr × List ItR × Nat
def bagv (b : BagV) : Value := .slice b.1 b.2.1.length b.2.2
abbrev b0 : BagV := (none, [], 0)
def BagOK (W : World) (b : BagV) : Prop := b.2.1.length ≤ 9223372036854775807 ∧ b.2.1.length ≤ b.2.2 ∧ ItemsIn W b.1 b.2.1
theorem BagOK.belowV {W W' : World} {b : BagV} (h : BagOK W b) (hb : Below W.heap.size W W') : BagOK W' b := ⟨h.1, h.2.1, h.2.2.belowV hb⟩
def FewPost (w : World) (bs : List BagV) (e : Ending) (w' : World) : Prop := (e = .returned (.bool false) ∨ (e = .returned (.bool true) ∧ ∀ b ∈ bs, b.2.1.length ≤ 60)) ∧ Below w.heap.size w w'
end Go.Proofs.YtfoknllnknjccaaGreat
