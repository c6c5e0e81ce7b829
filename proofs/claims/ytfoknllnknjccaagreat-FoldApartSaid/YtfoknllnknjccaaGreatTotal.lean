/-
  Total of package bag and of the document.
-/
import Derived.Test.YtfoknllnknjccaaGreatFollows
import Derived.Test.YtfoknllnknjccaaGreatRefV
namespace Go.Proofs.YtfoknllnknjccaaGreat
open Go.RowKit

def totW (l : List It) (i : Nat) : Int := (l.take i).foldl (fun t x => wrap64 (t + x.2)) 0
theorem totW_next {l : List It} {i : Nat} (h : i < l.length) : totW l (i + 1) = wrap64 (totW l i + (l[i]?.getD it0).2) := by
  unfold totW
  rw [List.take_succ_eq_append_getElem h, List.foldl_append, List.getElem?_eq_getElem h]; rfl
def totalV (l : List It) : Int := if validBag l = true then totW l l.length else 0

set_option maxRecDepth 100000 in
set_option maxHeartbeats 1000000 in
theorem bagTotal_any (p : Option Addr) (rs : List ItR) (c : Nat) (hm : rs.length ≤ 9223372036854775807) (hc : rs.length ≤ c) (w : World) (hX : ItemsIn w p rs) :
    Calls Tryz.prog 53 #[.slice p rs.length c] w (BelowInt w (totalV (vals rs))) := by
  have hv := bagValid_any p rs c hm hc w hX
  have HX := Lib.hid hX
  unfold totalV
  clear hX
  cases q : validBag (vals rs) with
  | false =>
    rw [q] at hv
    have HV := Lib.hid hv
    rw [if_neg (by decide)]
    clear hv q
    go_enter Tryz.func53, Tryz.ntmps53
    go_wp2_with fail
    refine HV.out.mono ?_
    rintro e w1 ⟨rfl, hb⟩
    go_wp2_with fail
    go_ret
    exact ⟨rfl, hb⟩
  | true =>
    rw [q] at hv
    have HV := Lib.hid hv
    rw [if_pos rfl]
    clear hv q
    go_enter Tryz.func53, Tryz.ntmps53
    go_wp2_with fail
    refine HV.out.mono ?_
    rintro e w1 ⟨rfl, hb⟩
    go_wp2_with fail
    go_loopw [3, 11] (fun o s wr => ∃ (i : Nat) (t : Int), s = .int .i64 i ∧ o = .int .i64 t ∧ i ≤ rs.length ∧ Hid (t = totW (vals rs) i) ∧ Below w.heap.size w wr) (fun _ s _ => rs.length - (intOf s).toNat)
    case atStart => exact ⟨0, 0, rfl, rfl, Nat.zero_le _, rfl, hb⟩
    case round =>
      clear hb HV
      obtain ⟨i, t, rfl, rfl, hi, hE, hB⟩ := hrel
      by_cases hlt : i < rs.length
      · obtain ⟨b, off, rfl, hbl, hra⟩ := HX.out (by omega)
        obtain ⟨c0, c1, _, _⟩ := (hra.belowV hB hbl) i hlt
        have hi0 : (0 : Int) ≤ (i : Int) := by omega
        have hi1 : (i : Int) < (rs.length : Int) := by omega
        have hnx := totW_next (l := vals rs) (i := i) (by rw [vals_len]; exact hlt)
        rw [vals_get, ← hE.out] at hnx
        clear hra hE
        generalize (rs[i]?.getD ir0) = x at c0 c1 hnx
        have a1 := (Blk.new wr 53 #[rowv x.1, .int .i64 x.2]).cell 1
        simp only [List.getElem?_toArray, List.getElem?_cons_zero, List.getElem?_cons_succ] at a1
        have hBA : Below w.heap.size w (wr.alloc (oItem x)) := hB.alloc hB.size _
        obtain ⟨⟨xq, xs, xc⟩, xn⟩ := x
        dsimp only [oItem, rowv, itv] at *
        have HNX := Lib.hid hnx
        clear hnx
        go_wp2_with fail
        go_roundw
        case rel => exact ⟨i + 1, _, by go_num, rfl, by omega, HNX.out.symm, hBA⟩
        case measure => simp [intOf]; omega
      · have hge : rs.length ≤ i := by omega
        have HE := Lib.hid (show t = totW (vals rs) (vals rs).length by have := hE.out; rwa [show i = (vals rs).length by rw [vals_len]; omega] at this)
        go_wp2_with fail
        go_ret
        exact ⟨by rw [HE.out] <;> rfl, hB⟩

set_option maxRecDepth 100000 in
set_option maxHeartbeats 1000000 in
theorem refTotal_any (p : Option Addr) (rs : List ItR) (c : Nat) (hm : rs.length ≤ 9223372036854775807) (w : World) (hX : ItemsIn w p rs) :
    Calls Tryz.prog 54 #[.slice p rs.length c] w (BelowInt w (totalV (vals rs))) := by
  have hv := refBagValid_any p rs c hm w hX
  have HX := Lib.hid hX
  unfold totalV
  clear hX
  cases q : validBag (vals rs) with
  | false =>
    rw [q] at hv
    have HV := Lib.hid hv
    rw [if_neg (by decide)]
    clear hv q
    go_enter Tryz.func54, Tryz.ntmps54
    go_wp2_with fail
    refine HV.out.mono ?_
    rintro e w1 ⟨rfl, hb⟩
    go_wp2_with fail
    go_ret
    exact ⟨rfl, hb⟩
  | true =>
    rw [q] at hv
    have HV := Lib.hid hv
    rw [if_pos rfl]
    clear hv q
    go_enter Tryz.func54, Tryz.ntmps54
    go_wp2_with fail
    refine HV.out.mono ?_
    rintro e w1 ⟨rfl, hb⟩
    go_wp2_with fail
    go_loopw [3, 4] (fun o s wr => ∃ (i : Nat) (t : Int), s = .int .i64 i ∧ o = .int .i64 t ∧ i ≤ rs.length ∧ Hid (t = totW (vals rs) i) ∧ Below w.heap.size w wr) (fun _ s _ => rs.length - (intOf s).toNat)
    case atStart => exact ⟨0, 0, rfl, rfl, Nat.zero_le _, rfl, hb⟩
    case round =>
      clear hb HV
      obtain ⟨i, t, rfl, rfl, hi, hE, hB⟩ := hrel
      by_cases hlt : i < rs.length
      · obtain ⟨b, off, rfl, hbl, hra⟩ := HX.out (by omega)
        obtain ⟨_, c1, _, _⟩ := (hra.belowV hB hbl) i hlt
        have hi0 : (0 : Int) ≤ (i : Int) := by omega
        have hi1 : (i : Int) < (rs.length : Int) := by omega
        have hnx := totW_next (l := vals rs) (i := i) (by rw [vals_len]; exact hlt)
        rw [vals_get, ← hE.out] at hnx
        clear hra hE
        generalize (rs[i]?.getD ir0) = x at c1 hnx
        obtain ⟨⟨xq, xs, xc⟩, xn⟩ := x
        dsimp only [rowv, itv] at *
        have HNX := Lib.hid hnx
        clear hnx
        go_wp2_with fail
        go_roundw
        case rel => exact ⟨i + 1, _, by go_num, rfl, by omega, HNX.out.symm, hB⟩
        case measure => simp [intOf]; omega
      · have hge : rs.length ≤ i := by omega
        have HE := Lib.hid (show t = totW (vals rs) (vals rs).length by have := hE.out; rwa [show i = (vals rs).length by rw [vals_len]; omega] at this)
        go_wp2_with fail
        go_ret
        exact ⟨by rw [HE.out] <;> rfl, hB⟩
end Go.Proofs.YtfoknllnknjccaaGreat
