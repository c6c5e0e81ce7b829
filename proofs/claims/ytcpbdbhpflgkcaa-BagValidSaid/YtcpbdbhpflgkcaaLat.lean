/-
  Distinct, Meet and Join of package bag; N of the document: contracts.
-/
import Derived.Test.YtcpbdbhpflgkcaaSums
import Derived.Test.YtcpbdbhpflgkcaaRefV
namespace Go.Proofs.Ytcpbdbhpflgkcaa
open Go.RowKit

def loF (x y : Int) : Int := if y < x then y else x
def hiF (x y : Int) : Int := if x < y then y else x
def oneF (x _y : Int) : Int := if 1 < (if x < 0 then 0 else x) then 1 else (if x < 0 then 0 else x)

theorem becomes_Meet (w : World) : Becomes w 67 #[] loF :=
  ⟨enters_of Try.func67 (by kernel_rfl) rfl, fun x y W _ => by
    show Calls _ _ #[.int .i64 x, .int .i64 y] _ _
    go_enter Try.func67, Try.ntmps67
    go_wp2
    go_ret
    exact ⟨by show Ending.returned (.int .i64 (min x y)) = Ending.returned (.int .i64 (loF x y)); rw [show min x y = loF x y by unfold loF; split <;> omega], rfl⟩⟩

theorem becomes_Join (w : World) : Becomes w 69 #[] hiF :=
  ⟨enters_of Try.func69 (by kernel_rfl) rfl, fun x y W _ => by
    show Calls _ _ #[.int .i64 x, .int .i64 y] _ _
    go_enter Try.func69, Try.ntmps69
    go_wp2
    go_ret
    exact ⟨by show Ending.returned (.int .i64 (max x y)) = Ending.returned (.int .i64 (hiF x y)); rw [show max x y = hiF x y by unfold hiF; split <;> omega], rfl⟩⟩

theorem becomes_Distinct (w : World) : Becomes w 63 #[] oneF :=
  ⟨enters_of Try.func63 (by kernel_rfl) rfl, fun x y W _ => by
    show Calls _ _ #[.int .i64 x, .int .i64 y] _ _
    go_enter Try.func63, Try.ntmps63
    go_wp2
    go_ret
    exact ⟨by show Ending.returned (.int .i64 (min (max x 0) 1)) = Ending.returned (.int .i64 (oneF x y)); rw [show min (max x 0) 1 = oneF x y by unfold oneF; split <;> split <;> omega], rfl⟩⟩

set_option maxRecDepth 100000 in
theorem Meet_any (p q : Option Addr) (rs ss : List ItR) (c d : Nat) (hm1 : rs.length ≤ 100000) (hm2 : ss.length ≤ 100000) (hc : rs.length ≤ c) (hd : ss.length ≤ d) (w : World) (hX : ItemsIn w p rs) (hZ : ItemsIn w q ss) :
    Calls Try.prog 32 #[.slice p rs.length c, .slice q ss.length d] w (BagPost w.heap.size w (combVal loF (vals rs) (vals ss)) (combErr loF (vals rs) (vals ss))) := by
  have H := Lib.hid (combined_any p q rs ss c d hm1 hm2 hc hd 67 #[] loF w hX hZ (becomes_Meet w))
  clear hX hZ
  go_enter Try.func32, Try.ntmps32
  go_wp2_with fail
  refine H.out.mono ?_
  rintro e w1 ⟨p1, s1, c1, rfl, hv, hh⟩
  have HV := Lib.hid hv
  clear hv
  go_wp2_with fail
  go_ret2
  exact ⟨p1, s1, c1, rfl, HV.out, hh⟩

set_option maxRecDepth 100000 in
theorem Join_any (p q : Option Addr) (rs ss : List ItR) (c d : Nat) (hm1 : rs.length ≤ 100000) (hm2 : ss.length ≤ 100000) (hc : rs.length ≤ c) (hd : ss.length ≤ d) (w : World) (hX : ItemsIn w p rs) (hZ : ItemsIn w q ss) :
    Calls Try.prog 34 #[.slice p rs.length c, .slice q ss.length d] w (BagPost w.heap.size w (combVal hiF (vals rs) (vals ss)) (combErr hiF (vals rs) (vals ss))) := by
  have H := Lib.hid (combined_any p q rs ss c d hm1 hm2 hc hd 69 #[] hiF w hX hZ (becomes_Join w))
  clear hX hZ
  go_enter Try.func34, Try.ntmps34
  go_wp2_with fail
  refine H.out.mono ?_
  rintro e w1 ⟨p1, s1, c1, rfl, hv, hh⟩
  have HV := Lib.hid hv
  clear hv
  go_wp2_with fail
  go_ret2
  exact ⟨p1, s1, c1, rfl, HV.out, hh⟩

set_option maxRecDepth 100000 in
theorem Distinct_any (p : Option Addr) (rs : List ItR) (c : Nat) (hm1 : rs.length ≤ 100000) (hc : rs.length ≤ c) (w : World) (hX : ItemsIn w p rs) :
    Calls Try.prog 28 #[.slice p rs.length c] w (BagPost w.heap.size w (combVal oneF (vals rs) []) (combErr oneF (vals rs) [])) := by
  have H := Lib.hid (combined_any p none rs [] c 0 hm1 (by simp) hc (Nat.le_refl _) 63 #[] oneF w hX (fun h => absurd h (by simp)) (becomes_Distinct w))
  clear hX
  go_enter Try.func28, Try.ntmps28
  go_wp2_with fail
  refine H.out.mono ?_
  rintro e w1 ⟨p1, s1, c1, rfl, hv, hh⟩
  have HV := Lib.hid hv
  clear hv
  go_wp2_with fail
  go_ret2
  exact ⟨p1, s1, c1, rfl, HV.out, hh⟩

set_option maxRecDepth 100000 in
set_option maxHeartbeats 1000000 in
theorem refN_any (p q : Option Addr) (rs : List ItR) (cap : Nat) (ys : List Val) (c : Nat) (hm : rs.length ≤ 9223372036854775807) (hmy : ys.length ≤ 9223372036854775807) (w : World) (hX : ItemsIn w p rs) (hY : ValsIn w q ys) :
    Calls Try.prog 52 #[.slice p rs.length cap, .slice q ys.length c] w (BelowInt w (cnt (vals rs) ys)) := by
  have HX := Lib.hid hX
  have HY := Lib.hid hY
  clear hX hY
  go_enter Try.func52, Try.ntmps52
  go_wp2_with fail
  go_loopw [5] (fun s wr => ∃ i : Nat, s = .int .i64 i ∧ i ≤ rs.length ∧ Hid (cnt (vals rs) ys = cnt ((vals rs).drop i) ys) ∧ Below w.heap.size w wr) (fun s _ => rs.length - (intOf s).toNat)
  case atStart => exact ⟨0, rfl, Nat.zero_le _, (by simp [Hid]), Below.refl _ _⟩
  case round =>
    obtain ⟨i, rfl, hi, hv, hB⟩ := hrel
    by_cases hlt : i < rs.length
    · obtain ⟨b, off, rfl, hbl, hra⟩ := HX.out (by omega)
      obtain ⟨c0, c1, c2, _⟩ := (hra.belowV hB hbl) i hlt
      have E1 := Lib.hid (hra i hlt).2.1
      have hi0 : (0 : Int) ≤ (i : Int) := by omega
      have hi1 : (i : Int) < (rs.length : Int) := by omega
      have hcn : cnt ((vals rs).drop i) ys = if cmpRow (itv (rs[i]?.getD ir0)).1 ys = 0 then (itv (rs[i]?.getD ir0)).2 else cnt ((vals rs).drop (i + 1)) ys := by
        rw [List.drop_eq_getElem_cons (by rw [vals_len]; exact hlt), cnt]
        have := vals_get rs i
        rw [List.getElem?_eq_getElem (by rw [vals_len]; exact hlt), Option.getD_some] at this
        rw [this]
      have HY0 := Lib.hid (fun h : cmpRow (itv (rs[i]?.getD ir0)).1 ys = 0 => (hv.out.trans hcn).trans (if_pos h))
      have HN0 := Lib.hid (fun h : ¬ cmpRow (itv (rs[i]?.getD ir0)).1 ys = 0 => (hv.out.trans hcn).trans (if_neg h))
      clear hra hcn hv
      generalize (rs[i]?.getD ir0) = x at *
      obtain ⟨⟨xq, xs, xc⟩, xn⟩ := x
      dsimp only [rowv, itv] at c0 c1 c2 HY0 HN0 E1
      have HC := Lib.hid (refCompare_any xq q xs ys xc c c2.1 hmy wr c2.2 (HY.out.belowV hB))
      clear c2
      by_cases hz : cmpRow xs ys = 0
      · have hb0 : (cmpRow xs ys == 0) = true := by rw [beq_iff_eq]; exact hz
        have HR := Lib.hid (show cnt (vals rs) ys = xn from HY0.out hz)
        clear hz HY0 HN0 c1
        generalize cmpRow xs ys = cv at HC hb0
        go_wp2_with fail
        refine HC.out.mono ?_
        rintro e w1 ⟨rfl, hb1⟩
        have hB1 := hB.trans (hb1.mono hB.size)
        have c1 := (hB1.cell (p := ⟨b, off + i * 2 + 1, none⟩) hbl).trans E1.out
        go_wp2_with fail
        go_ret
        exact ⟨by rw [HR.out] <;> rfl, hB1⟩
      · have hb0 : (cmpRow xs ys == 0) = false := by rw [beq_eq_false_iff_ne]; exact hz
        have HR := Lib.hid (show cnt (vals rs) ys = cnt ((vals rs).drop (i + 1)) ys from HN0.out hz)
        clear hz HY0 HN0 c1
        generalize cmpRow xs ys = cv at HC hb0
        go_wp2_with fail
        refine HC.out.mono ?_
        rintro e w1 ⟨rfl, hb1⟩
        have hB1 := hB.trans (hb1.mono hB.size)
        go_wp2_with fail
        go_roundw
        case rel => exact ⟨i + 1, by go_num, by omega, HR.out, hB1⟩
        case measure => simp [intOf]; omega
    · have hge : (rs.length : Int) ≤ (i : Int) := by omega
      have HR := Lib.hid (show cnt (vals rs) ys = 0 by have := hv.out; rwa [List.drop_of_length_le (by rw [vals_len]; omega)] at this)
      go_wp2_with fail
      go_ret
      exact ⟨by rw [HR.out] <;> rfl, hB⟩
end Go.Proofs.Ytcpbdbhpflgkcaa
