/-
  slices.Concat at schemas.
-/
import Derived.Test.YtfkkdoodngldhaaDoorRefPicked
import Derived.Test.YtfkkdoodngldhaaDoorCat
namespace Go.Proofs.YtfkkdoodngldhaaDoor
open Go.RowKit
set_option linter.unusedVariables false

set_option maxRecDepth 100000 in
set_option maxHeartbeats 1000000 in
theorem GrowC_any (n : Nat) (hn : n ≤ 1000) (w : World) :
    Calls Tryd.prog 96 #[.slice none 0 0, .int .i64 (n : Int)] w (OwnPostC w []) := by
  by_cases h0 : 0 < n
  · have h0' : (0 : Int) < (n : Int) := by omega
    obtain ⟨i0, hi, hz0, hz1, hz2⟩ := info_parts infoC
    have happ := Lib.run_append_nil_zeros (P := Tryd.prog) w 23 3 23 67 i0 (.agg #[.string ⟨#[]⟩, .int .i64 0]) .i64 .i64 Tryd.underlying23 Tryd.underlying3 hi hz0 n (by omega) (by omega) (by omega) (by rw [hz2]; omega)
    generalize hcap : grownCap w n 0 67 = cap2 at happ
    have hcapge : n ≤ cap2 := by rw [← hcap]; exact grownCap_ge w _ 0 _
    have hcaple : cap2 ≤ maxLen := by rw [← hcap]; exact grownCap_le_maxLen w _ 0 _ (by unfold maxLen; omega)
    generalize hZ : (Builtin.zeroCells (Value.agg #[.string ⟨#[]⟩, .int .i64 0]).cells n ++ Builtin.zeroCells (Value.agg #[.string ⟨#[]⟩, .int .i64 0]).cells (cap2 - n)) = Z at happ
    have hZs : Z.size = cap2 * 2 := by rw [← hZ]; simp [size_zeroCells, Value.cells]; omega
    clear hcap hZ
    have hown : (w.drew.alloc (.cells Z 67)).ownsRow w.heap.size 67 2 (.slice (some ⟨w.heap.size, 0, none⟩) 0 cap2) 0 [] := World.ownsRow_made w.drew Z cap2 (Nat.le_refl _) hcaple hZs
    have hB : Below w.heap.size w (w.drew.alloc (.cells Z 67)) := ((Below.refl _ w).drew).alloc (Nat.le_refl _) _
    generalize w.drew.alloc (.cells Z 67) = w5 at happ hown hB
    go_enter Tryd.func96, Tryd.ntmps96
    go_wp2_with (at_builtin; refine Lib.wpList_append_run _ rfl _ _ _ _ rfl _ _ rfl rfl _ _ happ ?_)
    go_ret
    exact ⟨_, rfl, hown, hB⟩
  · obtain rfl : n = 0 := by omega
    go_enter Tryd.func96, Tryd.ntmps96
    go_wp2_with fail
    go_ret
    exact ⟨_, rfl, World.ownsRow_nil _ _ _ _, Below.refl _ _⟩

def catToC (xs ys : List Col) (i : Nat) : List Col := if i = 0 then [] else if i = 1 then xs else xs ++ ys
theorem owns_catC {W : World} {base : Nat} {v : Value} {xs ys : List Col} (h : W.ownsRow base 67 2 v (tot xs.length ys.length 2) (flatC (catToC xs ys 2))) : OwnsC W base v (xs ++ ys) := by
  unfold OwnsC
  rw [List.length_append]
  exact h

set_option maxRecDepth 100000 in
set_option maxHeartbeats 1000000 in
theorem slicesConcatC_any (b : Nat) (p q : Option Addr) (xs ys : List Col) (c d : Nat) (hz : p = none → c = 0) (hy : q = none → d = 0) (hlx : xs.length ≤ 100) (hly : ys.length ≤ 100) (w : World) (hbl : b < w.heap.size) (hX : ColsIn w p xs) (hY : ColsIn w q ys)
    (h0 : w.cell? ⟨b, 0, none⟩ = some (.slice p xs.length c)) (h1 : w.cell? ⟨b, 1, none⟩ = some (.slice q ys.length d)) :
    Calls Tryd.prog 77 #[.slice (some ⟨b, 0, none⟩) 2 2] w (OwnPostC w (xs ++ ys)) := by
  have HX := Lib.hid hX
  have HY := Lib.hid hY
  have HG := Lib.hid fun n h => GrowC_any n h w
  have HZ := Lib.hid hz
  have HZ2 := Lib.hid hy
  clear hX hY hz hy
  go_enter Tryd.func77, Tryd.ntmps77
  go_wp2_with fail
  go_loop [3, 11] (fun t s => ∃ i : Nat, t = .int .i64 (tot xs.length ys.length i : Nat) ∧ s = .int .i64 i ∧ i ≤ 2) (fun _ s => 2 - (intOf s).toNat)
  case atStart => exact ⟨0, rfl, rfl, by omega⟩
  case round =>
    obtain ⟨i, rfl, rfl, hi⟩ := hrel
    obtain rfl | rfl | rfl : i = 0 ∨ i = 1 ∨ i = 2 := by omega
    · rw [show tot xs.length ys.length 0 = 0 from rfl]
      go_wp2_with fail
      go_round
      case rel => exact ⟨1, by simp [tot], rfl, by omega⟩
      case measure => simp [intOf]
    · rw [show tot xs.length ys.length 1 = xs.length from rfl]
      go_wp2_with fail
      go_round
      case rel => exact ⟨2, by simp [tot], rfl, by omega⟩
      case measure => simp [intOf]
    · rw [show tot xs.length ys.length 2 = xs.length + ys.length from rfl]
      have HG2 := Lib.hid (HG.out (xs.length + ys.length) (by omega))
      clear HG
      go_wp2_with fail
      refine HG2.out.mono ?_
      rintro e w1 ⟨v1, rfl, hrow1, hB1⟩
      clear HG2
      go_wp2_with fail
      go_loopw [6, 27] (fun o s wr => ∃ i : Nat, s = .int .i64 i ∧ i ≤ 2 ∧ wr.ownsRow w.heap.size 67 2 o (tot xs.length ys.length i) (flatC (catToC xs ys i)) ∧ Below w.heap.size w wr) (fun _ s _ => 2 - (intOf s).toNat)
      case atStart => exact ⟨0, rfl, by omega, hrow1, hB1⟩
      case round =>
        clear hrow1 hB1
        obtain ⟨i, rfl, hi2, hrow, hB⟩ := hrel
        have hBs := hB.size
        have c0 := (hB.cell (p := ⟨b, 0, none⟩) hbl).trans h0
        have c1 := (hB.cell (p := ⟨b, 1, none⟩) hbl).trans h1
        obtain rfl | rfl | rfl : i = 0 ∨ i = 1 ∨ i = 2 := by omega
        · have hrow' : wr.ownsRow w.heap.size 67 2 _ 0 [] := hrow
          clear hrow
          go_wp2_with (at_builtin; refine wpList_append_cols rfl _ _ rfl w.heap.size _ 0 [] rfl hrow' p xs c rfl (HX.out.belowV hB) HZ.out (by omega) hBs xs.length (Nat.zero_add _) (flatC xs) rfl ?_; intro v2 w2 hown2 hb2 _)
          go_roundw
          case rel => exact ⟨1, rfl, by omega, hown2, hB.trans hb2⟩
          case measure => simp [intOf]
        · have hrow' : wr.ownsRow w.heap.size 67 2 _ xs.length (flatC xs) := hrow
          clear hrow
          go_wp2_with (at_builtin; refine wpList_append_cols rfl _ _ rfl w.heap.size _ xs.length (flatC xs) rfl hrow' q ys d rfl (HY.out.belowV hB) HZ2.out (by omega) hBs (xs.length + ys.length) rfl (flatC (xs ++ ys)) (flatC_app _ _).symm ?_; intro v2 w2 hown2 hb2 _)
          go_roundw
          case rel => exact ⟨2, rfl, by omega, hown2, hB.trans hb2⟩
          case measure => simp [intOf]
        · have hrow' := owns_catC hrow
          clear hrow
          go_wp2_with fail
          go_ret
          exact ⟨_, rfl, hrow', hB⟩


def nameP (pf nm : ByteArray) : ByteArray := pf ++ ⟨#[95]⟩ ++ nm
def preC (pf : ByteArray) (c : Col) : Col := (nameP pf c.1, c.2)
def joinC (a b : List Col) (pf : ByteArray) : List Col := a ++ b.map (preC pf)
theorem nameP_size (pf nm : ByteArray) : (nameP pf nm).size = pf.size + 1 + nm.size := by
  unfold nameP
  rw [ByteArray.size_append, ByteArray.size_append]
  rfl
theorem at_data (s : ByteArray) (i : Nat) (h : i < s.size) : s[i] = s.data.toList[i]'(by rw [Array.length_toList]; exact h) := by
  cases s; rfl
theorem tailC_of {i n : Nat} (h : cOK i n) : smallP n = true ∨ tailC n := by
  rcases h with h | h
  · exact .inl h
  · exact .inr h.2
theorem nameP_ok {pf nm : ByteArray} (h1 : nameOK pf = true) (h2 : nameOK nm = true) (h16 : (nameP pf nm).size ≤ 16) : nameOK (nameP pf nm) = true := by
  unfold nameOK at h1 h2 ⊢
  rw [decide_eq_true_eq] at *
  refine ⟨by rw [nameP_size]; omega, h16, fun i hi => ?_⟩
  have hs := nameP_size pf nm
  have e : (nameP pf nm).data.toList = pf.data.toList ++ [95] ++ nm.data.toList := by
    unfold nameP
    simp [ByteArray.data_append]
  have hp : pf.data.toList.length = pf.size := by rw [Array.length_toList]; rfl
  have hn : nm.data.toList.length = nm.size := by rw [Array.length_toList]; rfl
  rw [at_data]
  simp only [e]
  by_cases c1 : i < pf.size
  · have := h1.2.2 i c1
    rw [at_data] at this
    rw [List.getElem_append_left (by rw [List.length_append, hp]; show i < pf.size + 1; omega), List.getElem_append_left (by omega)]
    exact this
  · by_cases c2 : i = pf.size
    · rw [List.getElem_append_left (by rw [List.length_append, hp]; show i < pf.size + 1; omega), List.getElem_append_right (by omega)]
      simp only [List.getElem_singleton]
      exact .inr ⟨by omega, .inl rfl⟩
    · have hk : i - (pf.size + 1) < nm.size := by omega
      have := h2.2.2 (i - (pf.size + 1)) hk
      rw [at_data] at this
      have hl : (pf.data.toList ++ [95]).length = pf.size + 1 := by rw [List.length_append, hp]; rfl
      rw [List.getElem_append_right (by omega)]
      simp only [hl]
      rcases tailC_of this with h | h
      · exact .inl h
      · exact .inr ⟨by omega, h⟩
end Go.Proofs.YtfkkdoodngldhaaDoor
