/-
  Concat in both packages.
-/
import Derived.Test.YtfkkdoodngldhaaDoorProjRef
import Derived.Test.YtfkkdoodngldhaaDoorLong
import Derived.Lib.AppendZeros
namespace Go.Proofs.YtfkkdoodngldhaaDoor
open Go.RowKit

set_option maxRecDepth 100000 in
set_option maxHeartbeats 1000000 in
theorem Own_any (p : Option Addr) (xs : List Val) (c : Nat) (hz : p = none → c = 0) (hl : xs.length ≤ 1000) (w : World) (hX : ValsIn w p xs) :
    Calls Tryd.prog 67 #[.slice p xs.length c] w (OwnPost w xs) := by
  have hB0 : Below w.heap.size w (w.alloc (.cells #[] 30)) := (Below.refl _ _).alloc (Nat.le_refl _) _
  have hown : (w.alloc (.cells #[] 30)).ownsRow w.heap.size 30 3 (.slice (some ⟨w.heap.size, 0, none⟩) 0 0) 0 [] := World.ownsRow_made w #[] 0 (Nat.le_refl _) (Nat.zero_le _) rfl
  go_enter Tryd.func67, Tryd.ntmps67
  go_wp2_with (at_builtin; refine wpList_append_vals rfl _ _ rfl w.heap.size _ 0 [] rfl hown p xs c rfl (hX.belowV hB0) hz (by omega) hB0.size xs.length (Nat.zero_add _) (flatV xs) rfl ?_; intro v1 w1 hown1 hb1 _)
  go_ret
  exact ⟨_, rfl, hown1, hB0.trans hb1⟩

set_option maxRecDepth 100000 in
set_option maxHeartbeats 1000000 in
theorem Grow_any (n : Nat) (hn : n ≤ 1000) (w : World) :
    Calls Tryd.prog 95 #[.slice none 0 0, .int .i64 (n : Int)] w (OwnPost w []) := by
  by_cases h0 : 0 < n
  · have h0' : (0 : Int) < (n : Int) := by omega
    obtain ⟨i0, hi, hz0, hz1, hz2⟩ := info_parts infoV
    have happ := Lib.run_append_nil_zeros (P := Tryd.prog) w 25 3 25 30 i0 (.agg #[.int .i64 0, .int .i64 0, .string ⟨#[]⟩]) .i64 .i64 Tryd.underlying25 Tryd.underlying3 hi hz0 n (by omega) (by omega) (by omega) (by rw [hz2]; omega)
    generalize hcap : grownCap w n 0 30 = cap2 at happ
    have hcapge : n ≤ cap2 := by rw [← hcap]; exact grownCap_ge w _ 0 _
    have hcaple : cap2 ≤ maxLen := by rw [← hcap]; exact grownCap_le_maxLen w _ 0 _ (by unfold maxLen; omega)
    generalize hZ : (Builtin.zeroCells (Value.agg #[.int .i64 0, .int .i64 0, .string ⟨#[]⟩]).cells n ++ Builtin.zeroCells (Value.agg #[.int .i64 0, .int .i64 0, .string ⟨#[]⟩]).cells (cap2 - n)) = Z at happ
    have hZs : Z.size = cap2 * 3 := by rw [← hZ]; simp [size_zeroCells, Value.cells]; omega
    clear hcap hZ
    have hown : (w.drew.alloc (.cells Z 30)).ownsRow w.heap.size 30 3 (.slice (some ⟨w.heap.size, 0, none⟩) 0 cap2) 0 [] := World.ownsRow_made w.drew Z cap2 (Nat.le_refl _) hcaple hZs
    have hB : Below w.heap.size w (w.drew.alloc (.cells Z 30)) := ((Below.refl _ w).drew).alloc (Nat.le_refl _) _
    generalize w.drew.alloc (.cells Z 30) = w5 at happ hown hB
    go_enter Tryd.func95, Tryd.ntmps95
    go_wp2_with (at_builtin; refine Lib.wpList_append_run _ rfl _ _ _ _ rfl _ _ rfl rfl _ _ happ ?_)
    go_ret
    exact ⟨_, rfl, hown, hB⟩
  · obtain rfl : n = 0 := by omega
    go_enter Tryd.func95, Tryd.ntmps95
    go_wp2_with fail
    go_ret
    exact ⟨_, rfl, World.ownsRow_nil _ _ _ _, Below.refl _ _⟩

def tot (n m i : Nat) : Nat := if i = 0 then 0 else if i = 1 then n else n + m
def catTo (xs ys : List Val) (i : Nat) : List Val := if i = 0 then [] else if i = 1 then xs else xs ++ ys
theorem owns_cat {W : World} {base : Nat} {v : Value} {xs ys : List Val} (h : W.ownsRow base 30 3 v (tot xs.length ys.length 2) (flatV (catTo xs ys 2))) : OwnsV W base v (xs ++ ys) := by
  unfold OwnsV
  rw [List.length_append]
  exact h

set_option maxRecDepth 100000 in
set_option maxHeartbeats 1000000 in
theorem slicesConcat_any (b : Nat) (p q : Option Addr) (xs ys : List Val) (c d : Nat) (hz : p = none → c = 0) (hy : q = none → d = 0) (hlx : xs.length ≤ 100) (hly : ys.length ≤ 100) (w : World) (hbl : b < w.heap.size) (hX : ValsIn w p xs) (hY : ValsIn w q ys)
    (h0 : w.cell? ⟨b, 0, none⟩ = some (.slice p xs.length c)) (h1 : w.cell? ⟨b, 1, none⟩ = some (.slice q ys.length d)) :
    Calls Tryd.prog 75 #[.slice (some ⟨b, 0, none⟩) 2 2] w (OwnPost w (xs ++ ys)) := by
  have HX := Lib.hid hX
  have HY := Lib.hid hY
  have HG := Lib.hid fun n h => Grow_any n h w
  have HZ := Lib.hid hz
  have HZ2 := Lib.hid hy
  clear hX hY hz hy
  go_enter Tryd.func75, Tryd.ntmps75
  go_wp2_with fail
  go_loop [3, 11] (fun t s => ∃ i : Nat, t = .int .i64 (tot xs.length ys.length i : Nat) ∧ s = .int .i64 i ∧ i ≤ 2) (fun _ s => 2 - (intOf s).toNat)
  case atStart => exact ⟨0, rfl, rfl, by omega⟩
  case round =>
    obtain ⟨i, rfl, rfl, hi⟩ := hrel
    obtain rfl | rfl | rfl : i = 0 ∨ i = 1 ∨ i = 2 := by omega
    · rw [show tot xs.length ys.length 0 = 0 from rfl]
      go_wp2_with fail
      go_round
      case rel => exact ⟨1, by simp [tot], rfl, by omega⟩
      case measure => simp [intOf]
    · rw [show tot xs.length ys.length 1 = xs.length from rfl]
      go_wp2_with fail
      go_round
      case rel => exact ⟨2, by simp [tot], rfl, by omega⟩
      case measure => simp [intOf]
    · rw [show tot xs.length ys.length 2 = xs.length + ys.length from rfl]
      have HG2 := Lib.hid (HG.out (xs.length + ys.length) (by omega))
      clear HG
      go_wp2_with fail
      refine HG2.out.mono ?_
      rintro e w1 ⟨v1, rfl, hrow1, hB1⟩
      clear HG2
      go_wp2_with fail
      go_loopw [6, 27] (fun o s wr => ∃ i : Nat, s = .int .i64 i ∧ i ≤ 2 ∧ wr.ownsRow w.heap.size 30 3 o (tot xs.length ys.length i) (flatV (catTo xs ys i)) ∧ Below w.heap.size w wr) (fun _ s _ => 2 - (intOf s).toNat)
      case atStart => exact ⟨0, rfl, by omega, hrow1, hB1⟩
      case round =>
        clear hrow1 hB1
        obtain ⟨i, rfl, hi2, hrow, hB⟩ := hrel
        have hBs := hB.size
        have c0 := (hB.cell (p := ⟨b, 0, none⟩) hbl).trans h0
        have c1 := (hB.cell (p := ⟨b, 1, none⟩) hbl).trans h1
        obtain rfl | rfl | rfl : i = 0 ∨ i = 1 ∨ i = 2 := by omega
        · have hrow' : wr.ownsRow w.heap.size 30 3 _ 0 [] := hrow
          clear hrow
          go_wp2_with (at_builtin; refine wpList_append_vals rfl _ _ rfl w.heap.size _ 0 [] rfl hrow' p xs c rfl (HX.out.belowV hB) HZ.out (by omega) hBs xs.length (Nat.zero_add _) (flatV xs) rfl ?_; intro v2 w2 hown2 hb2 _)
          go_roundw
          case rel => exact ⟨1, rfl, by omega, hown2, hB.trans hb2⟩
          case measure => simp [intOf]
        · have hrow' : wr.ownsRow w.heap.size 30 3 _ xs.length (flatV xs) := hrow
          clear hrow
          go_wp2_with (at_builtin; refine wpList_append_vals rfl _ _ rfl w.heap.size _ xs.length (flatV xs) rfl hrow' q ys d rfl (HY.out.belowV hB) HZ2.out (by omega) hBs (xs.length + ys.length) rfl (flatV (xs ++ ys)) (flatV_app _ _).symm ?_; intro v2 w2 hown2 hb2 _)
          go_roundw
          case rel => exact ⟨2, rfl, by omega, hown2, hB.trans hb2⟩
          case measure => simp [intOf]
        · have hrow' := owns_cat hrow
          clear hrow
          go_wp2_with fail
          go_ret
          exact ⟨_, rfl, hrow', hB⟩

def catErr (xs ys : List Val) : Int := if validRow xs = false then 1 else if validRow ys = false then 1 else if 8 < xs.length + ys.length then 4 else 0
def catVal (xs ys : List Val) : List Val := if catErr xs ys = 0 then xs ++ ys else []
theorem valid_le {xs : List Val} (h : validRow xs = true) : xs.length ≤ 8 := by
  unfold validRow at h
  rw [Bool.and_eq_true, decide_eq_true_eq] at h
  exact h.1

set_option maxRecDepth 100000 in
set_option maxHeartbeats 1000000 in
theorem rowConcat_any (p q : Option Addr) (xs ys : List Val) (c d : Nat) (hz : p = none → c = 0) (hy : q = none → d = 0) (hmx : xs.length ≤ 9223372036854775807) (hmy : ys.length ≤ 9223372036854775807) (w : World) (hX : ValsIn w p xs) (hY : ValsIn w q ys) :
    Calls Tryd.prog 41 #[.slice p xs.length c, .slice q ys.length d] w (TwoPost w (catVal xs ys) (catErr xs ys)) := by
  have hv1 := rowValid_any p xs c w hX
  have hv2 := fun W (h : Below w.heap.size w W) => rowValid_any q ys d W (hY.belowV h)
  cases hq : validRow xs with
  | false =>
    have he : catErr xs ys = 1 := by unfold catErr; rw [hq]; rfl
    have hv : catVal xs ys = [] := by unfold catVal; rw [he]; rfl
    rw [he, hv]
    rw [hq] at hv1
    have HV := Lib.hid hv1
    clear hv1 hv2 he hv hX hY hq hz hy
    go_enter Tryd.func41, Tryd.ntmps41
    go_wp2_with fail
    refine HV.out.mono ?_
    rintro e w1 ⟨rfl, hb1⟩
    go_wp2_with fail
    go_ret2
    exact ⟨_, rfl, World.ownsRow_nil _ _ _ _, hb1⟩
  | true =>
    rw [hq] at hv1
    cases hr : validRow ys with
    | false =>
      have he : catErr xs ys = 1 := by unfold catErr; rw [hq, hr]; rfl
      have hv : catVal xs ys = [] := by unfold catVal; rw [he]; rfl
      rw [he, hv]
      rw [hr] at hv2
      have HV := Lib.hid hv1
      have HV2 := Lib.hid hv2
      clear hv1 hv2 he hv hX hY hq hr hz hy
      go_enter Tryd.func41, Tryd.ntmps41
      go_wp2_with fail
      refine HV.out.mono ?_
      rintro e w1 ⟨rfl, hb1⟩
      go_wp2_with fail
      refine (HV2.out _ hb1).mono ?_
      rintro e w2 ⟨rfl, hb2⟩
      go_wp2_with fail
      go_ret2
      exact ⟨_, rfl, World.ownsRow_nil _ _ _ _, hb1.trans (hb2.mono hb1.size)⟩
    | true =>
      rw [hr] at hv2
      have hx8 := valid_le hq
      have hy8 := valid_le hr
      by_cases h8 : 8 < xs.length + ys.length
      · have he : catErr xs ys = 4 := by unfold catErr; rw [hq, hr, if_neg (by decide), if_neg (by decide), if_pos h8]
        have hv : catVal xs ys = [] := by unfold catVal; rw [he]; rfl
        rw [he, hv]
        have h8' : (8 : Int) < (xs.length : Int) + (ys.length : Int) := by omega
        have HV := Lib.hid hv1
        have HV2 := Lib.hid hv2
        clear hv1 hv2 he hv hX hY hq hr hz hy
        go_enter Tryd.func41, Tryd.ntmps41
        go_wp2_with fail
        refine HV.out.mono ?_
        rintro e w1 ⟨rfl, hb1⟩
        go_wp2_with fail
        refine (HV2.out _ hb1).mono ?_
        rintro e w2 ⟨rfl, hb2⟩
        go_wp2_with fail
        go_ret2
        exact ⟨_, rfl, World.ownsRow_nil _ _ _ _, hb1.trans (hb2.mono hb1.size)⟩
      · have he : catErr xs ys = 0 := by unfold catErr; rw [hq, hr, if_neg (by decide), if_neg (by decide), if_neg h8]
        have hv : catVal xs ys = xs ++ ys := by unfold catVal; rw [he]; rfl
        rw [he, hv]
        have h8' : (xs.length : Int) + (ys.length : Int) ≤ 8 := by omega
        have hcat : ∀ W, Below w.heap.size w W → Calls Tryd.prog 75 #[.slice (some ⟨W.heap.size, 0, none⟩) 2 2] (W.alloc (.cells #[.slice p xs.length c, .slice q ys.length d] 25)) (OwnPost (W.alloc (.cells #[.slice p xs.length c, .slice q ys.length d] 25)) (xs ++ ys)) := fun W h => by
          have hb : Below w.heap.size w (W.alloc (.cells #[.slice p xs.length c, .slice q ys.length d] 25)) := h.alloc h.size _
          have hk := Blk.new W 25 #[.slice p xs.length c, .slice q ys.length d]
          exact slicesConcat_any W.heap.size p q xs ys c d hz hy (by omega) (by omega) _ (by simp) (hX.belowV hb) (hY.belowV hb) (hk.cell 0) (hk.cell 1)
        have HV := Lib.hid hv1
        have HV2 := Lib.hid hv2
        have HCAT := Lib.hid hcat
        clear hv1 hv2 he hv hX hY hq hr hz hy hcat
        go_enter Tryd.func41, Tryd.ntmps41
        go_wp2_with fail
        refine HV.out.mono ?_
        rintro e w1 ⟨rfl, hb1⟩
        go_wp2_with fail
        refine (HV2.out _ hb1).mono ?_
        rintro e w2 ⟨rfl, hb2⟩
        have hb12 := hb1.trans (hb2.mono hb1.size)
        go_wp2_with fail
        refine (HCAT.out _ hb12).mono ?_
        rintro e w3 ⟨v3, rfl, hrow3, hb3⟩
        have hba : Below w.heap.size w (w2.alloc (.cells #[.slice p xs.length c, .slice q ys.length d] 25)) := hb12.alloc hb12.size _
        go_wp2_with fail
        go_ret2
        exact ⟨_, rfl, ownsRow_base hrow3 hba.size, hba.trans (hb3.mono hba.size)⟩

set_option maxRecDepth 100000 in
set_option maxHeartbeats 1000000 in
theorem refConcat_any (p q : Option Addr) (xs ys : List Val) (c d : Nat) (hz : p = none → c = 0) (hy : q = none → d = 0) (hmx : xs.length ≤ 9223372036854775807) (hmy : ys.length ≤ 9223372036854775807) (w : World) (hX : ValsIn w p xs) (hY : ValsIn w q ys) :
    Calls Tryd.prog 42 #[.slice p xs.length c, .slice q ys.length d] w (TwoPost w (catVal xs ys) (catErr xs ys)) := by
  have hv1 := refValid_any p xs c hmx w hX
  have hv2 := fun W (h : Below w.heap.size w W) => refValid_any q ys d hmy W (hY.belowV h)
  cases hq : validRow xs with
  | false =>
    have he : catErr xs ys = 1 := by unfold catErr; rw [hq]; rfl
    have hv : catVal xs ys = [] := by unfold catVal; rw [he]; rfl
    rw [he, hv]
    rw [hq] at hv1
    have HV := Lib.hid hv1
    clear hv1 hv2 he hv hX hY hq hz hy
    go_enter Tryd.func42, Tryd.ntmps42
    go_wp2_with fail
    refine HV.out.mono ?_
    rintro e w1 ⟨rfl, hb1⟩
    go_wp2_with fail
    go_ret2
    exact ⟨_, rfl, World.ownsRow_nil _ _ _ _, hb1⟩
  | true =>
    rw [hq] at hv1
    cases hr : validRow ys with
    | false =>
      have he : catErr xs ys = 1 := by unfold catErr; rw [hq, hr]; rfl
      have hv : catVal xs ys = [] := by unfold catVal; rw [he]; rfl
      rw [he, hv]
      rw [hr] at hv2
      have HV := Lib.hid hv1
      have HV2 := Lib.hid hv2
      clear hv1 hv2 he hv hX hY hq hr hz hy
      go_enter Tryd.func42, Tryd.ntmps42
      go_wp2_with fail
      refine HV.out.mono ?_
      rintro e w1 ⟨rfl, hb1⟩
      go_wp2_with fail
      refine (HV2.out _ hb1).mono ?_
      rintro e w2 ⟨rfl, hb2⟩
      go_wp2_with fail
      go_ret2
      exact ⟨_, rfl, World.ownsRow_nil _ _ _ _, hb1.trans (hb2.mono hb1.size)⟩
    | true =>
      rw [hr] at hv2
      have hx8 := valid_le hq
      have hy8 := valid_le hr
      by_cases h8 : 8 < xs.length + ys.length
      · have he : catErr xs ys = 4 := by unfold catErr; rw [hq, hr, if_neg (by decide), if_neg (by decide), if_pos h8]
        have hv : catVal xs ys = [] := by unfold catVal; rw [he]; rfl
        rw [he, hv]
        have h8' : (8 : Int) < (xs.length : Int) + (ys.length : Int) := by omega
        have HV := Lib.hid hv1
        have HV2 := Lib.hid hv2
        clear hv1 hv2 he hv hX hY hq hr hz hy
        go_enter Tryd.func42, Tryd.ntmps42
        go_wp2_with fail
        refine HV.out.mono ?_
        rintro e w1 ⟨rfl, hb1⟩
        go_wp2_with fail
        refine (HV2.out _ hb1).mono ?_
        rintro e w2 ⟨rfl, hb2⟩
        go_wp2_with fail
        go_ret2
        exact ⟨_, rfl, World.ownsRow_nil _ _ _ _, hb1.trans (hb2.mono hb1.size)⟩
      · have he : catErr xs ys = 0 := by unfold catErr; rw [hq, hr, if_neg (by decide), if_neg (by decide), if_neg h8]
        have hv : catVal xs ys = xs ++ ys := by unfold catVal; rw [he]; rfl
        rw [he, hv]
        have h8' : (xs.length : Int) + (ys.length : Int) ≤ 8 := by omega
        have hown := fun W (h : Below w.heap.size w W) => Own_any p xs c hz (by omega) W (hX.belowV h)
        have HV := Lib.hid hv1
        have HV2 := Lib.hid hv2
        have HOWN := Lib.hid hown
        have HY := Lib.hid hY
        have HZ2 := Lib.hid hy
        clear hv1 hv2 he hv hX hY hq hr hz hy hown
        go_enter Tryd.func42, Tryd.ntmps42
        go_wp2_with fail
        refine HV.out.mono ?_
        rintro e w1 ⟨rfl, hb1⟩
        go_wp2_with fail
        refine (HV2.out _ hb1).mono ?_
        rintro e w2 ⟨rfl, hb2⟩
        have hb12 := hb1.trans (hb2.mono hb1.size)
        go_wp2_with fail
        refine (HOWN.out _ hb12).mono ?_
        rintro e w3 ⟨v3, rfl, hrow3, hb3⟩
        have hb13 := hb12.trans (hb3.mono hb12.size)
        have hrow3' := ownsRow_base hrow3 hb12.size
        go_wp2_with (at_builtin; refine wpList_append_vals rfl _ _ rfl w.heap.size _ xs.length (flatV xs) rfl hrow3' q ys d rfl (HY.out.belowV hb13) HZ2.out (by omega) hb13.size (xs ++ ys).length (by rw [List.length_append]) (flatV (xs ++ ys)) (flatV_app _ _).symm ?_; intro v4 w4 hown4 hb4 _)
        go_ret2
        exact ⟨_, rfl, hown4, hb13.trans hb4⟩
end Go.Proofs.YtfkkdoodngldhaaDoor
