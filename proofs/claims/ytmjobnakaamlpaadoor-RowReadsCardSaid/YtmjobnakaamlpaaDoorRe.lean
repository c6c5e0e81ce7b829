/-
  The reader of package row: char, quoted.
-/
import Derived.Test.YtmjobnakaamlpaaDoorRd
import Derived.LoopTactic
namespace Go.Proofs.YtmjobnakaamlpaaDoor
open Go.RowKit
set_option linter.unusedSimpArgs false
set_option linter.unusedVariables false

theorem trim_no {t p : List UInt8} (h : Lib.hasPrefix t p = false) : Lib.trimPrefix t p = t := by unfold Lib.trimPrefix; rw [h]; rfl
theorem trim_yes (p r : List UInt8) : Lib.hasPrefix (p ++ r) p = true ∧ Lib.trimPrefix (p ++ r) p = r := by
  have : Lib.hasPrefix (p ++ r) p = true := by unfold Lib.hasPrefix; simp
  exact ⟨this, by unfold Lib.trimPrefix; rw [if_pos this]; simp⟩
theorem index_one (c : UInt8) (W : World) : (Instr.index 9 (.string (bs [c])) (.int .i64 0)).run Tryd.prog W = .ok (.int .u8 (c.toNat : Int)) W := by
  unfold bs
  go_simp
  rfl

set_option maxRecDepth 100000 in
theorem char_plain (R : Nat) (t : List UInt8) (c : UInt8) (r : List UInt8) (hr : r.length ≤ 80000) (b : Bool) (h1 : Lib.hasPrefix t [92, 110] = false) (h2 : Lib.hasPrefix t [92, 120] = false) (h3 : Lib.hasPrefix t [92] = b) (h4 : Lib.trimPrefix t [92] = c :: r) (w : World) (h : Rdr w R t) :
    Calls Tryd.prog 42 #[.pointer (some ⟨R, 0, none⟩)] w (RdPost w R (.tuple #[.int .u8 (c.toNat : Int), .bool true]) r) := by
  have HA := Lib.hid fun W (h : Rdr W R t) => take_any R t [92, 110] W h
  have HB := Lib.hid fun W (h : Rdr W R t) => take_any R t [92, 120] W h
  have HC := Lib.hid fun W (h : Rdr W R t) => take_any R t [92] W h
  rw [h1, trim_no h1] at HA
  rw [h2, trim_no h2] at HB
  rw [h3, h4] at HC
  have HN := Lib.hid fun W (h : Rdr W R (c :: r)) => next_any R (c :: r) 1 (by simp) (by simp only [List.length_cons]; omega) W h
  rw [show (c :: r).take 1 = [c] from rfl, show (c :: r).drop 1 = r from rfl] at HN
  have HX := Lib.hid (index_one c)
  unfold bs at HA HB HC
  simp only [List.toArray] at HA HB HC
  have H0 := Lib.hid h
  clear h h1 h2 h3 h4
  go_enter Tryd.func42, Tryd.ntmps42
  go_wp2_with fail
  refine (HA.out _ H0.out).mono ?_
  rintro e w1 ⟨rfl, r1, k1⟩
  have H1 := Lib.hid (And.intro r1 k1)
  clear r1 k1
  go_wp2_with fail
  refine (HB.out _ H1.out.1).mono ?_
  rintro e w2 ⟨rfl, r2, k2⟩
  have H2 := Lib.hid (And.intro r2 (H1.out.2.and k2))
  clear r2 k2
  go_wp2_with fail
  refine (HC.out _ H2.out.1).mono ?_
  rintro e w3 ⟨rfl, r3, k3⟩
  have H3 := Lib.hid (And.intro r3 (H2.out.2.and k3))
  clear r3 k3
  go_wp2_with fail
  refine (HN.out _ H3.out.1).mono ?_
  rintro e w4 ⟨rfl, r4, k4⟩
  have H4 := Lib.hid (And.intro r4 (H3.out.2.and k4))
  clear r4 k4
  have hx := HX.out
  go_wp2_with fail
  go_ret2
  exact ⟨rfl, H4.out.1, H4.out.2⟩
set_option maxRecDepth 100000 in
theorem char_line (R : Nat) (r : List UInt8) (w : World) (h : Rdr w R (92 :: 110 :: r)) :
    Calls Tryd.prog 42 #[.pointer (some ⟨R, 0, none⟩)] w (RdPost w R (.tuple #[.int .u8 10, .bool true]) r) := by
  have HA := Lib.hid (take_any R _ [92, 110] w h)
  have hy := trim_yes [92, 110] r
  rw [show (92 :: 110 :: r : List UInt8) = [92, 110] ++ r from rfl, hy.1, hy.2] at HA
  unfold bs at HA
  simp only [List.toArray] at HA
  clear h hy
  go_enter Tryd.func42, Tryd.ntmps42
  go_wp2_with fail
  refine HA.out.mono ?_
  rintro e w1 ⟨rfl, r1, k1⟩
  have H1 := Lib.hid (And.intro r1 k1)
  clear r1 k1
  go_wp2_with fail
  go_ret2
  exact ⟨rfl, H1.out.1, H1.out.2⟩
set_option maxRecDepth 100000 in
theorem char_hex (R u v : Nat) (hu : u < 16) (hv : v < 16) (r : List UInt8) (hr : r.length ≤ 80000) (w : World) (h : Rdr w R (92 :: 120 :: UInt8.ofNat (hexd u) :: UInt8.ofNat (hexd v) :: r)) :
    Calls Tryd.prog 42 #[.pointer (some ⟨R, 0, none⟩)] w (RdPost w R (.tuple #[.int .u8 ((16 * u + v : Nat) : Int), .bool true]) r) := by
  have h1 : Lib.hasPrefix (92 :: 120 :: UInt8.ofNat (hexd u) :: UInt8.ofNat (hexd v) :: r) [92, 110] = false := by
    unfold Lib.hasPrefix; simp [List.isPrefixOf]
  have HA := Lib.hid fun W (h : Rdr W R (92 :: 120 :: UInt8.ofNat (hexd u) :: UInt8.ofNat (hexd v) :: r)) => take_any R _ [92, 110] W h
  rw [h1, trim_no h1] at HA
  have HB := Lib.hid fun W (h : Rdr W R (92 :: 120 :: UInt8.ofNat (hexd u) :: UInt8.ofNat (hexd v) :: r)) => take_any R _ [92, 120] W h
  have hy := trim_yes [92, 120] (UInt8.ofNat (hexd u) :: UInt8.ofNat (hexd v) :: r)
  rw [show (92 :: 120 :: UInt8.ofNat (hexd u) :: UInt8.ofNat (hexd v) :: r : List UInt8) = [92, 120] ++ (UInt8.ofNat (hexd u) :: UInt8.ofNat (hexd v) :: r) from rfl] at HA HB h
  rw [hy.1, hy.2] at HB
  have HH := Lib.hid fun W (h : Rdr W R (UInt8.ofNat (hexd u) :: UInt8.ofNat (hexd v) :: r)) => hex_good R u v hu hv r (by omega) W h
  unfold bs at HA HB
  simp only [List.toArray] at HA HB
  have H0 := Lib.hid h
  clear h hy h1
  generalize ((16 * u + v : Nat) : Int) = n at HH
  go_enter Tryd.func42, Tryd.ntmps42
  go_wp2_with fail
  refine (HA.out _ H0.out).mono ?_
  rintro e w1 ⟨rfl, r1, k1⟩
  have H1 := Lib.hid (And.intro r1 k1)
  clear r1 k1
  go_wp2_with fail
  refine (HB.out _ H1.out.1).mono ?_
  rintro e w2 ⟨rfl, r2, k2⟩
  have H2 := Lib.hid (And.intro r2 (H1.out.2.and k2))
  clear r2 k2
  go_wp2_with fail
  refine (HH.out _ H2.out.1).mono ?_
  rintro e w3 ⟨rfl, r3, k3⟩
  have H3 := Lib.hid (And.intro r3 (H2.out.2.and k3))
  clear r3 k3
  go_wp2_with fail
  go_ret2
  exact ⟨rfl, H3.out.1, H3.out.2⟩
theorem char_good (R : Nat) (c : UInt8) (r : List UInt8) (hr : r.length ≤ 80000) (w : World) (h : Rdr w R (qB c ++ r)) :
    Calls Tryd.prog 42 #[.pointer (some ⟨R, 0, none⟩)] w (RdPost w R (.tuple #[.int .u8 (c.toNat : Int), .bool true]) r) := by
  unfold qB at h
  split at h
  · rename_i hc
    have e1 : (110 : UInt8) ≠ c := fun e => by subst e; exact absurd hc (by decide)
    have e2 : (120 : UInt8) ≠ c := fun e => by subst e; exact absurd hc (by decide)
    refine char_plain R (92 :: c :: r) c r hr true ?_ ?_ ?_ ?_ w h
    · unfold Lib.hasPrefix; simp [List.isPrefixOf, e1]
    · unfold Lib.hasPrefix; simp [List.isPrefixOf, e2]
    · exact (trim_yes [92] (c :: r)).1
    · exact (trim_yes [92] (c :: r)).2
  · rename_i hc
    split at h
    · rename_i h10
      rw [show (c.toNat : Int) = 10 by omega]
      exact char_line R r w h
    · split at h
      · have hlt := c.toNat_lt
        have := char_hex R (c.toNat / 16) (c.toNat % 16) (by omega) (by omega) r hr w h
        rw [show 16 * (c.toNat / 16) + c.toNat % 16 = c.toNat by omega] at this
        exact this
      · have e1 : (92 : UInt8) ≠ c := fun e => by subst e; exact hc (by decide)
        have hp : ∀ q, Lib.hasPrefix (c :: r) (92 :: q) = false := fun q => by unfold Lib.hasPrefix; simp [List.isPrefixOf, e1]
        exact char_plain R (c :: r) c r hr false (hp _) (hp _) (hp _) (trim_no (hp _)) w h
end Go.Proofs.YtmjobnakaamlpaaDoor
