/-
  Several texts in one.
-/
import Derived.Test.YtledgnolmiecfaaGreatDoorPu
import Derived.LoopTactic
import Derived.Test.YtledgnolmiecfaaGreatDoorTq
import Derived.Lib.AtoiBound
/-!
  The reader of package row: take, next, hex, char.
-/
namespace Go.Proofs.YtledgnolmiecfaaGreatDoor
open Go.RowKit
set_option linter.unusedSimpArgs false
set_option linter.unusedVariables false

theorem Blk.keepG {W W' : World} {row : Option Nat} {B : Nat} {t : TypeId} {cs : Array Value} (h : Blk W B t cs) (hg : W.grownBy W' row) (hne : some B ≠ row) : Blk W' B t cs := (hg.block B h.lt hne).trans h
theorem Blk.froz {V : World} {B : Nat} {t : TypeId} {cs : Array Value} (h : Blk V B t cs) (j : Nat) : V.frozen? ⟨B, j, none⟩ = false := by simp [World.frozen?, show V.heap[B]? = _ from h]
theorem Blk.setG {V : World} {B : Nat} {t : TypeId} {cs : Array Value} (h : Blk V B t cs) (j : Nat) (u : Value) : Blk (V.setCell ⟨B, j, none⟩ u) B t (cs.setIfInBounds j u) := by
  have hb : V.heap[B]? = some (.cells cs t (0, 0)) := h
  unfold Blk World.setCell
  simp [Array.getElem?_modify, hb]
theorem Blk.allocG {V : World} {B : Nat} {t : TypeId} {cs : Array Value} (h : Blk V B t cs) (o : Obj) : Blk (V.alloc o) B t cs := h.keepG (World.grownBy_alloc V o none) (by simp)
theorem Blk.newAt (W : World) (t : TypeId) (cs : Array Value) {g : Nat} (hg : W.heap.size = g) : Blk (W.alloc (.cells cs t)) g t cs := hg ▸ Blk.new W t cs
theorem Blk.drewG {V : World} {B : Nat} {t : TypeId} {cs : Array Value} (h : Blk V B t cs) : Blk V.drew B t cs := h
theorem Blk.setOther {V : World} {B C j : Nat} {t : TypeId} {cs : Array Value} (h : Blk V B t cs) (hne : B ≠ C) (u : Value) : Blk (V.setCell ⟨C, j, none⟩ u) B t cs := by
  have := Below.heap_setCell V ⟨C, j, none⟩ u B hne
  exact this.trans h
/-- The reader, with what is still to be read. -/
def Rdr (W : World) (R : Nat) (t : List UInt8) : Prop := Blk W R 97 #[.string (bs t)]
abbrev Grew (w : World) (R : Nat) (w' : World) : Prop := w.grownBy w' (some R)
theorem grew_refl (w : World) (R : Nat) : Grew w R w := ⟨rfl, rfl, rfl, Nat.le_refl _, fun _ _ _ => rfl⟩
theorem grew_set (W : World) (R : Nat) (v : Value) : Grew W R (W.setCell ⟨R, 0, none⟩ v) :=
  ⟨rfl, rfl, rfl, by simp [World.setCell], fun k hk hne => Below.heap_setCell W ⟨R, 0, none⟩ v k (by rintro rfl; exact hne rfl)⟩
theorem grew_below {W W' : World} (R : Nat) (h : Below W.heap.size W W') : Grew W R W' := ⟨h.os, h.tape, h.output, h.size, fun i hi _ => h.block i hi⟩
theorem Grew.and {a b c : World} {R : Nat} (h : Grew a R b) (k : Grew b R c) : Grew a R c := World.grownBy.trans h k
theorem Rdr.set {W : World} {R : Nat} {t : List UInt8} (h : Rdr W R t) (t' : List UInt8) : Rdr (W.setCell ⟨R, 0, none⟩ (.string (bs t'))) R t' := Blk.setG h 0 _
theorem Rdr.belowV {W W' : World} {R : Nat} {t : List UInt8} (h : Rdr W R t) (k : Below W.heap.size W W') : Rdr W' R t := Blk.belowV h k (Blk.lt h)
theorem bs_data (l : List UInt8) : (bs l).data.toList = l := rfl
theorem bs_take (l : List UInt8) (n : Nat) : (bs l).extract 0 n = bs (l.take n) := by
  apply ByteArray.ext
  apply Array.toList_inj.1
  rw [ByteArray.data_extract, Array.toList_extract, List.extract_eq_take_drop]
  simp [bs]
theorem bs_drop (l : List UInt8) (n : Nat) : (bs l).extract n (bs l).size = bs (l.drop n) := by
  apply ByteArray.ext
  apply Array.toList_inj.1
  rw [ByteArray.data_extract, Array.toList_extract, List.extract_eq_take_drop, bs_size]
  simp [bs]
  apply List.take_of_length_le
  simp
def RdPost (w : World) (R : Nat) (v : Value) (t : List UInt8) (e : Ending) (w' : World) : Prop := e = .returned v ∧ Rdr w' R t ∧ Grew w R w'

set_option maxRecDepth 100000 in
theorem take_any (R : Nat) (t p : List UInt8) (w : World) (h : Rdr w R t) :
    Calls Tryz.prog 83 #[.pointer (some ⟨R, 0, none⟩), .string (bs p)] w (RdPost w R (.bool (Lib.hasPrefix t p)) (Lib.trimPrefix t p)) := by
  have c0 : w.cell? ⟨R, 0, none⟩ = some (.string (bs t)) := Blk.cell h 0
  have f0 := Blk.froz h 0
  have HC := Lib.hid (Tryz.strings_CutPrefix (bs t) (bs p) w)
  rw [bs_data, bs_data] at HC
  have HF := Lib.hid (show Rdr (w.setCell ⟨R, 0, none⟩ (.string (bs (Lib.trimPrefix t p)))) R (Lib.trimPrefix t p) ∧ Grew w R (w.setCell ⟨R, 0, none⟩ (.string (bs (Lib.trimPrefix t p)))) from ⟨h.set _, grew_set _ _ _⟩)
  rw [show (⟨(Lib.trimPrefix t p).toArray⟩ : ByteArray) = bs (Lib.trimPrefix t p) from rfl] at HC
  generalize bs (Lib.trimPrefix t p) = x at HC HF
  generalize bs t = y at c0 HC
  generalize bs p = z at HC
  go_enter Tryz.func83, Tryz.ntmps83
  go_wp2_with fail
  refine HC.out.mono ?_
  rintro e w1 ⟨rfl, hw1⟩
  rw [hw1]
  go_wp2_with fail
  go_ret
  exact ⟨rfl, HF.out.1, HF.out.2⟩

set_option maxRecDepth 100000 in
theorem next_any (R : Nat) (t : List UInt8) (n : Nat) (hn : n ≤ t.length) (ht : t.length ≤ 100000) (w : World) (h : Rdr w R t) :
    Calls Tryz.prog 126 #[.pointer (some ⟨R, 0, none⟩), .int .i64 (n : Int)] w (RdPost w R (.tuple #[.string (bs (t.take n)), .bool true]) (t.drop n)) := by
  have c0 : w.cell? ⟨R, 0, none⟩ = some (.string (bs t)) := Blk.cell h 0
  have f0 := Blk.froz h 0
  have hsz : (bs t).size = t.length := bs_size t
  have HF := Lib.hid (show Rdr (w.setCell ⟨R, 0, none⟩ (.string (bs (t.drop n)))) R (t.drop n) ∧ Grew w R (w.setCell ⟨R, 0, none⟩ (.string (bs (t.drop n)))) from ⟨h.set _, grew_set _ _ _⟩)
  rw [← bs_drop] at HF
  rw [← bs_take]
  generalize bs t = y at c0 HF hsz ⊢
  have g1 : ¬ ((y.size : Int) < (n : Int)) := by omega
  have g2 : (0 : Int) ≤ (n : Int) := by omega
  have g3 : (n : Int) ≤ (y.size : Int) := by omega
  have g4 : n ≤ y.size := by omega
  clear hsz hn
  go_enter Tryz.func126, Tryz.ntmps126
  go_wp2_with fail
  go_ret2
  exact ⟨rfl, HF.out.1, HF.out.2⟩

set_option maxRecDepth 100000 in
theorem hex_good (R : Nat) (u v : Nat) (hu : u < 16) (hv : v < 16) (r : List UInt8) (hr : r.length ≤ 90000) (w : World) (h : Rdr w R (UInt8.ofNat (hexd u) :: UInt8.ofNat (hexd v) :: r)) :
    Calls Tryz.prog 125 #[.pointer (some ⟨R, 0, none⟩)] w (RdPost w R (.tuple #[.int .u8 ((16 * u + v : Nat) : Int), .bool true]) r) := by
  have HN := Lib.hid (next_any R _ 2 (by simp) (by simp only [List.length_cons]; omega) w h)
  rw [show (UInt8.ofNat (hexd u) :: UInt8.ofNat (hexd v) :: r).take 2 = [UInt8.ofNat (hexd u), UInt8.ofNat (hexd v)] from rfl, show (UInt8.ofNat (hexd u) :: UInt8.ofNat (hexd v) :: r).drop 2 = r from rfl] at HN
  have HP := Lib.hid fun W => parseUint_hex u v hu hv W
  have hb : 16 * u + v < 256 := by omega
  generalize 16 * u + v = n at HP hb ⊢
  generalize bs [UInt8.ofNat (hexd u), UInt8.ofNat (hexd v)] = t at HN HP
  clear h hu hv
  have g1 : (0 : Int) ≤ (n : Int) := by omega
  have g2 : (n : Int) < 256 := by omega
  go_enter Tryz.func125, Tryz.ntmps125
  go_wp2_with fail
  refine HN.out.mono ?_
  rintro e w1 ⟨rfl, h1, k1⟩
  have H1 := Lib.hid (And.intro h1 k1)
  clear h1 k1 HN
  go_wp2_with fail
  refine (HP.out _).mono ?_
  rintro e w2 ⟨rfl, k2⟩
  have HF := Lib.hid (show Rdr w2 R r ∧ Grew w R w2 from ⟨H1.out.1.belowV k2, H1.out.2.and (grew_below R k2)⟩)
  clear k2
  have hw : IntKind.u8.wrap (n : Int) = (n : Int) := by rw [IntKind.wrap_u8]; omega
  go_wp2_with fail
  go_ret2
  exact ⟨rfl, HF.out.1, HF.out.2⟩
end Go.Proofs.YtledgnolmiecfaaGreatDoor

/-!
  The reader of package row: char, quoted.
-/
namespace Go.Proofs.YtledgnolmiecfaaGreatDoor
open Go.RowKit
set_option linter.unusedSimpArgs false
set_option linter.unusedVariables false

theorem trim_no {t p : List UInt8} (h : Lib.hasPrefix t p = false) : Lib.trimPrefix t p = t := by unfold Lib.trimPrefix; rw [h]; rfl
theorem trim_yes (p r : List UInt8) : Lib.hasPrefix (p ++ r) p = true ∧ Lib.trimPrefix (p ++ r) p = r := by
  have : Lib.hasPrefix (p ++ r) p = true := by unfold Lib.hasPrefix; simp
  exact ⟨this, by unfold Lib.trimPrefix; rw [if_pos this]; simp⟩
theorem index_one (c : UInt8) (W : World) : (Instr.index 9 (.string (bs [c])) (.int .i64 0)).run Tryz.prog W = .ok (.int .u8 (c.toNat : Int)) W := by
  unfold bs
  go_simp
  rfl

set_option maxRecDepth 100000 in
theorem char_plain (R : Nat) (t : List UInt8) (c : UInt8) (r : List UInt8) (hr : r.length ≤ 80000) (b : Bool) (h1 : Lib.hasPrefix t [92, 110] = false) (h2 : Lib.hasPrefix t [92, 120] = false) (h3 : Lib.hasPrefix t [92] = b) (h4 : Lib.trimPrefix t [92] = c :: r) (w : World) (h : Rdr w R t) :
    Calls Tryz.prog 122 #[.pointer (some ⟨R, 0, none⟩)] w (RdPost w R (.tuple #[.int .u8 (c.toNat : Int), .bool true]) r) := by
  have HA := Lib.hid fun W (h : Rdr W R t) => take_any R t [92, 110] W h
  have HB := Lib.hid fun W (h : Rdr W R t) => take_any R t [92, 120] W h
  have HC := Lib.hid fun W (h : Rdr W R t) => take_any R t [92] W h
  rw [h1, trim_no h1] at HA
  rw [h2, trim_no h2] at HB
  rw [h3, h4] at HC
  have HN := Lib.hid fun W (h : Rdr W R (c :: r)) => next_any R (c :: r) 1 (by simp) (by simp only [List.length_cons]; omega) W h
  rw [show (c :: r).take 1 = [c] from rfl, show (c :: r).drop 1 = r from rfl] at HN
  have HX := Lib.hid (index_one c)
  unfold bs at HA HB HC
  simp only [List.toArray] at HA HB HC
  have H0 := Lib.hid h
  clear h h1 h2 h3 h4
  go_enter Tryz.func122, Tryz.ntmps122
  go_wp2_with fail
  refine (HA.out _ H0.out).mono ?_
  rintro e w1 ⟨rfl, r1, k1⟩
  have H1 := Lib.hid (And.intro r1 k1)
  clear r1 k1
  go_wp2_with fail
  refine (HB.out _ H1.out.1).mono ?_
  rintro e w2 ⟨rfl, r2, k2⟩
  have H2 := Lib.hid (And.intro r2 (H1.out.2.and k2))
  clear r2 k2
  go_wp2_with fail
  refine (HC.out _ H2.out.1).mono ?_
  rintro e w3 ⟨rfl, r3, k3⟩
  have H3 := Lib.hid (And.intro r3 (H2.out.2.and k3))
  clear r3 k3
  go_wp2_with fail
  refine (HN.out _ H3.out.1).mono ?_
  rintro e w4 ⟨rfl, r4, k4⟩
  have H4 := Lib.hid (And.intro r4 (H3.out.2.and k4))
  clear r4 k4
  have hx := HX.out
  go_wp2_with fail
  go_ret2
  exact ⟨rfl, H4.out.1, H4.out.2⟩
set_option maxRecDepth 100000 in
theorem char_line (R : Nat) (r : List UInt8) (w : World) (h : Rdr w R (92 :: 110 :: r)) :
    Calls Tryz.prog 122 #[.pointer (some ⟨R, 0, none⟩)] w (RdPost w R (.tuple #[.int .u8 10, .bool true]) r) := by
  have HA := Lib.hid (take_any R _ [92, 110] w h)
  have hy := trim_yes [92, 110] r
  rw [show (92 :: 110 :: r : List UInt8) = [92, 110] ++ r from rfl, hy.1, hy.2] at HA
  unfold bs at HA
  simp only [List.toArray] at HA
  clear h hy
  go_enter Tryz.func122, Tryz.ntmps122
  go_wp2_with fail
  refine HA.out.mono ?_
  rintro e w1 ⟨rfl, r1, k1⟩
  have H1 := Lib.hid (And.intro r1 k1)
  clear r1 k1
  go_wp2_with fail
  go_ret2
  exact ⟨rfl, H1.out.1, H1.out.2⟩
set_option maxRecDepth 100000 in
theorem char_hex (R u v : Nat) (hu : u < 16) (hv : v < 16) (r : List UInt8) (hr : r.length ≤ 80000) (w : World) (h : Rdr w R (92 :: 120 :: UInt8.ofNat (hexd u) :: UInt8.ofNat (hexd v) :: r)) :
    Calls Tryz.prog 122 #[.pointer (some ⟨R, 0, none⟩)] w (RdPost w R (.tuple #[.int .u8 ((16 * u + v : Nat) : Int), .bool true]) r) := by
  have h1 : Lib.hasPrefix (92 :: 120 :: UInt8.ofNat (hexd u) :: UInt8.ofNat (hexd v) :: r) [92, 110] = false := by
    unfold Lib.hasPrefix; simp [List.isPrefixOf]
  have HA := Lib.hid fun W (h : Rdr W R (92 :: 120 :: UInt8.ofNat (hexd u) :: UInt8.ofNat (hexd v) :: r)) => take_any R _ [92, 110] W h
  rw [h1, trim_no h1] at HA
  have HB := Lib.hid fun W (h : Rdr W R (92 :: 120 :: UInt8.ofNat (hexd u) :: UInt8.ofNat (hexd v) :: r)) => take_any R _ [92, 120] W h
  have hy := trim_yes [92, 120] (UInt8.ofNat (hexd u) :: UInt8.ofNat (hexd v) :: r)
  rw [show (92 :: 120 :: UInt8.ofNat (hexd u) :: UInt8.ofNat (hexd v) :: r : List UInt8) = [92, 120] ++ (UInt8.ofNat (hexd u) :: UInt8.ofNat (hexd v) :: r) from rfl] at HA HB h
  rw [hy.1, hy.2] at HB
  have HH := Lib.hid fun W (h : Rdr W R (UInt8.ofNat (hexd u) :: UInt8.ofNat (hexd v) :: r)) => hex_good R u v hu hv r (by omega) W h
  unfold bs at HA HB
  simp only [List.toArray] at HA HB
  have H0 := Lib.hid h
  clear h hy h1
  generalize ((16 * u + v : Nat) : Int) = n at HH
  go_enter Tryz.func122, Tryz.ntmps122
  go_wp2_with fail
  refine (HA.out _ H0.out).mono ?_
  rintro e w1 ⟨rfl, r1, k1⟩
  have H1 := Lib.hid (And.intro r1 k1)
  clear r1 k1
  go_wp2_with fail
  refine (HB.out _ H1.out.1).mono ?_
  rintro e w2 ⟨rfl, r2, k2⟩
  have H2 := Lib.hid (And.intro r2 (H1.out.2.and k2))
  clear r2 k2
  go_wp2_with fail
  refine (HH.out _ H2.out.1).mono ?_
  rintro e w3 ⟨rfl, r3, k3⟩
  have H3 := Lib.hid (And.intro r3 (H2.out.2.and k3))
  clear r3 k3
  go_wp2_with fail
  go_ret2
  exact ⟨rfl, H3.out.1, H3.out.2⟩
theorem char_good (R : Nat) (c : UInt8) (r : List UInt8) (hr : r.length ≤ 80000) (w : World) (h : Rdr w R (qB c ++ r)) :
    Calls Tryz.prog 122 #[.pointer (some ⟨R, 0, none⟩)] w (RdPost w R (.tuple #[.int .u8 (c.toNat : Int), .bool true]) r) := by
  unfold qB at h
  split at h
  · rename_i hc
    have e1 : (110 : UInt8) ≠ c := fun e => by subst e; exact absurd hc (by decide)
    have e2 : (120 : UInt8) ≠ c := fun e => by subst e; exact absurd hc (by decide)
    refine char_plain R (92 :: c :: r) c r hr true ?_ ?_ ?_ ?_ w h
    · unfold Lib.hasPrefix; simp [List.isPrefixOf, e1]
    · unfold Lib.hasPrefix; simp [List.isPrefixOf, e2]
    · exact (trim_yes [92] (c :: r)).1
    · exact (trim_yes [92] (c :: r)).2
  · rename_i hc
    split at h
    · rename_i h10
      rw [show (c.toNat : Int) = 10 by omega]
      exact char_line R r w h
    · split at h
      · have hlt := c.toNat_lt
        have := char_hex R (c.toNat / 16) (c.toNat % 16) (by omega) (by omega) r hr w h
        rw [show 16 * (c.toNat / 16) + c.toNat % 16 = c.toNat by omega] at this
        exact this
      · have e1 : (92 : UInt8) ≠ c := fun e => by subst e; exact hc (by decide)
        have hp : ∀ q, Lib.hasPrefix (c :: r) (92 :: q) = false := fun q => by unfold Lib.hasPrefix; simp [List.isPrefixOf, e1]
        exact char_plain R (c :: r) c r hr false (hp _) (hp _) (hp _) (trim_no (hp _)) w h
end Go.Proofs.YtledgnolmiecfaaGreatDoor

/-!
  The reader of package row: quoted.
-/
namespace Go.Proofs.YtledgnolmiecfaaGreatDoor
open Go.RowKit Go.Lib
set_option linter.unusedSimpArgs false
set_option linter.unusedVariables false

theorem own_grew {W W' : World} {lo n size R : Nat} {e : TypeId} {v : Value} {xs : List Value} (h : W.ownsRow lo e size v n xs) (hg : Grew W R W') (hR : R < lo) : W'.ownsRow lo e size v n xs := by
  refine h.kept hg ?_
  cases hv : v.ownBlock with
  | none => exact .inl rfl
  | some x =>
    refine .inr fun e1 => ?_
    have h1 := (h.lt x hv).1
    simp only [Option.some.injEq] at e1
    omega
theorem grew_low {w w4 w5 : World} {R n : Nat} (h : Grew w R w4) (k : Below n w4 w5) (hn : w.heap.size ≤ n) : Grew w R w5 :=
  ⟨k.os.trans h.os, k.tape.trans h.tape, k.output.trans h.output, Nat.le_trans h.size k.size, fun i hi hne => (k.block i (by omega)).trans (h.block i hi hne)⟩
theorem slice_of_bytes {W : World} {lo n : Nat} {v : Value} {xs : List Value} (h : W.ownsRow lo 5 1 v n xs) : ∃ q cap, v = .slice q n cap := by
  rcases h.2 with ⟨h0, hn⟩ | ⟨g, cap, cur, he, _⟩
  · exact ⟨none, 0, by rw [h0, hn]⟩
  · exact ⟨_, cap, he⟩
theorem q_first (c : UInt8) (r : List UInt8) : Lib.hasPrefix (qB c ++ r) [34] = false := by
  unfold Lib.hasPrefix qB
  split
  · simp [List.isPrefixOf]
  · rename_i hc
    split
    · simp [List.isPrefixOf]
    · split
      · simp [List.isPrefixOf]
      · have e1 : (34 : UInt8) ≠ c := fun e => by subst e; exact hc (by decide)
        simp [List.isPrefixOf, e1]
def lenOf (v : Value) : Nat := match v with
  | .slice _ n _ => n
  | _ => 0
theorem flat_step {l : List UInt8} {k : Nat} (h : k < l.length) (r : List UInt8) : (l.drop k).flatMap qB ++ r = qB l[k] ++ ((l.drop (k + 1)).flatMap qB ++ r) := by
  rw [List.drop_eq_getElem_cons h, List.flatMap_cons, List.append_assoc]
theorem rest_len (l : List UInt8) (k : Nat) (r : List UInt8) : ((l.drop k).flatMap qB ++ r).length ≤ 4 * l.length + r.length := by
  have h1 := flat_len (l.drop k)
  rw [List.length_drop] at h1
  rw [List.length_append]
  omega
def zeroV : Array Value := #[.int .i64 0, .int .i64 0, .string ⟨#[]⟩]

set_option maxRecDepth 100000 in
set_option maxHeartbeats 2000000 in
theorem quoted_good (R : Nat) (l r : List UInt8) (hl : l.length ≤ 200) (hr : r.length ≤ 60000) (w : World) (h : Rdr w R (quoted l ++ r)) :
    Calls Tryz.prog 111 #[.pointer (some ⟨R, 0, none⟩)] w (RdPost w R (.tuple #[.agg #[.int .i64 2, .int .i64 0, .string (bs l)], .bool true]) r) := by
  obtain ⟨i0, hi, hz0, hz1, hz2⟩ := info_parts infoB
  have hRl : R < w.heap.size := Blk.lt h
  have hb1 : Below w.heap.size w (w.alloc (.cells #[.int .i64 0, .int .i64 0, .string ⟨#[]⟩] 40)) := (Below.refl _ _).alloc (Nat.le_refl _) _
  have h1 := h.belowV hb1
  have hk1 : Blk (w.alloc (.cells #[.int .i64 0, .int .i64 0, .string ⟨#[]⟩] 40)) w.heap.size 40 #[.int .i64 0, .int .i64 0, .string ⟨#[]⟩] := Blk.new _ _ _
  have hs1 : (w.alloc (.cells #[.int .i64 0, .int .i64 0, .string ⟨#[]⟩] 40)).heap.size = w.heap.size + 1 := by simp
  have hg1 := grew_below R hb1
  have hq : quoted l ++ r = [34] ++ ((l.drop 0).flatMap qB ++ 34 :: r) := by unfold quoted; simp
  have hy := trim_yes [34] ((l.drop 0).flatMap qB ++ 34 :: r)
  generalize hw1 : w.alloc (.cells #[.int .i64 0, .int .i64 0, .string ⟨#[]⟩] 40) = w1 at h1 hk1 hs1 hg1
  have HT := take_any R (quoted l ++ r) [34] w1 h1
  rw [hq, hy.1, hy.2] at HT
  unfold bs at HT
  simp only [List.toArray] at HT
  have HT := Lib.hid HT
  have HK1 := Lib.hid (And.intro hk1 hg1)
  have HTK := Lib.hid fun W t (h : Rdr W R t) => take_any R t [34] W h
  unfold bs at HTK
  simp only [List.toArray] at HTK
  have HCH := Lib.hid fun W c r' (hr : r'.length ≤ 80000) (h : Rdr W R (qB c ++ r')) => char_good R c r' hr W h
  clear h h1 hk1 hg1 hb1 hq hy
  go_enter Tryz.func111, Tryz.ntmps111
  go_wp2_with fail
  refine HT.out.mono ?_
  rintro e w2 ⟨rfl, r2, k2⟩
  have HR2 := Lib.hid r2
  have HG2 := Lib.hid (HK1.out.2.and k2)
  have HK2 := Lib.hid (HK1.out.1.keepG k2 (by simp only [ne_eq, Option.some.injEq]; omega))
  have hs2 : w.heap.size + 1 ≤ w2.heap.size := by have := k2.size; omega
  clear r2 k2 HT HK1
  go_wp2_with fail
  go_loopw [4] (fun tv wr => ∃ k : Nat, k ≤ l.length ∧ Hid (wr.ownsRow (w.heap.size + 1) 5 1 tv k (byteCells (l.take k))) ∧ Hid (Rdr wr R ((l.drop k).flatMap qB ++ 34 :: r)) ∧ Hid (Grew w R wr) ∧ Hid (Blk wr w.heap.size 40 #[.int .i64 0, .int .i64 0, .string ⟨#[]⟩]) ∧ w.heap.size + 1 ≤ wr.heap.size) (fun tv _ => l.length - lenOf tv)
  case atStart => exact ⟨0, Nat.zero_le _, World.ownsRow_nil _ _ _ _, HR2.out, HG2.out, HK2.out, hs2⟩
  case round =>
    clear HR2 HG2 HK2 hs2
    obtain ⟨k, hkl, HO, HR, HG, HK, hsz⟩ := hrel
    obtain ⟨q, cap, rfl⟩ := slice_of_bytes HO.out
    by_cases hlt : k < l.length
    · have hst := flat_step hlt (34 :: r)
      have hrl := rest_len l (k + 1) (34 :: r)
      have HRW := HR.out
      rw [hst] at HRW
      have HA := HTK.out wr _ HRW
      rw [q_first, trim_no (q_first _ _)] at HA
      have HA := Lib.hid HA
      have htk : l.take (k + 1) = l.take k ++ [l[k]] := List.take_succ_eq_append_getElem hlt
      have HTN := Lib.hid htk
      have HRL := Lib.hid (show ((l.drop (k + 1)).flatMap qB ++ 34 :: r).length ≤ 80000 by simp only [List.length_cons] at hrl; omega)
      clear HRW hst hrl htk HR
      generalize l[k] = c at HA HTN
      go_wp2_with fail
      refine HA.out.mono ?_
      rintro e w3 ⟨rfl, r3, k3⟩
      have HO3 := Lib.hid (own_grew HO.out k3 (by omega))
      have HG3 := Lib.hid (HG.out.and k3)
      have HK3 := Lib.hid (HK.out.keepG k3 (by simp only [ne_eq, Option.some.injEq]; omega))
      have hs3 : w.heap.size + 1 ≤ w3.heap.size := by have := k3.size; omega
      have HB := Lib.hid (HCH.out w3 c _ HRL.out r3)
      clear r3 k3 HA HO HG HK
      go_wp2_with fail
      refine HB.out.mono ?_
      rintro e w4 ⟨rfl, r4, k4⟩
      have HO4 := own_grew HO3.out k4 (by omega)
      have HG4 := Lib.hid (HG3.out.and k4)
      have HK4 := Lib.hid (HK3.out.keepG k4 (by simp only [ne_eq, Option.some.injEq]; omega))
      have hs4 : w.heap.size + 1 ≤ w4.heap.size := by have := k4.size; omega
      have HR4 := Lib.hid r4
      clear r4 k4 HB HO3 HG3 HK3
      have HLT := Lib.hid hlt
      go_wp2_with (at_builtin; refine wpList_append_bytes rfl _ _ rfl (w.heap.size + 1) _ k (byteCells (l.take k)) rfl (HO4.alloc _) ⟨w4.heap.size, 0, none⟩ 1 1 [c] rfl rfl (cells_new _ _ _) (by omega) (by simp <;> omega) ?_; intro v5 w5 hown5 hb5 _; have HF := Lib.hid (show w5.ownsRow (w.heap.size + 1) 5 1 v5 (k + 1) (byteCells (l.take (k + 1))) ∧ Below (w.heap.size + 1) w4 w5 from ⟨by rw [HTN.out]; simpa [byteCells] using hown5, ((Below.refl _ w4).alloc hs4 _).trans hb5⟩); clear hown5 hb5)
      obtain ⟨q', cap', hv'⟩ := slice_of_bytes HF.out.1
      subst hv'
      go_roundw
      case rel => exact ⟨k + 1, by have := HLT.out; omega, HF.out.1, Blk.belowV HR4.out HF.out.2 (by omega), grew_low HG4.out HF.out.2 (by omega), Blk.belowV HK4.out HF.out.2 (by omega), Nat.le_trans hs4 HF.out.2.size⟩
      case measure => have := HLT.out; simp [lenOf]; omega
    · have hke : k = l.length := by omega
      have HRW := HR.out
      rw [hke, List.drop_length] at HRW
      have HA := HTK.out wr _ HRW
      have hy := trim_yes [34] r
      rw [show ([] : List UInt8).flatMap qB ++ 34 :: r = [34] ++ r from rfl, hy.1, hy.2] at HA
      have HA := Lib.hid HA
      have hO := HO.out
      rw [hke, List.take_length] at hO
      have HO := Lib.hid hO
      clear HRW hy HR HTK HCH hO
      rw [hke]
      go_wp2_with fail
      refine HA.out.mono ?_
      rintro e w3 ⟨rfl, r3, k3⟩
      have hO3 := own_grew HO.out k3 (by omega)
      have hcv := owns_string rfl hO3
      have HG3 := Lib.hid (HG.out.and k3)
      have HK3 := Lib.hid (HK.out.keepG k3 (by simp only [ne_eq, Option.some.injEq]; omega))
      have HR3 := Lib.hid r3
      have hk3 := HK3.out
      have c0 := hk3.cell 0
      have c1 := hk3.cell 1
      have c2 := hk3.cell 2
      have f0 := hk3.froz 0
      have f1 := hk3.froz 1
      have f2 := hk3.froz 2
      simp only [List.getElem?_toArray, List.getElem?_cons_zero, List.getElem?_cons_succ] at c0 c1 c2
      rw [show (⟨l.toArray⟩ : ByteArray) = bs l from rfl] at hcv
      clear r3 k3 HA HO HG HK hO3 hk3 hke
      obtain ⟨x, HX⟩ : ∃ x, Hid (bs l = x) := ⟨_, rfl⟩
      rw [HX.out] at hcv
      have HF := Lib.hid (show Rdr (((w3.setCell ⟨w.heap.size, 0, none⟩ (.int .i64 2)).setCell ⟨w.heap.size, 1, none⟩ (.int .i64 0)).setCell ⟨w.heap.size, 2, none⟩ (.string x)) R r ∧ Grew w R (((w3.setCell ⟨w.heap.size, 0, none⟩ (.int .i64 2)).setCell ⟨w.heap.size, 1, none⟩ (.int .i64 0)).setCell ⟨w.heap.size, 2, none⟩ (.string x)) ∧ Blk (((w3.setCell ⟨w.heap.size, 0, none⟩ (.int .i64 2)).setCell ⟨w.heap.size, 1, none⟩ (.int .i64 0)).setCell ⟨w.heap.size, 2, none⟩ (.string x)) w.heap.size 40 #[.int .i64 2, .int .i64 0, .string x] from
        ⟨Blk.setOther (Blk.setOther (Blk.setOther HR3.out (by omega) _) (by omega) _) (by omega) _, grew_low HG3.out (((Below.refl w.heap.size w3).setCell (p := ⟨w.heap.size, 0, none⟩) (Nat.le_refl _) _).setCell (p := ⟨w.heap.size, 1, none⟩) (Nat.le_refl _) _ |>.setCell (p := ⟨w.heap.size, 2, none⟩) (Nat.le_refl _) _) (Nat.le_refl _), ((HK3.out.setG 0 _).setG 1 _).setG 2 _⟩)
      go_wp2_with fail
      have r0 := HF.out.2.2.cell 0
      have r1 := HF.out.2.2.cell 1
      have r2 := HF.out.2.2.cell 2
      simp only [List.getElem?_toArray, List.getElem?_cons_zero, List.getElem?_cons_succ] at r0 r1 r2
      refine bodyPost_ret (v := .tuple #[.agg #[.int .i64 2, .int .i64 0, .string x], .bool true]) (by simp [results, Tryz.f111, go_sem, r0, r1, r2]) rfl ?_
      exact ⟨by rw [HX.out], HF.out.1, HF.out.2.1⟩
end Go.Proofs.YtledgnolmiecfaaGreatDoor

/-!
  The reader of package row: null, number.
-/
namespace Go.Proofs.YtledgnolmiecfaaGreatDoor
open Go.RowKit Go.Lib
set_option linter.unusedSimpArgs false
set_option linter.unusedVariables false

/-- What the library's variables hold, as long as no old block turns. -/
structure Env (B : Nat) (w : World) : Prop where
  tab : Tab B w
  max : ∀ w', Below B w w' → ∃ k, w'.cell? ⟨1, 0, none⟩ = some (.int .i64 k)
  err : ∀ w', Below B w w' → ∃ te pe, w'.cell? ⟨2, 0, none⟩ = some (.iface te pe)
  rng : ∀ w', Below B w w' → ∃ te pe, w'.cell? ⟨3, 0, none⟩ = some (.iface te pe)
theorem Env.on {B : Nat} {w w1 : World} (h : Env B w) (k : Below B w w1) : Env B w1 := ⟨fun w' hb => h.tab w' (k.trans hb), fun w' hb => h.max w' (k.trans hb), fun w' hb => h.err w' (k.trans hb), fun w' hb => h.rng w' (k.trans hb)⟩
theorem Env.up {B : Nat} {w : World} (h : Env B w) (hB : B ≤ w.heap.size) : Env w.heap.size w := ⟨fun w' hb => h.tab w' (hb.mono hB), fun w' hb => h.max w' (hb.mono hB), fun w' hb => h.err w' (hb.mono hB), fun w' hb => h.rng w' (hb.mono hB)⟩
theorem Grew.low {w w' : World} {R B : Nat} (h : Grew w R w') (hB : B ≤ R) (hw : B ≤ w.heap.size) : Below B w w' := (Below.refl _ _).grown h hw (fun k e => by simp at e; omega)
def wordNum (x : List UInt8) : Option Int := match Lib.atoiAll x with
  | .ok v => some v
  | _ => none
def AtoiPost (x : List UInt8) (w : World) (e : Ending) (w' : World) : Prop := ∃ v r, e = .returned (.tuple #[.int .i64 v, r]) ∧ ((wordNum x = some v ∧ r = .nilIface) ∨ (wordNum x = none ∧ ∃ t q, r = .iface t q)) ∧ Below w.heap.size w w'
theorem atoi_any (s : ByteArray) (hs : s.size ≤ 1000000) (B : Nat) (w : World) (hE : Env B w) : Calls Tryz.prog 40 #[.string s] w (AtoiPost s.data.toList w) := by
  unfold AtoiPost wordNum
  cases h : Lib.atoiAll s.data.toList with
  | ok v =>
    refine (Tryz.strconv_Atoi_ok s (by omega) v h w).mono ?_
    rintro e w' ⟨he, hw | ⟨t, hw⟩⟩
    · exact ⟨v, _, he, .inl ⟨rfl, rfl⟩, hw ▸ Below.refl _ _⟩
    · exact ⟨v, _, he, .inl ⟨rfl, rfl⟩, hw ▸ below_bytesT _ _ _⟩
  | «syntax» =>
    obtain ⟨te, pe, hv⟩ := hE.err w (Below.refl _ _)
    refine (Tryz.strconv_Atoi_syntax s (by omega) h (.iface te pe) w hv (.inr ⟨te, pe, rfl⟩)).mono ?_
    rintro e w' ⟨N, he, _, _, hb⟩
    exact ⟨0, _, he, .inr ⟨rfl, _, _, rfl⟩, hb⟩
  | range =>
    obtain ⟨te, pe, hv⟩ := hE.rng w (Below.refl _ _)
    refine (Tryz.strconv_Atoi_range s (by omega) h (.iface te pe) w hv (.inr ⟨te, pe, rfl⟩)).mono ?_
    rintro e w' ⟨N, he, _, _, hb⟩
    exact ⟨_, _, he, .inr ⟨rfl, _, _, rfl⟩, hb⟩
theorem wordNum_itoa {n : Int} (h0 : -1000000000000000000 < n) (h1 : n < 1000000000000000000) : wordNum (itoa n) = some n := by
  unfold wordNum; rw [atoi_itoa h0 h1]
theorem wordNum_quote (r : List UInt8) : wordNum (34 :: r) = none := by
  unfold wordNum
  have : Lib.atoiAll (34 :: r) = .syntax := by
    unfold Lib.atoiAll
    simp [Lib.parseMag, Lib.parseUint10]
  rw [this]
def blank : List UInt8 := [126]

set_option maxRecDepth 100000 in
set_option maxHeartbeats 2000000 in
theorem null_any (R : Nat) (t : List UInt8) (w : World) (h : Rdr w R t) :
    Calls Tryz.prog 109 #[.pointer (some ⟨R, 0, none⟩)] w (RdPost w R (.tuple #[.agg #[.int .i64 0, .int .i64 0, .string ⟨#[]⟩], .bool (Lib.hasPrefix t [126])]) (Lib.trimPrefix t [126])) := by
  have hRl : R < w.heap.size := Blk.lt h
  have hb1 : Below w.heap.size w (w.alloc (.cells #[.int .i64 0, .int .i64 0, .string ⟨#[]⟩] 40)) := (Below.refl _ _).alloc (Nat.le_refl _) _
  have h1 := h.belowV hb1
  have hk1 : Blk (w.alloc (.cells #[.int .i64 0, .int .i64 0, .string ⟨#[]⟩] 40)) w.heap.size 40 #[.int .i64 0, .int .i64 0, .string ⟨#[]⟩] := Blk.new _ _ _
  have hs1 : (w.alloc (.cells #[.int .i64 0, .int .i64 0, .string ⟨#[]⟩] 40)).heap.size = w.heap.size + 1 := by simp
  have hg1 := grew_below R hb1
  generalize hw1 : w.alloc (.cells #[.int .i64 0, .int .i64 0, .string ⟨#[]⟩] 40) = w1 at h1 hk1 hs1 hg1
  have HT := take_any R t [126] w1 h1
  unfold bs at HT
  simp only [List.toArray] at HT
  have HT := Lib.hid HT
  have HK1 := Lib.hid (And.intro hk1 hg1)
  clear h h1 hk1 hg1 hb1
  generalize Lib.hasPrefix t [126] = b at HT ⊢
  generalize Lib.trimPrefix t [126] = t' at HT ⊢
  go_enter Tryz.func109, Tryz.ntmps109
  go_wp2_with fail
  refine HT.out.mono ?_
  rintro e w2 ⟨rfl, r2, k2⟩
  have hk2 := HK1.out.1.keepG k2 (by simp only [ne_eq, Option.some.injEq]; omega)
  have HR := Lib.hid r2
  have HG := Lib.hid (HK1.out.2.and k2)
  have HK := Lib.hid hk2
  have c0 := hk2.cell 0
  have c1 := hk2.cell 1
  have c2 := hk2.cell 2
  have f0 := hk2.froz 0
  have f1 := hk2.froz 1
  have f2 := hk2.froz 2
  simp only [List.getElem?_toArray, List.getElem?_cons_zero, List.getElem?_cons_succ] at c0 c1 c2
  clear r2 k2 hk2 HT HK1
  have HF := Lib.hid (show Rdr (((w2.setCell ⟨w.heap.size, 0, none⟩ (.int .i64 0)).setCell ⟨w.heap.size, 1, none⟩ (.int .i64 0)).setCell ⟨w.heap.size, 2, none⟩ (.string ⟨#[]⟩)) R t' ∧ Grew w R (((w2.setCell ⟨w.heap.size, 0, none⟩ (.int .i64 0)).setCell ⟨w.heap.size, 1, none⟩ (.int .i64 0)).setCell ⟨w.heap.size, 2, none⟩ (.string ⟨#[]⟩)) ∧ Blk (((w2.setCell ⟨w.heap.size, 0, none⟩ (.int .i64 0)).setCell ⟨w.heap.size, 1, none⟩ (.int .i64 0)).setCell ⟨w.heap.size, 2, none⟩ (.string ⟨#[]⟩)) w.heap.size 40 #[.int .i64 0, .int .i64 0, .string ⟨#[]⟩] from
    ⟨Blk.setOther (Blk.setOther (Blk.setOther HR.out (by omega) _) (by omega) _) (by omega) _, grew_low HG.out (((Below.refl w.heap.size w2).setCell (p := ⟨w.heap.size, 0, none⟩) (Nat.le_refl _) _).setCell (p := ⟨w.heap.size, 1, none⟩) (Nat.le_refl _) _ |>.setCell (p := ⟨w.heap.size, 2, none⟩) (Nat.le_refl _) _) (Nat.le_refl _), ((HK.out.setG 0 _).setG 1 _).setG 2 _⟩)
  go_wp2_with fail
  have r0 := HF.out.2.2.cell 0
  have r1 := HF.out.2.2.cell 1
  have r2 := HF.out.2.2.cell 2
  simp only [List.getElem?_toArray, List.getElem?_cons_zero, List.getElem?_cons_succ] at r0 r1 r2
  refine bodyPost_ret (v := .tuple #[.agg #[.int .i64 0, .int .i64 0, .string ⟨#[]⟩], .bool b]) (by simp [results, Tryz.f109, go_sem, r0, r1, r2]) rfl ?_
  exact ⟨rfl, HF.out.1, HF.out.2.1⟩

set_option maxRecDepth 100000 in
set_option maxHeartbeats 2000000 in
theorem number_bad (R B : Nat) (t : List UInt8) (hl : t.length ≤ 70000) (hn : wordNum (Lib.cut t [44]).1 = none) (w : World) (h : Rdr w R t) (hE : Env B w) (hB : B ≤ R) :
    Calls Tryz.prog 110 #[.pointer (some ⟨R, 0, none⟩)] w (RdPost w R (.tuple #[.agg #[.int .i64 0, .int .i64 0, .string ⟨#[]⟩], .bool false]) t) := by
  have hRl : R < w.heap.size := Blk.lt h
  have hb1 : Below w.heap.size w (w.alloc (.cells #[.int .i64 0, .int .i64 0, .string ⟨#[]⟩] 40)) := (Below.refl _ _).alloc (Nat.le_refl _) _
  have h1 := h.belowV hb1
  have hk1 : Blk (w.alloc (.cells #[.int .i64 0, .int .i64 0, .string ⟨#[]⟩] 40)) w.heap.size 40 #[.int .i64 0, .int .i64 0, .string ⟨#[]⟩] := Blk.new _ _ _
  have hs1 : (w.alloc (.cells #[.int .i64 0, .int .i64 0, .string ⟨#[]⟩] 40)).heap.size = w.heap.size + 1 := by simp
  have hg1 := grew_below R hb1
  have hE1 := hE.on (hb1.mono (by omega))
  generalize hw1 : w.alloc (.cells #[.int .i64 0, .int .i64 0, .string ⟨#[]⟩] 40) = w1 at h1 hk1 hs1 hg1 hE1
  have hc0 : w1.cell? ⟨R, 0, none⟩ = some (.string (bs t)) := Blk.cell h1 0
  obtain ⟨m, hm⟩ := hE1.max w1 (Below.refl _ _)
  have HC := Tryz.strings_Cut (bs t) ⟨#[44]⟩ m w1 (by rw [bs_size]; omega) hm
  rw [bs_data, show (⟨#[44]⟩ : ByteArray).data.toList = [44] from rfl] at HC
  have hq : (Lib.cut t [44]).1.length ≤ t.length := by
    unfold Lib.cut
    split
    · rw [List.length_take]; omega
    · exact Nat.le_refl _
  have HC := Lib.hid HC
  have HA := Lib.hid fun W (k : Below B w1 W) => atoi_any ⟨((Lib.cut t [44]).1).toArray⟩ (by show ((Lib.cut t [44]).1).toArray.size ≤ 1000000; rw [List.size_toArray]; omega) B W (hE1.on k)
  rw [show (⟨((Lib.cut t [44]).1).toArray⟩ : ByteArray).data.toList = (Lib.cut t [44]).1 from rfl] at HA
  unfold AtoiPost at HA
  rw [hn] at HA
  have HK1 := Lib.hid (And.intro hk1 hg1)
  have HR1 := Lib.hid h1
  have hBw : B ≤ w1.heap.size := by omega
  clear h h1 hk1 hg1 hb1 hE hE1 hm
  generalize (⟨((Lib.cut t [44]).1).toArray⟩ : ByteArray) = dg at HC HA
  generalize hbt : bs t = y at hc0 HC
  clear hq hl hn hbt
  generalize (⟨(Lib.cut t [44]).2.1.toArray⟩ : ByteArray) = ds at HC
  generalize (Lib.cut t [44]).2.2 = db at HC
  go_enter Tryz.func110, Tryz.ntmps110
  go_wp2_with fail
  refine HC.out.mono ?_
  rintro e w2 ⟨rfl, kk, hw2⟩
  have kb : Below w1.heap.size w1 w2 := by rw [hw2]; exact ⟨rfl, rfl, rfl, Nat.le_refl _, fun _ _ => rfl⟩
  have HK2 := Lib.hid (And.intro (HK1.out.1.belowV kb HK1.out.1.lt) (HK1.out.2.and (grew_below R kb)))
  have HR2 := Lib.hid (HR1.out.belowV kb)
  have HA2 := Lib.hid (HA.out w2 (kb.mono hBw))
  have hs2 : w1.heap.size ≤ w2.heap.size := kb.size
  clear hw2 kb HC HA HK1 HR1
  go_wp2_with fail
  refine HA2.out.mono ?_
  rintro e w3 ⟨v, rr, rfl, ⟨h3, _⟩ | ⟨_, te, pe, rfl⟩, k3⟩
  · cases h3
  have hk3 := HK2.out.1.belowV k3 HK2.out.1.lt
  have HG := Lib.hid (HK2.out.2.and (grew_below R k3))
  have HK := Lib.hid hk3
  have hr3 := HR2.out.belowV k3
  have HR := Lib.hid hr3
  have c0 := hk3.cell 0
  have c1 := hk3.cell 1
  have c2 := hk3.cell 2
  have f0 := hk3.froz 0
  have f1 := hk3.froz 1
  have f2 := hk3.froz 2
  simp only [List.getElem?_toArray, List.getElem?_cons_zero, List.getElem?_cons_succ] at c0 c1 c2
  clear hk3 hr3 k3 HA2 HK2 HR2
  have HF := Lib.hid (show Rdr (((w3.setCell ⟨w.heap.size, 0, none⟩ (.int .i64 0)).setCell ⟨w.heap.size, 1, none⟩ (.int .i64 0)).setCell ⟨w.heap.size, 2, none⟩ (.string ⟨#[]⟩)) R t ∧ Grew w R (((w3.setCell ⟨w.heap.size, 0, none⟩ (.int .i64 0)).setCell ⟨w.heap.size, 1, none⟩ (.int .i64 0)).setCell ⟨w.heap.size, 2, none⟩ (.string ⟨#[]⟩)) ∧ Blk (((w3.setCell ⟨w.heap.size, 0, none⟩ (.int .i64 0)).setCell ⟨w.heap.size, 1, none⟩ (.int .i64 0)).setCell ⟨w.heap.size, 2, none⟩ (.string ⟨#[]⟩)) w.heap.size 40 #[.int .i64 0, .int .i64 0, .string ⟨#[]⟩] from
    ⟨Blk.setOther (Blk.setOther (Blk.setOther HR.out (by omega) _) (by omega) _) (by omega) _, grew_low HG.out (((Below.refl w.heap.size w3).setCell (p := ⟨w.heap.size, 0, none⟩) (Nat.le_refl _) _).setCell (p := ⟨w.heap.size, 1, none⟩) (Nat.le_refl _) _ |>.setCell (p := ⟨w.heap.size, 2, none⟩) (Nat.le_refl _) _) (Nat.le_refl _), ((HK.out.setG 0 _).setG 1 _).setG 2 _⟩)
  go_wp2_with fail
  have r0 := HF.out.2.2.cell 0
  have r1 := HF.out.2.2.cell 1
  have r2 := HF.out.2.2.cell 2
  simp only [List.getElem?_toArray, List.getElem?_cons_zero, List.getElem?_cons_succ] at r0 r1 r2
  refine bodyPost_ret (v := .tuple #[.agg #[.int .i64 0, .int .i64 0, .string ⟨#[]⟩], .bool false]) (by simp [results, Tryz.f110, go_sem, r0, r1, r2]) rfl ?_
  exact ⟨rfl, HF.out.1, HF.out.2.1⟩

set_option maxRecDepth 100000 in
set_option maxHeartbeats 2000000 in
theorem number_good (R B : Nat) (t : List UInt8) (hl : t.length ≤ 70000) (n : Int) (r : List UInt8) (ht : t = Lib.itoa n ++ r) (hc : (Lib.cut t [44]).1 = Lib.itoa n) (hn : wordNum (Lib.itoa n) = some n) (w : World) (h : Rdr w R t) (hE : Env B w) (hB : B ≤ R) :
    Calls Tryz.prog 110 #[.pointer (some ⟨R, 0, none⟩)] w (RdPost w R (.tuple #[.agg #[.int .i64 1, .int .i64 n, .string ⟨#[]⟩], .bool true]) r) := by
  have hRl : R < w.heap.size := Blk.lt h
  have hb1 : Below w.heap.size w (w.alloc (.cells #[.int .i64 0, .int .i64 0, .string ⟨#[]⟩] 40)) := (Below.refl _ _).alloc (Nat.le_refl _) _
  have h1 := h.belowV hb1
  have hk1 : Blk (w.alloc (.cells #[.int .i64 0, .int .i64 0, .string ⟨#[]⟩] 40)) w.heap.size 40 #[.int .i64 0, .int .i64 0, .string ⟨#[]⟩] := Blk.new _ _ _
  have hs1 : (w.alloc (.cells #[.int .i64 0, .int .i64 0, .string ⟨#[]⟩] 40)).heap.size = w.heap.size + 1 := by simp
  have hg1 := grew_below R hb1
  have hE1 := hE.on (hb1.mono (by omega))
  generalize hw1 : w.alloc (.cells #[.int .i64 0, .int .i64 0, .string ⟨#[]⟩] 40) = w1 at h1 hk1 hs1 hg1 hE1
  have hc0 : w1.cell? ⟨R, 0, none⟩ = some (.string (bs t)) := Blk.cell h1 0
  obtain ⟨m, hm⟩ := hE1.max w1 (Below.refl _ _)
  have HC := Tryz.strings_Cut (bs t) ⟨#[44]⟩ m w1 (by rw [bs_size]; omega) hm
  rw [bs_data, show (⟨#[44]⟩ : ByteArray).data.toList = [44] from rfl] at HC
  rw [hc] at HC
  have hq : (Lib.itoa n).length ≤ t.length := by rw [ht, List.length_append]; omega
  have HC := Lib.hid HC
  have HA := Lib.hid fun W (k : Below B w1 W) => atoi_any ⟨(Lib.itoa n).toArray⟩ (by show (Lib.itoa n).toArray.size ≤ 1000000; rw [List.size_toArray]; omega) B W (hE1.on k)
  rw [show (⟨(Lib.itoa n).toArray⟩ : ByteArray).data.toList = Lib.itoa n from rfl] at HA
  unfold AtoiPost at HA
  rw [hn] at HA
  have hds : (⟨(Lib.itoa n).toArray⟩ : ByteArray).size = (Lib.itoa n).length := bs_size _
  have hts : (bs t).size = t.length := bs_size _
  have hdr : (bs t).extract (Lib.itoa n).length (bs t).size = bs r := by rw [bs_drop, ht, List.drop_left]
  have HK1 := Lib.hid (And.intro hk1 hg1)
  have HR1 := Lib.hid h1
  have hBw : B ≤ w1.heap.size := by omega
  clear h h1 hk1 hg1 hb1 hE hE1 hm hc
  have g1 : (0 : Int) ≤ ((⟨(Lib.itoa n).toArray⟩ : ByteArray).size : Int) := by omega
  have g2 : ((⟨(Lib.itoa n).toArray⟩ : ByteArray).size : Int) ≤ ((bs t).size : Int) := by omega
  have g3 : (⟨(Lib.itoa n).toArray⟩ : ByteArray).size ≤ (bs t).size := by omega
  rw [← hds] at hdr
  generalize (⟨(Lib.itoa n).toArray⟩ : ByteArray) = dg at HC HA hdr g1 g2 g3 hds
  clear hds hts hq ht hl hn
  generalize (⟨(Lib.cut t [44]).2.1.toArray⟩ : ByteArray) = ds at HC
  generalize (Lib.cut t [44]).2.2 = db at HC
  go_enter Tryz.func110, Tryz.ntmps110
  go_wp2_with fail
  refine HC.out.mono ?_
  rintro e w2 ⟨rfl, kk, hw2⟩
  have kb : Below w1.heap.size w1 w2 := by rw [hw2]; exact ⟨rfl, rfl, rfl, Nat.le_refl _, fun _ _ => rfl⟩
  have HK2 := Lib.hid (And.intro (HK1.out.1.belowV kb HK1.out.1.lt) (HK1.out.2.and (grew_below R kb)))
  have HR2 := Lib.hid (HR1.out.belowV kb)
  have HA2 := Lib.hid (HA.out w2 (kb.mono hBw))
  have hs2 : w1.heap.size ≤ w2.heap.size := kb.size
  clear hw2 kb HC HA HK1 HR1
  go_wp2_with fail
  refine HA2.out.mono ?_
  rintro e w3 ⟨v, rr, rfl, h3 | ⟨h3, _⟩, k3⟩
  rotate_left
  · cases h3
  obtain ⟨h3, rfl⟩ := h3
  obtain rfl := Option.some.inj h3
  have hk3 := HK2.out.1.belowV k3 HK2.out.1.lt
  have HG := Lib.hid (HK2.out.2.and (grew_below R k3))
  have HK := Lib.hid hk3
  have hr3 := HR2.out.belowV k3
  have HR := Lib.hid hr3
  have c0 := hk3.cell 0
  have c1 := hk3.cell 1
  have c2 := hk3.cell 2
  have f0 := hk3.froz 0
  have f1 := hk3.froz 1
  have f2 := hk3.froz 2
  simp only [List.getElem?_toArray, List.getElem?_cons_zero, List.getElem?_cons_succ] at c0 c1 c2
  have e0 : w3.cell? ⟨R, 0, none⟩ = some (.string (bs t)) := Blk.cell hr3 0
  have e1 := Blk.froz hr3 0
  clear hk3 hr3 k3 HA2 HK2 HR2 h3
  have HRS := Lib.hid (show Rdr (w3.setCell ⟨R, 0, none⟩ (.string (bs r))) R r ∧ Grew w R (w3.setCell ⟨R, 0, none⟩ (.string (bs r))) ∧ Blk (w3.setCell ⟨R, 0, none⟩ (.string (bs r))) w.heap.size 40 #[.int .i64 0, .int .i64 0, .string ⟨#[]⟩] from ⟨HR.out.set _, HG.out.and (grew_set _ _ _), HK.out.setOther (by omega) _⟩)
  have HF := Lib.hid (show Rdr ((((w3.setCell ⟨R, 0, none⟩ (.string (bs r))).setCell ⟨w.heap.size, 0, none⟩ (.int .i64 1)).setCell ⟨w.heap.size, 1, none⟩ (.int .i64 n)).setCell ⟨w.heap.size, 2, none⟩ (.string ⟨#[]⟩)) R r ∧ Grew w R ((((w3.setCell ⟨R, 0, none⟩ (.string (bs r))).setCell ⟨w.heap.size, 0, none⟩ (.int .i64 1)).setCell ⟨w.heap.size, 1, none⟩ (.int .i64 n)).setCell ⟨w.heap.size, 2, none⟩ (.string ⟨#[]⟩)) ∧ Blk ((((w3.setCell ⟨R, 0, none⟩ (.string (bs r))).setCell ⟨w.heap.size, 0, none⟩ (.int .i64 1)).setCell ⟨w.heap.size, 1, none⟩ (.int .i64 n)).setCell ⟨w.heap.size, 2, none⟩ (.string ⟨#[]⟩)) w.heap.size 40 #[.int .i64 1, .int .i64 n, .string ⟨#[]⟩] from
    ⟨Blk.setOther (Blk.setOther (Blk.setOther HRS.out.1 (by omega) _) (by omega) _) (by omega) _, grew_low HRS.out.2.1 (((Below.refl w.heap.size (w3.setCell ⟨R, 0, none⟩ (.string (bs r)))).setCell (p := ⟨w.heap.size, 0, none⟩) (Nat.le_refl _) _).setCell (p := ⟨w.heap.size, 1, none⟩) (Nat.le_refl _) _ |>.setCell (p := ⟨w.heap.size, 2, none⟩) (Nat.le_refl _) _) (Nat.le_refl _), ((HRS.out.2.2.setG 0 _).setG 1 _).setG 2 _⟩)
  go_wp2_with fail
  have r0 := HF.out.2.2.cell 0
  have r1 := HF.out.2.2.cell 1
  have r2 := HF.out.2.2.cell 2
  simp only [List.getElem?_toArray, List.getElem?_cons_zero, List.getElem?_cons_succ] at r0 r1 r2
  refine bodyPost_ret (v := .tuple #[.agg #[.int .i64 1, .int .i64 n, .string ⟨#[]⟩], .bool true]) (by simp [results, Tryz.f110, go_sem, r0, r1, r2]) rfl ?_
  exact ⟨rfl, HF.out.1, HF.out.2.1⟩
end Go.Proofs.YtledgnolmiecfaaGreatDoor

/-!
  The reader of package row: value.
-/
namespace Go.Proofs.YtledgnolmiecfaaGreatDoor
open Go.RowKit Go.Lib
set_option linter.unusedSimpArgs false
set_option linter.unusedVariables false

theorem run_store_funcR {P : Program} {w : World} {a : Addr} {m : Mode} (f : Fn) (l b : Array Value) : (store a (.func f l b) m).run P w = stored P w a (.func f l b) m := run_store P w a _ m rfl
attribute [local go_sem] run_store_funcR
theorem index_0 (W : World) : (Instr.index 150 (.agg #[.func (.func 109) #[] #[], .func (.func 110) #[] #[], .func (.func 111) #[] #[]]) (.int .i64 0)).run Tryz.prog W = .ok (.func (.func 109) #[] #[]) W := by first | kernel_rfl | rfl | (show _ = _; kernel_rfl)
theorem index_1 (W : World) : (Instr.index 150 (.agg #[.func (.func 109) #[] #[], .func (.func 110) #[] #[], .func (.func 111) #[] #[]]) (.int .i64 1)).run Tryz.prog W = .ok (.func (.func 110) #[] #[]) W := by first | kernel_rfl | rfl | (show _ = _; kernel_rfl)
theorem index_2 (W : World) : (Instr.index 150 (.agg #[.func (.func 109) #[] #[], .func (.func 110) #[] #[], .func (.func 111) #[] #[]]) (.int .i64 2)).run Tryz.prog W = .ok (.func (.func 111) #[] #[]) W := by first | kernel_rfl | rfl | (show _ = _; kernel_rfl)
def fnNil : Unit := ()
set_option maxRecDepth 100000 in
set_option maxHeartbeats 2000000 in
theorem value_0 (R B : Nat) (t r : List UInt8) (x0 x1 : Int) (x2 : ByteArray) (w : World) (h : Rdr w R t) (hB : B ≤ R) (h0 : ∀ W, Rdr W R t → Below B w W → Calls Tryz.prog 109 #[.pointer (some ⟨R, 0, none⟩)] W (RdPost W R (.tuple #[.agg #[.int .i64 x0, .int .i64 x1, .string x2], .bool true]) r)) :
    Calls Tryz.prog 82 #[.pointer (some ⟨R, 0, none⟩)] w (RdPost w R (.tuple #[.agg #[.int .i64 x0, .int .i64 x1, .string x2], .bool true]) r) := by
  have hRl : R < w.heap.size := Blk.lt h
  have H0 := Lib.hid h0
  have hb1 : Below w.heap.size w (w.alloc (.cells #[.int .i64 0, .int .i64 0, .string ⟨#[]⟩] 40)) := (Below.refl _ _).alloc (Nat.le_refl _) _
  have HR1 := Lib.hid (h.belowV hb1)
  have HK1 := Lib.hid (show Blk (w.alloc (.cells #[.int .i64 0, .int .i64 0, .string ⟨#[]⟩] 40)) w.heap.size 40 #[.int .i64 0, .int .i64 0, .string ⟨#[]⟩] from Blk.new _ _ _)
  have HG1 := Lib.hid (grew_below R hb1)
  have hs1 : (w.alloc (.cells #[.int .i64 0, .int .i64 0, .string ⟨#[]⟩] 40)).heap.size = w.heap.size + 1 := by simp
  have HN2 := Lib.hid (Blk.newAt (w.alloc (.cells #[.int .i64 0, .int .i64 0, .string ⟨#[]⟩] 40)) 150 #[.nilFunc, .nilFunc, .nilFunc] hs1)
  have n0 := HN2.out.cell 0
  have n1 := HN2.out.cell 1
  have n2 := HN2.out.cell 2
  have m0 := HN2.out.froz 0
  have m1 := HN2.out.froz 1
  have m2 := HN2.out.froz 2
  simp only [List.getElem?_toArray, List.getElem?_cons_zero, List.getElem?_cons_succ] at n0 n1 n2
  have HS := Lib.hid (show Rdr ((w.alloc (.cells #[.int .i64 0, .int .i64 0, .string ⟨#[]⟩] 40)).alloc (.cells #[.func (.func 109) #[] #[], .func (.func 110) #[] #[], .func (.func 111) #[] #[]] 150)) R t ∧ Grew w R ((w.alloc (.cells #[.int .i64 0, .int .i64 0, .string ⟨#[]⟩] 40)).alloc (.cells #[.func (.func 109) #[] #[], .func (.func 110) #[] #[], .func (.func 111) #[] #[]] 150)) ∧ Blk ((w.alloc (.cells #[.int .i64 0, .int .i64 0, .string ⟨#[]⟩] 40)).alloc (.cells #[.func (.func 109) #[] #[], .func (.func 110) #[] #[], .func (.func 111) #[] #[]] 150)) w.heap.size 40 #[.int .i64 0, .int .i64 0, .string ⟨#[]⟩] ∧ w.heap.size + 1 ≤ ((w.alloc (.cells #[.int .i64 0, .int .i64 0, .string ⟨#[]⟩] 40)).alloc (.cells #[.func (.func 109) #[] #[], .func (.func 110) #[] #[], .func (.func 111) #[] #[]] 150)).heap.size from
    ⟨Blk.allocG HR1.out _, HG1.out.and (grew_below R ((Below.refl _ _).alloc (Nat.le_refl _) _)), Blk.allocG HK1.out _, by simp⟩)
  clear h hb1 h0 hs1
  go_enter Tryz.func82, Tryz.ntmps82
  go_wp2_with fail
  go_loopw [11] (fun a wr => ∃ i : Nat, a = .int .i64 i ∧ i ≤ 0 ∧ Hid (Rdr wr R t) ∧ Hid (Grew w R wr) ∧ Hid (Blk wr w.heap.size 40 #[.int .i64 0, .int .i64 0, .string ⟨#[]⟩]) ∧ w.heap.size + 1 ≤ wr.heap.size) (fun a _ => 3 - (RowKit.intOf a).toNat)
  case atStart =>
    exact ⟨0, rfl, Nat.zero_le _, HS.out.1, HS.out.2.1, HS.out.2.2.1, HS.out.2.2.2⟩
  case round =>
    clear HR1 HK1 HG1 HS HN2 n0 n1 n2 m0 m1 m2
    obtain ⟨i, rfl, hi, HR, HG, HK, hsz⟩ := hrel
    have HBW := Lib.hid (HG.out.low hB (by omega))
    have hcase : i = 0 := by omega
    subst hcase
    have HC := Lib.hid (H0.out _ HR.out HBW.out)
    have hix := index_0
    clear HBW
    go_wp2_with fail
    refine HC.out.mono ?_
    rintro e w2 ⟨rfl, r2, k2⟩
    have HR2 := Lib.hid (Blk.allocG r2 (.cells #[.int .i64 x0, .int .i64 x1, .string x2] 40))
    have HG2 := Lib.hid ((HG.out.and k2).and (grew_below R ((Below.refl _ w2).alloc (Nat.le_refl _) (.cells #[.int .i64 x0, .int .i64 x1, .string x2] 40))))
    have HK2 := Lib.hid ((HK.out.keepG k2 (by simp only [ne_eq, Option.some.injEq]; omega)).allocG (.cells #[.int .i64 x0, .int .i64 x1, .string x2] 40))
    have HV2 := Lib.hid (show Blk (w2.alloc (.cells #[.int .i64 x0, .int .i64 x1, .string x2] 40)) w2.heap.size 40 #[.int .i64 x0, .int .i64 x1, .string x2] from Blk.new _ _ _)
    have hs2 : w.heap.size + 1 ≤ w2.heap.size := by have := k2.size; omega
    clear r2 k2 HC HR HG HK
    have hs3 : (w2.alloc (.cells #[.int .i64 x0, .int .i64 x1, .string x2] 40)).heap.size = w2.heap.size + 1 := by simp
    generalize hw3 : w2.alloc (.cells #[.int .i64 x0, .int .i64 x1, .string x2] 40) = w3 at HR2 HG2 HK2 HV2 hs3
    have c0 := HK2.out.cell 0
    have c1 := HK2.out.cell 1
    have c2 := HK2.out.cell 2
    have f0 := HK2.out.froz 0
    have f1 := HK2.out.froz 1
    have f2 := HK2.out.froz 2
    simp only [List.getElem?_toArray, List.getElem?_cons_zero, List.getElem?_cons_succ] at c0 c1 c2
    have d0 := HV2.out.cell 0
    have d1 := HV2.out.cell 1
    have d2 := HV2.out.cell 2
    simp only [List.getElem?_toArray, List.getElem?_cons_zero, List.getElem?_cons_succ] at d0 d1 d2
    have HF := Lib.hid (show Rdr (((w3.setCell ⟨w.heap.size, 0, none⟩ (.int .i64 x0)).setCell ⟨w.heap.size, 1, none⟩ (.int .i64 x1)).setCell ⟨w.heap.size, 2, none⟩ (.string x2)) R r ∧ Grew w R (((w3.setCell ⟨w.heap.size, 0, none⟩ (.int .i64 x0)).setCell ⟨w.heap.size, 1, none⟩ (.int .i64 x1)).setCell ⟨w.heap.size, 2, none⟩ (.string x2)) ∧ Blk (((w3.setCell ⟨w.heap.size, 0, none⟩ (.int .i64 x0)).setCell ⟨w.heap.size, 1, none⟩ (.int .i64 x1)).setCell ⟨w.heap.size, 2, none⟩ (.string x2)) w.heap.size 40 #[.int .i64 x0, .int .i64 x1, .string x2] from
      ⟨Blk.setOther (Blk.setOther (Blk.setOther HR2.out (by omega) _) (by omega) _) (by omega) _, grew_low HG2.out (((Below.refl w.heap.size w3).setCell (p := ⟨w.heap.size, 0, none⟩) (Nat.le_refl _) _).setCell (p := ⟨w.heap.size, 1, none⟩) (Nat.le_refl _) _ |>.setCell (p := ⟨w.heap.size, 2, none⟩) (Nat.le_refl _) _) (Nat.le_refl _), ((HK2.out.setG 0 _).setG 1 _).setG 2 _⟩)
    clear hs3
    go_wp2_with fail
    have r0 := HF.out.2.2.cell 0
    have r1 := HF.out.2.2.cell 1
    have r2 := HF.out.2.2.cell 2
    simp only [List.getElem?_toArray, List.getElem?_cons_zero, List.getElem?_cons_succ] at r0 r1 r2
    refine bodyPost_ret (v := .tuple #[.agg #[.int .i64 x0, .int .i64 x1, .string x2], .bool true]) (by simp [results, Tryz.f82, go_sem, r0, r1, r2]) rfl ?_
    exact ⟨rfl, HF.out.1, HF.out.2.1⟩

set_option maxRecDepth 100000 in
set_option maxHeartbeats 2000000 in
theorem value_1 (R B : Nat) (t r : List UInt8) (x0 x1 : Int) (x2 : ByteArray) (w : World) (h : Rdr w R t) (hB : B ≤ R) (h0 : ∀ W, Rdr W R t → Below B w W → Calls Tryz.prog 109 #[.pointer (some ⟨R, 0, none⟩)] W (RdPost W R (.tuple #[.agg #[.int .i64 0, .int .i64 0, .string ⟨#[]⟩], .bool false]) t)) (h1 : ∀ W, Rdr W R t → Below B w W → Calls Tryz.prog 110 #[.pointer (some ⟨R, 0, none⟩)] W (RdPost W R (.tuple #[.agg #[.int .i64 x0, .int .i64 x1, .string x2], .bool true]) r)) :
    Calls Tryz.prog 82 #[.pointer (some ⟨R, 0, none⟩)] w (RdPost w R (.tuple #[.agg #[.int .i64 x0, .int .i64 x1, .string x2], .bool true]) r) := by
  have hRl : R < w.heap.size := Blk.lt h
  have H0 := Lib.hid h0
  have H1 := Lib.hid h1
  have hb1 : Below w.heap.size w (w.alloc (.cells #[.int .i64 0, .int .i64 0, .string ⟨#[]⟩] 40)) := (Below.refl _ _).alloc (Nat.le_refl _) _
  have HR1 := Lib.hid (h.belowV hb1)
  have HK1 := Lib.hid (show Blk (w.alloc (.cells #[.int .i64 0, .int .i64 0, .string ⟨#[]⟩] 40)) w.heap.size 40 #[.int .i64 0, .int .i64 0, .string ⟨#[]⟩] from Blk.new _ _ _)
  have HG1 := Lib.hid (grew_below R hb1)
  have hs1 : (w.alloc (.cells #[.int .i64 0, .int .i64 0, .string ⟨#[]⟩] 40)).heap.size = w.heap.size + 1 := by simp
  have HN2 := Lib.hid (Blk.newAt (w.alloc (.cells #[.int .i64 0, .int .i64 0, .string ⟨#[]⟩] 40)) 150 #[.nilFunc, .nilFunc, .nilFunc] hs1)
  have n0 := HN2.out.cell 0
  have n1 := HN2.out.cell 1
  have n2 := HN2.out.cell 2
  have m0 := HN2.out.froz 0
  have m1 := HN2.out.froz 1
  have m2 := HN2.out.froz 2
  simp only [List.getElem?_toArray, List.getElem?_cons_zero, List.getElem?_cons_succ] at n0 n1 n2
  have HS := Lib.hid (show Rdr ((w.alloc (.cells #[.int .i64 0, .int .i64 0, .string ⟨#[]⟩] 40)).alloc (.cells #[.func (.func 109) #[] #[], .func (.func 110) #[] #[], .func (.func 111) #[] #[]] 150)) R t ∧ Grew w R ((w.alloc (.cells #[.int .i64 0, .int .i64 0, .string ⟨#[]⟩] 40)).alloc (.cells #[.func (.func 109) #[] #[], .func (.func 110) #[] #[], .func (.func 111) #[] #[]] 150)) ∧ Blk ((w.alloc (.cells #[.int .i64 0, .int .i64 0, .string ⟨#[]⟩] 40)).alloc (.cells #[.func (.func 109) #[] #[], .func (.func 110) #[] #[], .func (.func 111) #[] #[]] 150)) w.heap.size 40 #[.int .i64 0, .int .i64 0, .string ⟨#[]⟩] ∧ w.heap.size + 1 ≤ ((w.alloc (.cells #[.int .i64 0, .int .i64 0, .string ⟨#[]⟩] 40)).alloc (.cells #[.func (.func 109) #[] #[], .func (.func 110) #[] #[], .func (.func 111) #[] #[]] 150)).heap.size from
    ⟨Blk.allocG HR1.out _, HG1.out.and (grew_below R ((Below.refl _ _).alloc (Nat.le_refl _) _)), Blk.allocG HK1.out _, by simp⟩)
  clear h hb1 h0 h1 hs1
  go_enter Tryz.func82, Tryz.ntmps82
  go_wp2_with fail
  go_loopw [11] (fun a wr => ∃ i : Nat, a = .int .i64 i ∧ i ≤ 1 ∧ Hid (Rdr wr R t) ∧ Hid (Grew w R wr) ∧ Hid (Blk wr w.heap.size 40 #[.int .i64 0, .int .i64 0, .string ⟨#[]⟩]) ∧ w.heap.size + 1 ≤ wr.heap.size) (fun a _ => 3 - (RowKit.intOf a).toNat)
  case atStart =>
    exact ⟨0, rfl, Nat.zero_le _, HS.out.1, HS.out.2.1, HS.out.2.2.1, HS.out.2.2.2⟩
  case round =>
    clear HR1 HK1 HG1 HS HN2 n0 n1 n2 m0 m1 m2
    obtain ⟨i, rfl, hi, HR, HG, HK, hsz⟩ := hrel
    have HBW := Lib.hid (HG.out.low hB (by omega))
    have hcase : i = 0 ∨ i = 1 := by omega
    rcases hcase with rfl | rfl
    · have HC := Lib.hid (H0.out _ HR.out HBW.out)
      have hix := index_0
      clear HBW
      go_wp2_with fail
      refine HC.out.mono ?_
      rintro e w2 ⟨rfl, r2, k2⟩
      have HR2 := Lib.hid (Blk.allocG r2 (.cells #[.int .i64 0, .int .i64 0, .string ⟨#[]⟩] 40))
      have HG2 := Lib.hid ((HG.out.and k2).and (grew_below R ((Below.refl _ w2).alloc (Nat.le_refl _) (.cells #[.int .i64 0, .int .i64 0, .string ⟨#[]⟩] 40))))
      have HK2 := Lib.hid ((HK.out.keepG k2 (by simp only [ne_eq, Option.some.injEq]; omega)).allocG (.cells #[.int .i64 0, .int .i64 0, .string ⟨#[]⟩] 40))
      have HV2 := Lib.hid (show Blk (w2.alloc (.cells #[.int .i64 0, .int .i64 0, .string ⟨#[]⟩] 40)) w2.heap.size 40 #[.int .i64 0, .int .i64 0, .string ⟨#[]⟩] from Blk.new _ _ _)
      have hs2 : w.heap.size + 1 ≤ w2.heap.size := by have := k2.size; omega
      clear r2 k2 HC HR HG HK
      go_wp2_with fail
      go_roundw
      case rel => exact ⟨0 + 1, by go_num, by omega, HR2.out, HG2.out, HK2.out, by simp; omega⟩
      case measure => simp [RowKit.intOf]
    · have HC := Lib.hid (H1.out _ HR.out HBW.out)
      have hix := index_1
      clear HBW
      go_wp2_with fail
      refine HC.out.mono ?_
      rintro e w2 ⟨rfl, r2, k2⟩
      have HR2 := Lib.hid (Blk.allocG r2 (.cells #[.int .i64 x0, .int .i64 x1, .string x2] 40))
      have HG2 := Lib.hid ((HG.out.and k2).and (grew_below R ((Below.refl _ w2).alloc (Nat.le_refl _) (.cells #[.int .i64 x0, .int .i64 x1, .string x2] 40))))
      have HK2 := Lib.hid ((HK.out.keepG k2 (by simp only [ne_eq, Option.some.injEq]; omega)).allocG (.cells #[.int .i64 x0, .int .i64 x1, .string x2] 40))
      have HV2 := Lib.hid (show Blk (w2.alloc (.cells #[.int .i64 x0, .int .i64 x1, .string x2] 40)) w2.heap.size 40 #[.int .i64 x0, .int .i64 x1, .string x2] from Blk.new _ _ _)
      have hs2 : w.heap.size + 1 ≤ w2.heap.size := by have := k2.size; omega
      clear r2 k2 HC HR HG HK
      have hs3 : (w2.alloc (.cells #[.int .i64 x0, .int .i64 x1, .string x2] 40)).heap.size = w2.heap.size + 1 := by simp
      generalize hw3 : w2.alloc (.cells #[.int .i64 x0, .int .i64 x1, .string x2] 40) = w3 at HR2 HG2 HK2 HV2 hs3
      have c0 := HK2.out.cell 0
      have c1 := HK2.out.cell 1
      have c2 := HK2.out.cell 2
      have f0 := HK2.out.froz 0
      have f1 := HK2.out.froz 1
      have f2 := HK2.out.froz 2
      simp only [List.getElem?_toArray, List.getElem?_cons_zero, List.getElem?_cons_succ] at c0 c1 c2
      have d0 := HV2.out.cell 0
      have d1 := HV2.out.cell 1
      have d2 := HV2.out.cell 2
      simp only [List.getElem?_toArray, List.getElem?_cons_zero, List.getElem?_cons_succ] at d0 d1 d2
      have HF := Lib.hid (show Rdr (((w3.setCell ⟨w.heap.size, 0, none⟩ (.int .i64 x0)).setCell ⟨w.heap.size, 1, none⟩ (.int .i64 x1)).setCell ⟨w.heap.size, 2, none⟩ (.string x2)) R r ∧ Grew w R (((w3.setCell ⟨w.heap.size, 0, none⟩ (.int .i64 x0)).setCell ⟨w.heap.size, 1, none⟩ (.int .i64 x1)).setCell ⟨w.heap.size, 2, none⟩ (.string x2)) ∧ Blk (((w3.setCell ⟨w.heap.size, 0, none⟩ (.int .i64 x0)).setCell ⟨w.heap.size, 1, none⟩ (.int .i64 x1)).setCell ⟨w.heap.size, 2, none⟩ (.string x2)) w.heap.size 40 #[.int .i64 x0, .int .i64 x1, .string x2] from
        ⟨Blk.setOther (Blk.setOther (Blk.setOther HR2.out (by omega) _) (by omega) _) (by omega) _, grew_low HG2.out (((Below.refl w.heap.size w3).setCell (p := ⟨w.heap.size, 0, none⟩) (Nat.le_refl _) _).setCell (p := ⟨w.heap.size, 1, none⟩) (Nat.le_refl _) _ |>.setCell (p := ⟨w.heap.size, 2, none⟩) (Nat.le_refl _) _) (Nat.le_refl _), ((HK2.out.setG 0 _).setG 1 _).setG 2 _⟩)
      clear hs3
      go_wp2_with fail
      have r0 := HF.out.2.2.cell 0
      have r1 := HF.out.2.2.cell 1
      have r2 := HF.out.2.2.cell 2
      simp only [List.getElem?_toArray, List.getElem?_cons_zero, List.getElem?_cons_succ] at r0 r1 r2
      refine bodyPost_ret (v := .tuple #[.agg #[.int .i64 x0, .int .i64 x1, .string x2], .bool true]) (by simp [results, Tryz.f82, go_sem, r0, r1, r2]) rfl ?_
      exact ⟨rfl, HF.out.1, HF.out.2.1⟩

set_option maxRecDepth 100000 in
set_option maxHeartbeats 2000000 in
theorem value_2 (R B : Nat) (t r : List UInt8) (x0 x1 : Int) (x2 : ByteArray) (w : World) (h : Rdr w R t) (hB : B ≤ R) (h0 : ∀ W, Rdr W R t → Below B w W → Calls Tryz.prog 109 #[.pointer (some ⟨R, 0, none⟩)] W (RdPost W R (.tuple #[.agg #[.int .i64 0, .int .i64 0, .string ⟨#[]⟩], .bool false]) t)) (h1 : ∀ W, Rdr W R t → Below B w W → Calls Tryz.prog 110 #[.pointer (some ⟨R, 0, none⟩)] W (RdPost W R (.tuple #[.agg #[.int .i64 0, .int .i64 0, .string ⟨#[]⟩], .bool false]) t)) (h2 : ∀ W, Rdr W R t → Below B w W → Calls Tryz.prog 111 #[.pointer (some ⟨R, 0, none⟩)] W (RdPost W R (.tuple #[.agg #[.int .i64 x0, .int .i64 x1, .string x2], .bool true]) r)) :
    Calls Tryz.prog 82 #[.pointer (some ⟨R, 0, none⟩)] w (RdPost w R (.tuple #[.agg #[.int .i64 x0, .int .i64 x1, .string x2], .bool true]) r) := by
  have hRl : R < w.heap.size := Blk.lt h
  have H0 := Lib.hid h0
  have H1 := Lib.hid h1
  have H2 := Lib.hid h2
  have hb1 : Below w.heap.size w (w.alloc (.cells #[.int .i64 0, .int .i64 0, .string ⟨#[]⟩] 40)) := (Below.refl _ _).alloc (Nat.le_refl _) _
  have HR1 := Lib.hid (h.belowV hb1)
  have HK1 := Lib.hid (show Blk (w.alloc (.cells #[.int .i64 0, .int .i64 0, .string ⟨#[]⟩] 40)) w.heap.size 40 #[.int .i64 0, .int .i64 0, .string ⟨#[]⟩] from Blk.new _ _ _)
  have HG1 := Lib.hid (grew_below R hb1)
  have hs1 : (w.alloc (.cells #[.int .i64 0, .int .i64 0, .string ⟨#[]⟩] 40)).heap.size = w.heap.size + 1 := by simp
  have HN2 := Lib.hid (Blk.newAt (w.alloc (.cells #[.int .i64 0, .int .i64 0, .string ⟨#[]⟩] 40)) 150 #[.nilFunc, .nilFunc, .nilFunc] hs1)
  have n0 := HN2.out.cell 0
  have n1 := HN2.out.cell 1
  have n2 := HN2.out.cell 2
  have m0 := HN2.out.froz 0
  have m1 := HN2.out.froz 1
  have m2 := HN2.out.froz 2
  simp only [List.getElem?_toArray, List.getElem?_cons_zero, List.getElem?_cons_succ] at n0 n1 n2
  have HS := Lib.hid (show Rdr ((w.alloc (.cells #[.int .i64 0, .int .i64 0, .string ⟨#[]⟩] 40)).alloc (.cells #[.func (.func 109) #[] #[], .func (.func 110) #[] #[], .func (.func 111) #[] #[]] 150)) R t ∧ Grew w R ((w.alloc (.cells #[.int .i64 0, .int .i64 0, .string ⟨#[]⟩] 40)).alloc (.cells #[.func (.func 109) #[] #[], .func (.func 110) #[] #[], .func (.func 111) #[] #[]] 150)) ∧ Blk ((w.alloc (.cells #[.int .i64 0, .int .i64 0, .string ⟨#[]⟩] 40)).alloc (.cells #[.func (.func 109) #[] #[], .func (.func 110) #[] #[], .func (.func 111) #[] #[]] 150)) w.heap.size 40 #[.int .i64 0, .int .i64 0, .string ⟨#[]⟩] ∧ w.heap.size + 1 ≤ ((w.alloc (.cells #[.int .i64 0, .int .i64 0, .string ⟨#[]⟩] 40)).alloc (.cells #[.func (.func 109) #[] #[], .func (.func 110) #[] #[], .func (.func 111) #[] #[]] 150)).heap.size from
    ⟨Blk.allocG HR1.out _, HG1.out.and (grew_below R ((Below.refl _ _).alloc (Nat.le_refl _) _)), Blk.allocG HK1.out _, by simp⟩)
  clear h hb1 h0 h1 h2 hs1
  go_enter Tryz.func82, Tryz.ntmps82
  go_wp2_with fail
  go_loopw [11] (fun a wr => ∃ i : Nat, a = .int .i64 i ∧ i ≤ 2 ∧ Hid (Rdr wr R t) ∧ Hid (Grew w R wr) ∧ Hid (Blk wr w.heap.size 40 #[.int .i64 0, .int .i64 0, .string ⟨#[]⟩]) ∧ w.heap.size + 1 ≤ wr.heap.size) (fun a _ => 3 - (RowKit.intOf a).toNat)
  case atStart =>
    exact ⟨0, rfl, Nat.zero_le _, HS.out.1, HS.out.2.1, HS.out.2.2.1, HS.out.2.2.2⟩
  case round =>
    clear HR1 HK1 HG1 HS HN2 n0 n1 n2 m0 m1 m2
    obtain ⟨i, rfl, hi, HR, HG, HK, hsz⟩ := hrel
    have HBW := Lib.hid (HG.out.low hB (by omega))
    have hcase : i = 0 ∨ i = 1 ∨ i = 2 := by omega
    rcases hcase with rfl | rfl | rfl
    · have HC := Lib.hid (H0.out _ HR.out HBW.out)
      have hix := index_0
      clear HBW
      go_wp2_with fail
      refine HC.out.mono ?_
      rintro e w2 ⟨rfl, r2, k2⟩
      have HR2 := Lib.hid (Blk.allocG r2 (.cells #[.int .i64 0, .int .i64 0, .string ⟨#[]⟩] 40))
      have HG2 := Lib.hid ((HG.out.and k2).and (grew_below R ((Below.refl _ w2).alloc (Nat.le_refl _) (.cells #[.int .i64 0, .int .i64 0, .string ⟨#[]⟩] 40))))
      have HK2 := Lib.hid ((HK.out.keepG k2 (by simp only [ne_eq, Option.some.injEq]; omega)).allocG (.cells #[.int .i64 0, .int .i64 0, .string ⟨#[]⟩] 40))
      have HV2 := Lib.hid (show Blk (w2.alloc (.cells #[.int .i64 0, .int .i64 0, .string ⟨#[]⟩] 40)) w2.heap.size 40 #[.int .i64 0, .int .i64 0, .string ⟨#[]⟩] from Blk.new _ _ _)
      have hs2 : w.heap.size + 1 ≤ w2.heap.size := by have := k2.size; omega
      clear r2 k2 HC HR HG HK
      go_wp2_with fail
      go_roundw
      case rel => exact ⟨0 + 1, by go_num, by omega, HR2.out, HG2.out, HK2.out, by simp; omega⟩
      case measure => simp [RowKit.intOf]
    · have HC := Lib.hid (H1.out _ HR.out HBW.out)
      have hix := index_1
      clear HBW
      go_wp2_with fail
      refine HC.out.mono ?_
      rintro e w2 ⟨rfl, r2, k2⟩
      have HR2 := Lib.hid (Blk.allocG r2 (.cells #[.int .i64 0, .int .i64 0, .string ⟨#[]⟩] 40))
      have HG2 := Lib.hid ((HG.out.and k2).and (grew_below R ((Below.refl _ w2).alloc (Nat.le_refl _) (.cells #[.int .i64 0, .int .i64 0, .string ⟨#[]⟩] 40))))
      have HK2 := Lib.hid ((HK.out.keepG k2 (by simp only [ne_eq, Option.some.injEq]; omega)).allocG (.cells #[.int .i64 0, .int .i64 0, .string ⟨#[]⟩] 40))
      have HV2 := Lib.hid (show Blk (w2.alloc (.cells #[.int .i64 0, .int .i64 0, .string ⟨#[]⟩] 40)) w2.heap.size 40 #[.int .i64 0, .int .i64 0, .string ⟨#[]⟩] from Blk.new _ _ _)
      have hs2 : w.heap.size + 1 ≤ w2.heap.size := by have := k2.size; omega
      clear r2 k2 HC HR HG HK
      go_wp2_with fail
      go_roundw
      case rel => exact ⟨1 + 1, by go_num, by omega, HR2.out, HG2.out, HK2.out, by simp; omega⟩
      case measure => simp [RowKit.intOf]
    · have HC := Lib.hid (H2.out _ HR.out HBW.out)
      have hix := index_2
      clear HBW
      go_wp2_with fail
      refine HC.out.mono ?_
      rintro e w2 ⟨rfl, r2, k2⟩
      have HR2 := Lib.hid (Blk.allocG r2 (.cells #[.int .i64 x0, .int .i64 x1, .string x2] 40))
      have HG2 := Lib.hid ((HG.out.and k2).and (grew_below R ((Below.refl _ w2).alloc (Nat.le_refl _) (.cells #[.int .i64 x0, .int .i64 x1, .string x2] 40))))
      have HK2 := Lib.hid ((HK.out.keepG k2 (by simp only [ne_eq, Option.some.injEq]; omega)).allocG (.cells #[.int .i64 x0, .int .i64 x1, .string x2] 40))
      have HV2 := Lib.hid (show Blk (w2.alloc (.cells #[.int .i64 x0, .int .i64 x1, .string x2] 40)) w2.heap.size 40 #[.int .i64 x0, .int .i64 x1, .string x2] from Blk.new _ _ _)
      have hs2 : w.heap.size + 1 ≤ w2.heap.size := by have := k2.size; omega
      clear r2 k2 HC HR HG HK
      have hs3 : (w2.alloc (.cells #[.int .i64 x0, .int .i64 x1, .string x2] 40)).heap.size = w2.heap.size + 1 := by simp
      generalize hw3 : w2.alloc (.cells #[.int .i64 x0, .int .i64 x1, .string x2] 40) = w3 at HR2 HG2 HK2 HV2 hs3
      have c0 := HK2.out.cell 0
      have c1 := HK2.out.cell 1
      have c2 := HK2.out.cell 2
      have f0 := HK2.out.froz 0
      have f1 := HK2.out.froz 1
      have f2 := HK2.out.froz 2
      simp only [List.getElem?_toArray, List.getElem?_cons_zero, List.getElem?_cons_succ] at c0 c1 c2
      have d0 := HV2.out.cell 0
      have d1 := HV2.out.cell 1
      have d2 := HV2.out.cell 2
      simp only [List.getElem?_toArray, List.getElem?_cons_zero, List.getElem?_cons_succ] at d0 d1 d2
      have HF := Lib.hid (show Rdr (((w3.setCell ⟨w.heap.size, 0, none⟩ (.int .i64 x0)).setCell ⟨w.heap.size, 1, none⟩ (.int .i64 x1)).setCell ⟨w.heap.size, 2, none⟩ (.string x2)) R r ∧ Grew w R (((w3.setCell ⟨w.heap.size, 0, none⟩ (.int .i64 x0)).setCell ⟨w.heap.size, 1, none⟩ (.int .i64 x1)).setCell ⟨w.heap.size, 2, none⟩ (.string x2)) ∧ Blk (((w3.setCell ⟨w.heap.size, 0, none⟩ (.int .i64 x0)).setCell ⟨w.heap.size, 1, none⟩ (.int .i64 x1)).setCell ⟨w.heap.size, 2, none⟩ (.string x2)) w.heap.size 40 #[.int .i64 x0, .int .i64 x1, .string x2] from
        ⟨Blk.setOther (Blk.setOther (Blk.setOther HR2.out (by omega) _) (by omega) _) (by omega) _, grew_low HG2.out (((Below.refl w.heap.size w3).setCell (p := ⟨w.heap.size, 0, none⟩) (Nat.le_refl _) _).setCell (p := ⟨w.heap.size, 1, none⟩) (Nat.le_refl _) _ |>.setCell (p := ⟨w.heap.size, 2, none⟩) (Nat.le_refl _) _) (Nat.le_refl _), ((HK2.out.setG 0 _).setG 1 _).setG 2 _⟩)
      clear hs3
      go_wp2_with fail
      have r0 := HF.out.2.2.cell 0
      have r1 := HF.out.2.2.cell 1
      have r2 := HF.out.2.2.cell 2
      simp only [List.getElem?_toArray, List.getElem?_cons_zero, List.getElem?_cons_succ] at r0 r1 r2
      refine bodyPost_ret (v := .tuple #[.agg #[.int .i64 x0, .int .i64 x1, .string x2], .bool true]) (by simp [results, Tryz.f82, go_sem, r0, r1, r2]) rfl ?_
      exact ⟨rfl, HF.out.1, HF.out.2.1⟩

end Go.Proofs.YtledgnolmiecfaaGreatDoor

