/-
  The reader of package row: take, next, hex, char.
-/
import Derived.Test.YtmjobnakaamlpaaDoorPu
namespace Go.Proofs.YtmjobnakaamlpaaDoor
open Go.RowKit
set_option linter.unusedSimpArgs false
set_option linter.unusedVariables false

theorem Blk.keepG {W W' : World} {row : Option Nat} {B : Nat} {t : TypeId} {cs : Array Value} (h : Blk W B t cs) (hg : W.grownBy W' row) (hne : some B ≠ row) : Blk W' B t cs := (hg.block B h.lt hne).trans h
theorem Blk.froz {V : World} {B : Nat} {t : TypeId} {cs : Array Value} (h : Blk V B t cs) (j : Nat) : V.frozen? ⟨B, j, none⟩ = false := by simp [World.frozen?, show V.heap[B]? = _ from h]
theorem Blk.setG {V : World} {B : Nat} {t : TypeId} {cs : Array Value} (h : Blk V B t cs) (j : Nat) (u : Value) : Blk (V.setCell ⟨B, j, none⟩ u) B t (cs.setIfInBounds j u) := by
  have hb : V.heap[B]? = some (.cells cs t (0, 0)) := h
  unfold Blk World.setCell
  simp [Array.getElem?_modify, hb]
theorem Blk.allocG {V : World} {B : Nat} {t : TypeId} {cs : Array Value} (h : Blk V B t cs) (o : Obj) : Blk (V.alloc o) B t cs := h.keepG (World.grownBy_alloc V o none) (by simp)
theorem Blk.newAt (W : World) (t : TypeId) (cs : Array Value) {g : Nat} (hg : W.heap.size = g) : Blk (W.alloc (.cells cs t)) g t cs := hg ▸ Blk.new W t cs
theorem Blk.drewG {V : World} {B : Nat} {t : TypeId} {cs : Array Value} (h : Blk V B t cs) : Blk V.drew B t cs := h
theorem Blk.setOther {V : World} {B C j : Nat} {t : TypeId} {cs : Array Value} (h : Blk V B t cs) (hne : B ≠ C) (u : Value) : Blk (V.setCell ⟨C, j, none⟩ u) B t cs := by
  have := Below.heap_setCell V ⟨C, j, none⟩ u B hne
  exact this.trans h
/-- The reader, with what is still to be read. -/
def Rdr (W : World) (R : Nat) (t : List UInt8) : Prop := Blk W R 43 #[.string (bs t)]
abbrev Grew (w : World) (R : Nat) (w' : World) : Prop := w.grownBy w' (some R)
theorem grew_refl (w : World) (R : Nat) : Grew w R w := ⟨rfl, rfl, rfl, Nat.le_refl _, fun _ _ _ => rfl⟩
theorem grew_set (W : World) (R : Nat) (v : Value) : Grew W R (W.setCell ⟨R, 0, none⟩ v) :=
  ⟨rfl, rfl, rfl, by simp [World.setCell], fun k hk hne => Below.heap_setCell W ⟨R, 0, none⟩ v k (by rintro rfl; exact hne rfl)⟩
theorem grew_below {W W' : World} (R : Nat) (h : Below W.heap.size W W') : Grew W R W' := ⟨h.os, h.tape, h.output, h.size, fun i hi _ => h.block i hi⟩
theorem Grew.and {a b c : World} {R : Nat} (h : Grew a R b) (k : Grew b R c) : Grew a R c := World.grownBy.trans h k
theorem Rdr.set {W : World} {R : Nat} {t : List UInt8} (h : Rdr W R t) (t' : List UInt8) : Rdr (W.setCell ⟨R, 0, none⟩ (.string (bs t'))) R t' := Blk.setG h 0 _
theorem Rdr.belowV {W W' : World} {R : Nat} {t : List UInt8} (h : Rdr W R t) (k : Below W.heap.size W W') : Rdr W' R t := Blk.belowV h k (Blk.lt h)
theorem bs_data (l : List UInt8) : (bs l).data.toList = l := rfl
theorem bs_take (l : List UInt8) (n : Nat) : (bs l).extract 0 n = bs (l.take n) := by
  apply ByteArray.ext
  apply Array.toList_inj.1
  rw [ByteArray.data_extract, Array.toList_extract, List.extract_eq_take_drop]
  simp [bs]
theorem bs_drop (l : List UInt8) (n : Nat) : (bs l).extract n (bs l).size = bs (l.drop n) := by
  apply ByteArray.ext
  apply Array.toList_inj.1
  rw [ByteArray.data_extract, Array.toList_extract, List.extract_eq_take_drop, bs_size]
  simp [bs]
  apply List.take_of_length_le
  simp
def RdPost (w : World) (R : Nat) (v : Value) (t : List UInt8) (e : Ending) (w' : World) : Prop := e = .returned v ∧ Rdr w' R t ∧ Grew w R w'

set_option maxRecDepth 100000 in
theorem take_any (R : Nat) (t p : List UInt8) (w : World) (h : Rdr w R t) :
    Calls Tryd.prog 28 #[.pointer (some ⟨R, 0, none⟩), .string (bs p)] w (RdPost w R (.bool (Lib.hasPrefix t p)) (Lib.trimPrefix t p)) := by
  have c0 : w.cell? ⟨R, 0, none⟩ = some (.string (bs t)) := Blk.cell h 0
  have f0 := Blk.froz h 0
  have HC := Lib.hid (Tryd.strings_CutPrefix (bs t) (bs p) w)
  rw [bs_data, bs_data] at HC
  have HF := Lib.hid (show Rdr (w.setCell ⟨R, 0, none⟩ (.string (bs (Lib.trimPrefix t p)))) R (Lib.trimPrefix t p) ∧ Grew w R (w.setCell ⟨R, 0, none⟩ (.string (bs (Lib.trimPrefix t p)))) from ⟨h.set _, grew_set _ _ _⟩)
  rw [show (⟨(Lib.trimPrefix t p).toArray⟩ : ByteArray) = bs (Lib.trimPrefix t p) from rfl] at HC
  generalize bs (Lib.trimPrefix t p) = x at HC HF
  generalize bs t = y at c0 HC
  generalize bs p = z at HC
  go_enter Tryd.func28, Tryd.ntmps28
  go_wp2_with fail
  refine HC.out.mono ?_
  rintro e w1 ⟨rfl, hw1⟩
  rw [hw1]
  go_wp2_with fail
  go_ret
  exact ⟨rfl, HF.out.1, HF.out.2⟩

set_option maxRecDepth 100000 in
theorem next_any (R : Nat) (t : List UInt8) (n : Nat) (hn : n ≤ t.length) (ht : t.length ≤ 100000) (w : World) (h : Rdr w R t) :
    Calls Tryd.prog 52 #[.pointer (some ⟨R, 0, none⟩), .int .i64 (n : Int)] w (RdPost w R (.tuple #[.string (bs (t.take n)), .bool true]) (t.drop n)) := by
  have c0 : w.cell? ⟨R, 0, none⟩ = some (.string (bs t)) := Blk.cell h 0
  have f0 := Blk.froz h 0
  have hsz : (bs t).size = t.length := bs_size t
  have HF := Lib.hid (show Rdr (w.setCell ⟨R, 0, none⟩ (.string (bs (t.drop n)))) R (t.drop n) ∧ Grew w R (w.setCell ⟨R, 0, none⟩ (.string (bs (t.drop n)))) from ⟨h.set _, grew_set _ _ _⟩)
  rw [← bs_drop] at HF
  rw [← bs_take]
  generalize bs t = y at c0 HF hsz ⊢
  have g1 : ¬ ((y.size : Int) < (n : Int)) := by omega
  have g2 : (0 : Int) ≤ (n : Int) := by omega
  have g3 : (n : Int) ≤ (y.size : Int) := by omega
  have g4 : n ≤ y.size := by omega
  clear hsz hn
  go_enter Tryd.func52, Tryd.ntmps52
  go_wp2_with fail
  go_ret2
  exact ⟨rfl, HF.out.1, HF.out.2⟩

set_option maxRecDepth 100000 in
theorem hex_good (R : Nat) (u v : Nat) (hu : u < 16) (hv : v < 16) (r : List UInt8) (hr : r.length ≤ 90000) (w : World) (h : Rdr w R (UInt8.ofNat (hexd u) :: UInt8.ofNat (hexd v) :: r)) :
    Calls Tryd.prog 51 #[.pointer (some ⟨R, 0, none⟩)] w (RdPost w R (.tuple #[.int .u8 ((16 * u + v : Nat) : Int), .bool true]) r) := by
  have HN := Lib.hid (next_any R _ 2 (by simp) (by simp only [List.length_cons]; omega) w h)
  rw [show (UInt8.ofNat (hexd u) :: UInt8.ofNat (hexd v) :: r).take 2 = [UInt8.ofNat (hexd u), UInt8.ofNat (hexd v)] from rfl, show (UInt8.ofNat (hexd u) :: UInt8.ofNat (hexd v) :: r).drop 2 = r from rfl] at HN
  have HP := Lib.hid fun W => parseUint_hex u v hu hv W
  have hb : 16 * u + v < 256 := by omega
  generalize 16 * u + v = n at HP hb ⊢
  generalize bs [UInt8.ofNat (hexd u), UInt8.ofNat (hexd v)] = t at HN HP
  clear h hu hv
  have g1 : (0 : Int) ≤ (n : Int) := by omega
  have g2 : (n : Int) < 256 := by omega
  go_enter Tryd.func51, Tryd.ntmps51
  go_wp2_with fail
  refine HN.out.mono ?_
  rintro e w1 ⟨rfl, h1, k1⟩
  have H1 := Lib.hid (And.intro h1 k1)
  clear h1 k1 HN
  go_wp2_with fail
  refine (HP.out _).mono ?_
  rintro e w2 ⟨rfl, k2⟩
  have HF := Lib.hid (show Rdr w2 R r ∧ Grew w R w2 from ⟨H1.out.1.belowV k2, H1.out.2.and (grew_below R k2)⟩)
  clear k2
  have hw : IntKind.u8.wrap (n : Int) = (n : Int) := by rw [IntKind.wrap_u8]; omega
  go_wp2_with fail
  go_ret2
  exact ⟨rfl, HF.out.1, HF.out.2⟩
end Go.Proofs.YtmjobnakaamlpaaDoor
