/-
  Accumulators: a list of one's own copied, new, made, of one list, what they tell; package fold.
-/
import Derived.Test.YtfoknllnknjccaaGreatAgL
import Derived.Test.YtfoknllnknjccaaGreatTold
import Derived.Test.YtfoknllnknjccaaGreatSums
import Derived.Test.YtfoknllnknjccaaGreatWhole
import Derived.Test.YtfoknllnknjccaaGreatSameB
import Derived.WalkSpells
namespace Go.Proofs.YtfoknllnknjccaaGreat
open Go.RowKit

def cellsG (a : Ag) : List Value := [.int .i64 a.1, .int .i64 a.2]
def flatG (gs : List Ag) : List Value := gs.flatMap cellsG
theorem flatG_len (gs : List Ag) : (flatG gs).length = gs.length * 2 := by
  induction gs with
  | nil => rfl
  | cons x xs ih => simp only [flatG, List.flatMap_cons, List.length_append, cellsG, List.length_cons, List.length_nil] at ih ⊢; omega
theorem flatG_get (gs : List Ag) : ∀ i, i < gs.length → (flatG gs)[i * 2]? = some (.int .i64 (gs[i]?.getD ag0).1) ∧ (flatG gs)[i * 2 + 1]? = some (.int .i64 (gs[i]?.getD ag0).2) := by
  induction gs with
  | nil => intro i h; simp at h
  | cons x xs ih =>
    intro i h
    cases i with
    | zero => simp [flatG, cellsG]
    | succ i =>
      have := ih i (by simpa using h)
      rw [show (i + 1) * 2 = i * 2 + 2 by omega]
      simpa [flatG, cellsG] using this
theorem infoG : (Tryz.prog.info? 59).map (fun i => (i.zero, i.size, i.bytes)) = some (some (.agg #[.int .i64 0, .int .i64 0]), 2, 16) := by kernel_rfl
theorem aggsIn_of_owns {W : World} {base c : Nat} {p : Option Addr} {gs : List Ag} (h : W.ownsRow base 59 2 (.slice p gs.length c) gs.length (flatG gs)) : AggsIn W p gs := fun hp => by
  have hh := h
  rcases h.2 with ⟨h0, hn⟩ | ⟨g, cap, cur, he, _, hg, _⟩
  · omega
  · simp only [Value.slice.injEq, true_and] at he
    obtain ⟨rfl, rfl⟩ := he
    refine ⟨g, 0, rfl, (Array.getElem?_eq_some_iff.1 hg).1, fun i hi => ?_⟩
    obtain ⟨g0, g1⟩ := flatG_get gs i hi
    simp only [Nat.zero_add]
    exact ⟨(hh.cellAt (i * 2) (by rw [show gs.length * 2 = gs.length * 2 from rfl]; omega)).trans g0, (hh.cellAt (i * 2 + 1) (by omega)).trans g1⟩

/-- A list copied: it reads as it did, in new memory. -/
def CopyG (w : World) (gs : List Ag) (e : Ending) (w' : World) : Prop := ∃ p c, e = .returned (.slice p gs.length c) ∧ AggsIn w' p gs ∧ Below w.heap.size w w'
set_option maxRecDepth 100000 in
theorem cloneG_any (p : Option Addr) (gs : List Ag) (cap : Nat) (hm : gs.length ≤ 1000) (hp : 0 < gs.length) (w : World) (hX : AggsIn w p gs) :
    Calls Tryz.prog 29 #[.slice p gs.length cap] w (CopyG w gs) := by
  obtain ⟨b, off, rfl, hbl, hra⟩ := hX hp
  have q22 : ∀ (w : World) (a : Option Addr) (n c : Nat), (binOp .eql 22 (.slice a n c) (.slice none 0 0)).run Tryz.prog w = .ok (.bool a.isNone) w := fun w a n c => Lib.run_eql_slice_nil w _ _ a n c 0 0 Tryz.underlying22
  obtain ⟨i0, hi, hz0, hz1, hz2⟩ := info_parts infoG
  have hbA : Below w.heap.size w (w.alloc (.cells #[] 59)) := (Below.refl _ _).alloc (Nat.le_refl _) _
  have hown : (w.alloc (.cells #[] 59)).ownsRow w.heap.size 59 2 (.slice (some ⟨w.heap.size, 0, none⟩) 0 0) 0 [] := World.ownsRow_made w #[] 0 (Nat.le_refl _) (Nat.zero_le _) rfl
  have HOW := Lib.hid hown
  have hcell : ∀ (j : Nat) (u : Value), (flatG gs)[j]? = some u → (w.alloc (.cells #[] 59)).cell? ((⟨b, off, none⟩ : Addr).add j) = some u := by
    intro j u hu
    have hj : j < gs.length * 2 := by rw [← flatG_len]; exact (List.getElem?_eq_some_iff.1 hu).1
    rw [Go.WideShapes.add_plain]
    obtain ⟨g0, g1⟩ := flatG_get gs (j / 2) (by omega)
    obtain ⟨c0, c1⟩ := (hra.belowV hbA hbl) (j / 2) (by omega)
    have h3 : j % 2 = 0 ∨ j % 2 = 1 := by omega
    rcases h3 with h3 | h3
    · have e : j / 2 * 2 = j := by omega
      rw [e] at g0 c0
      rw [c0, ← hu, g0]
    · have e : j / 2 * 2 + 1 = j := by omega
      rw [Nat.add_assoc, e] at c1
      rw [e] at g1
      rw [c1, ← hu, g1]
  have hone : ∀ u ∈ flatG gs, u.oneCell' = true := by
    intro u hu
    simp only [flatG, List.mem_flatMap, cellsG, List.mem_cons, List.not_mem_nil, or_false] at hu
    obtain ⟨y, _, rfl | rfl⟩ := hu <;> rfl
  have HCELL := Lib.hid hcell
  have HONE := Lib.hid hone
  clear hX hra hown hcell hone
  go_enter Tryz.func29, Tryz.ntmps29
  go_wp2_with (at_builtin; refine wpList_append_own _ rfl _ _ 22 rfl w.heap.size 59 i0 (.agg #[.int .i64 0, .int .i64 0]) 2 16 Tryz.underlying22 hi hz0 hz1 hz2 rfl (by decide) _ 0 [] rfl HOW.out ⟨b, off, none⟩ gs.length cap (flatG gs) rfl (flatG_len gs) HCELL.out HONE.out (by unfold maxLen; omega) (by omega) (by simp) ?_; intro v' w5 hown' hb5 _)
  go_ret
  obtain ⟨p2, c2, rfl⟩ := slice_of_owns hown'
  have hown2 : w5.ownsRow w.heap.size 59 2 (.slice p2 gs.length c2) gs.length (flatG gs) := by simpa using hown'
  refine ⟨p2, c2, by simp, aggsIn_of_owns hown2, ?_⟩
  exact hbA.grown hb5 (by simp) (fun k e => (HOW.out.lt k e).1)

/-- An accumulator: its list, how many columns, its rows. -/
def AccAt (W : World) (B : Nat) (gs : List Ag) (n : Int) (b : BagV) : Prop := ∃ p c, Blk W B 66 #[.slice p gs.length c, .int .i64 n, bagv b] ∧ AggsIn W p gs ∧ BagOK W b
theorem AccAt.lt {W : World} {B : Nat} {gs : List Ag} {n : Int} {b : BagV} (h : AccAt W B gs n b) : B < W.heap.size := by
  obtain ⟨p, c, h, _⟩ := h
  exact h.lt
theorem AccAt.belowV {W W' : World} {B : Nat} {gs : List Ag} {n : Int} {b : BagV} (h : AccAt W B gs n b) (hb : Below W.heap.size W W') : AccAt W' B gs n b := by
  obtain ⟨p, c, h1, h2, h3⟩ := h
  exact ⟨p, c, h1.belowV hb h1.lt, h2.belowV hb, h3.belowV hb⟩

set_option maxRecDepth 100000 in
theorem made_any (B : Nat) (gs : List Ag) (n : Int) (b : BagV) (hg : 0 < gs.length) (w : World) (hA : AccAt w B gs n b) :
    Calls Tryz.prog 32 #[.pointer (some ⟨B, 0, none⟩)] w fun e w' => e = .returned (.bool true) ∧ w = w' := by
  obtain ⟨p, c, hK, _, _⟩ := hA
  have c0 := hK.cell 0
  simp only [List.getElem?_toArray, List.getElem?_cons_zero] at c0
  have hg' : (0 : Int) < (gs.length : Int) := by omega
  clear hK
  go_enter Tryz.func32, Tryz.ntmps32
  go_wp2_with fail
  go_ret
  exact ⟨rfl, rfl⟩
theorem made_nil (w : World) : Calls Tryz.prog 32 #[.pointer none] w fun e w' => e = .returned (.bool false) ∧ w = w' := by
  go_enter Tryz.func32, Tryz.ntmps32
  go_wp2_with fail
  go_ret
  exact ⟨rfl, rfl⟩

theorem neqG (a0 a1 : Int) (w : World) : (binOp .neq 59 (.agg #[.int .i64 a0, .int .i64 a1]) (.agg #[.int .i64 a0, .int .i64 a1])).run Tryz.prog w = .ok (.bool false) w := by
  have uI := Tryz.underlying3
  have gI := Tryz.isAgg3
  have zI := Tryz.sizeOf3
  have hS : Tryz.prog.underlying 59 = some (.struct (Tryz.prog.fieldsOf 59)) := by kernel_rfl
  have hp : Tryz.prog.stoodInHeld 59 = false := by kernel_rfl
  rw [run_neq_struct, show (10000 : Nat) = 9999 + 1 from rfl, run_equalIn_agg w 9999 59 _ _ hS hp]
  simp only [Program.fieldsOf, Tryz.underlying59]
  go_simp
  try simp
theorem guardG : Tryz.prog.eqGuardType Tryz.prog.depth 59 = false := by kernel_rfl

set_option maxRecDepth 100000 in
set_option maxHeartbeats 1000000 in
theorem equalG_any (p q : Option Addr) (gs : List Ag) (c d m : Nat) (hm : m = gs.length) (hl : gs.length ≤ 9223372036854775807) (w : World) (hX : AggsIn w p gs) (hY : AggsIn w q gs) :
    Calls Tryz.prog 77 #[.slice p gs.length c, .slice q m d] w (AgPost w true) := by
  subst hm
  have HX := Lib.hid hX
  have HY := Lib.hid hY
  clear hX hY
  go_enter Tryz.func77, Tryz.ntmps77
  have hm0 := guardG
  go_wp2_with fail
  go_loopw [13] (fun s wr => ∃ i : Nat, i ≤ gs.length ∧ s = .int .i64 i ∧ Below w.heap.size w wr) (fun s _ => gs.length - (intOf s).toNat)
  case atStart => exact ⟨0, Nat.zero_le _, rfl, Below.refl _ _⟩
  case round =>
    obtain ⟨i, hi, rfl, hB⟩ := hrel
    by_cases hlt : i < gs.length
    · obtain ⟨b, off, rfl, hbl, hra⟩ := HX.out (by omega)
      obtain ⟨b2, off2, rfl, hbl2, hra2⟩ := HY.out (by omega)
      obtain ⟨c0, c1⟩ := (hra.belowV hB hbl) i hlt
      obtain ⟨d0, d1⟩ := (hra2.belowV hB hbl2) i hlt
      have hi0 : (0 : Int) ≤ (i : Int) := by omega
      have hi1 : (i : Int) < (gs.length : Int) := by omega
      clear hra hra2
      generalize (gs[i]?.getD ag0) = x at c0 c1 d0 d1
      obtain ⟨x0, x1⟩ := x
      dsimp only at c0 c1 d0 d1
      have hq := fun W => neqG x0 x1 W
      go_wp2_with fail
      go_quiet (fail)
      go_wp2_with fail
      go_roundw
      case rel => exact ⟨i + 1, by omega, by go_num, ⟨hB.os, hB.tape, hB.output, hB.size, hB.block⟩⟩
      case measure => simp [intOf]; omega
    · have hge : gs.length ≤ i := by omega
      go_wp2_with fail
      go_ret
      exact ⟨rfl, hB⟩

set_option maxRecDepth 100000 in
set_option maxHeartbeats 1000000 in
theorem same_eq (p q : Option Addr) (gs : List Ag) (c d m : Nat) (n : Int) (hm : m = gs.length) (hl : gs.length ≤ 9223372036854775807) (w : World) (hX : AggsIn w p gs) (hY : AggsIn w q gs) :
    Calls Tryz.prog 49 #[.agg #[.slice p gs.length c, .int .i64 n], .agg #[.slice q m d, .int .i64 n]] w (AgPost w true) := by
  subst hm
  have b1 : Below w.heap.size w (w.alloc (.cells #[.slice p gs.length c, .int .i64 n] 64)) := below_new _ _
  have b2 : Below w.heap.size w ((w.alloc (.cells #[.slice p gs.length c, .int .i64 n] 64)).alloc (.cells #[.slice q gs.length d, .int .i64 n] 64)) := b1.alloc b1.size _
  have k1 := (Blk.new w 64 #[.slice p gs.length c, .int .i64 n]).allocG (.cells #[.slice q gs.length d, .int .i64 n] 64)
  have k2 := Blk.newAt (w.alloc (.cells #[.slice p gs.length c, .int .i64 n] 64)) 64 #[.slice q gs.length d, .int .i64 n] (g := w.heap.size + 1) (by simp)
  have c0 := k1.cell 0
  have c1 := k1.cell 1
  have d0 := k2.cell 0
  have d1 := k2.cell 1
  simp only [List.getElem?_toArray, List.getElem?_cons_zero, List.getElem?_cons_succ] at c0 c1 d0 d1
  have HE := Lib.hid (equalG_any p q gs c d gs.length rfl hl _ (hX.belowV b2) (hY.belowV b2))
  have HB := Lib.hid b2
  clear k1 k2 b1 b2 hX hY
  go_enter Tryz.func49, Tryz.ntmps49
  go_wp2_with fail
  refine HE.out.mono ?_
  rintro e w1 ⟨rfl, hb1⟩
  have hB4 := HB.out.trans (hb1.mono HB.out.size)
  go_wp2_with fail
  go_ret
  exact ⟨rfl, hB4⟩
end Go.Proofs.YtfoknllnknjccaaGreat
