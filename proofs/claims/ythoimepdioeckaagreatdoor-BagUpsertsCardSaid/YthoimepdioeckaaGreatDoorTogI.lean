/-
  What gathered does with two items of one row; its map read at a row's text; plain bounds. As contracts.
-/
import Derived.Test.YthoimepdioeckaaGreatDoorMapI
import Derived.Maps.OwnOps
import Derived.WalkArith
namespace Go.Proofs.YthoimepdioeckaaGreatDoor
open Go.RowKit Go.Shelf

theorem ownsMap_below {W W' : World} {k : TypeId} {R : Value → Option (DataW Value × List MemPlace)} {b n : Nat} {D : DataW Value} (h : W.ownsMap Tryz.prog k R b n D) (hb : Below W.heap.size W W') : W'.ownsMap Tryz.prog k R b n D := by
  have hlt := h.lt
  obtain ⟨es, clock, hk, rest⟩ := h
  exact ⟨es, clock, (hb.block b hlt).trans hk, rest⟩

abbrev togI (a b : ItR) : ItR := (a.1, a.2 + b.2)
theorem togI_row (a b : ItR) : rowI (togI a b) = rowI a := rfl

theorem zeroItem (w : World) : (zeroValue 60).run Tryz.prog w = .ok (.agg #[.slice none 0 0, .int .i64 0]) w := by
  obtain ⟨i0, hi, hz0, hz1, hz2⟩ := info_parts infoI
  simp [zeroValue, typeInfo, hi, hz0]
theorem key_of (L : List UInt8) (hl : L.length ≤ maxLen) : keyOf Tryz.prog 9 (.string ⟨L.toArray⟩) = some (.string L) := by
  have := WideMaps.keyOf_string_mk (P := Tryz.prog) Tryz.underlying9 (s := ⟨L.toArray⟩) (by show L.toArray.size ≤ _; simpa using hl)
  simpa using this
theorem lookI_yes {W : World} {b n : Nat} {D : DataW Value} {acc : List ItR} (hown : W.ownsMap Tryz.prog 9 heldR b n D) (hG : GatOf rowI vI acc D) {y : ItR} (hy : y ∈ acc) {L : List UInt8} (hL : textOf (rowI y) = L) (hl : L.length ≤ maxLen) :
    (Instr.lookup 164 (.map (some b)) (.string ⟨L.toArray⟩) true).run Tryz.prog W = .ok (.tuple #[vI y, .bool true]) W := by
  obtain ⟨v, ps, hrun, hv⟩ := hown.look_ok (Maps.string_keyed Tryz.underlying9) mapTI (zeroItem W) (zd := .held (.agg #[.slice none 0 0, .int .i64 0])) (zp := []) rfl (key_of L hl)
  have h1 := hG.at_ y hy (.held (.agg #[.slice none 0 0, .int .i64 0]))
  rw [hL] at h1
  rw [h1] at hv
  have h2 : v = vI y := by simpa [heldR] using (congrArg (Option.map Prod.fst) hv)
  have h3 : Maps.has D (.string L) = true := (hG.has L).2 ⟨y, hy, hL⟩
  rw [h2, h3] at hrun
  exact hrun
theorem lookI_no {W : World} {b n : Nat} {D : DataW Value} (hown : W.ownsMap Tryz.prog 9 heldR b n D) {L : List UInt8} (hn : Maps.has D (.string L) = false) (hl : L.length ≤ maxLen) :
    (Instr.lookup 164 (.map (some b)) (.string ⟨L.toArray⟩) true).run Tryz.prog W = .ok (.tuple #[.agg #[.slice none 0 0, .int .i64 0], .bool false]) W := by
  obtain ⟨v, ps, hrun, hv⟩ := hown.look_ok (Maps.string_keyed Tryz.underlying9) mapTI (zeroItem W) (zd := .held (.agg #[.slice none 0 0, .int .i64 0])) (zp := []) rfl (key_of L hl)
  rw [Maps.atKey_of_not_has hn] at hv
  have h2 : v = .agg #[.slice none 0 0, .int .i64 0] := by simpa [heldR] using (congrArg (Option.map Prod.fst) hv)
  rw [h2, hn] at hrun
  exact hrun
theorem textOf_len (xs : List Val) : (textOf xs).length ≤ 803 * 8 := by
  unfold textOf
  split
  · rename_i h
    unfold validRow at h
    rw [Bool.and_eq_true, decide_eq_true_eq] at h
    have := textN_len h.2 xs.length (Nat.le_refl _)
    unfold textR
    have := h.1
    omega
  · simp
theorem gathI_bound {rs : List ItR} (h : ∀ r ∈ rs, -1000000 ≤ r.2 ∧ r.2 ≤ 1000000) : ∀ i, i ≤ rs.length → ∀ y ∈ gath rowI togI (rs.take i), -(1000000 * (i : Int)) ≤ y.2 ∧ y.2 ≤ 1000000 * (i : Int)
  | 0, _ => by simp [gath]
  | i + 1, hi => fun y hy => by
    rw [gath_next (row := rowI) (tog := togI) (by omega : i < rs.length)] at hy
    have ih := gathI_bound h i (by omega)
    have hx := h rs[i] (List.getElem_mem (by omega))
    by_cases hh : ∃ z ∈ gath rowI togI (rs.take i), rowI z = rowI rs[i]
    · obtain ⟨z, hz, e⟩ := hh
      rw [gstep_yes hz e] at hy
      obtain ⟨u, hu, rfl⟩ := List.mem_map.1 hy
      have := ih u hu
      split
      · show -(1000000 * ((i + 1 : Nat) : Int)) ≤ u.2 + rs[i].2 ∧ u.2 + rs[i].2 ≤ 1000000 * ((i + 1 : Nat) : Int)
        omega
      · omega
    · rw [gstep_no (fun z hz e => hh ⟨z, hz, e⟩)] at hy
      rcases List.mem_append.1 hy with hy | hy
      · have := ih y hy; omega
      · rw [List.mem_singleton] at hy; rw [hy]; omega

def Big (n : Int) : Prop := -1000000000000 ≤ n ∧ n ≤ 1000000000000
set_option maxRecDepth 100000 in
theorem added_any (q : Option Addr) (len c : Nat) (n : Int) (p : Option Addr) (len' c' : Nat) (m : Int) (hn : Big n) (hm : Big m) (w : World) :
    Calls Tryz.prog 94 #[.agg #[.slice q len c, .int .i64 n], .agg #[.slice p len' c', .int .i64 m]] w fun e w' => e = .returned (.agg #[.slice q len c, .int .i64 (n + m)]) ∧ Below w.heap.size w w' := by
  obtain ⟨hn1, hn2⟩ := hn
  obtain ⟨hm1, hm2⟩ := hm
  go_enter Tryz.func94, Tryz.ntmps94
  go_wp2
  refine bodyPost_ret (v := .agg #[.slice q len c, .int .i64 (n + m)]) (by simp [results, Tryz.results94, go_sem]) rfl ⟨rfl, ?_⟩
  exact (((Below.refl _ _).alloc (Nat.le_refl _) _).alloc (by simp) _).alloc (by simp; omega) _
theorem rowOfI_any (q : Option Addr) (len c : Nat) (n : Int) (w : World) : Calls Tryz.prog 96 #[.agg #[.slice q len c, .int .i64 n]] w fun e w' => e = .returned (.slice q len c) ∧ Below w.heap.size w w' := by
  go_enter Tryz.func96, Tryz.ntmps96
  go_wp2
  go_ret
  exact ⟨rfl, (Below.refl _ _).alloc (Nat.le_refl _) _⟩
#print axioms added_any
end Go.Proofs.YthoimepdioeckaaGreatDoor
