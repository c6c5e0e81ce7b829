/-
  Format of package row, at a schema; the word of a kind.
-/
import Derived.Test.YtlhhkiglpehnfaaDoorSa
import Derived.Test.YtlhhkiglpehnfaaDoorColFlat
import Derived.Test.YtlhhkiglpehnfaaDoorRefSchema
import Derived.Test.YtlhhkiglpehnfaaDoorLaid
import Derived.BigRegion
import Derived.LoopTactic
import Derived.RegionTactic
import Derived.OwnWalk
import Derived.Maps.AppendAt
namespace Go.Proofs.YtlhhkiglpehnfaaDoor
open Go.RowKit
set_option linter.unusedSimpArgs false
set_option linter.unusedVariables false

theorem wordT_any (k : Int) (w : World) :
    Calls Tryd.prog 13 #[.int .i64 k] w fun e w' => e = .returned (.string ⟨(kindT k).toArray⟩) ∧ w = w' := by
  by_cases h1 : k = 1
  · subst h1
    go_enter Tryd.func13, Tryd.ntmps13
    go_wp2
    go_ret
    exact ⟨rfl, rfl⟩
  · by_cases h2 : k = 2
    · subst h2
      go_enter Tryd.func13, Tryd.ntmps13
      go_wp2
      go_ret
      exact ⟨rfl, rfl⟩
    · have d1 : (k == 1) = false := by rw [beq_eq_false_iff_ne]; exact h1
      have d2 : (k == 2) = false := by rw [beq_eq_false_iff_ne]; exact h2
      have hk : kindT k = [] := by unfold kindT; rw [if_neg h1, if_neg h2]
      rw [hk]
      clear hk
      go_enter Tryd.func13, Tryd.ntmps13
      go_wp2
      go_ret
      exact ⟨rfl, rfl⟩
theorem made_strs (n : Nat) : (madeCells (Value.string ⟨#[]⟩).cells n).toList = List.replicate n (Value.string ⟨#[]⟩) := by
  unfold madeCells
  apply List.ext_getElem
  · simp
  · intro i h1 h2
    simp [Value.cells, Nat.mod_one]
def FmtPost (w : World) (x : List UInt8) (e : Ending) (w' : World) : Prop := e = .returned (.string ⟨x.toArray⟩) ∧ Below w.heap.size w w'
def colB (c : Col) : ByteArray := ⟨(colT c).toArray⟩
theorem col_bytes (c : Col) : c.1 ++ ⟨#[32]⟩ ++ ⟨(kindT c.2).toArray⟩ = colB c := by
  have : (c.1 ++ ⟨#[32]⟩ ++ ⟨(kindT c.2).toArray⟩ : ByteArray).data = (colB c).data := by
    apply Array.toList_inj.1
    simp [colB, colT, ByteArray.data_append]
  cases h : (c.1 ++ ⟨#[32]⟩ ++ ⟨(kindT c.2).toArray⟩ : ByteArray) with
  | mk d => rw [h] at this; cases h2 : colB c with
    | mk d2 => rw [h2] at this; dsimp only at this; rw [this]
abbrev strs (ws : List ByteArray) : List Value := ws.map Value.string
theorem infoS : (Tryd.prog.info? 9).map (fun i => (i.zero, i.size, i.bytes)) = some (some (.string ⟨#[]⟩), 1, 16) := by kernel_rfl
theorem below_newS (w : World) (o : Obj) : Below w.heap.size w (w.alloc o) := (Below.refl _ _).alloc (Nat.le_refl _) _
theorem cell_far1 {w : World} {g S : Nat} {i j : Nat} {u x : Value} (h : g ≠ S) (hc : w.cell? ⟨g, i, none⟩ = some u) : (w.setCell ⟨S, j, none⟩ x).drew.cell? ⟨g, i, none⟩ = some u := by
  have e : (w.setCell ⟨S, j, none⟩ x).heap[g]? = w.heap[g]? := Below.heap_setCell w ⟨S, j, none⟩ x g h
  show (w.setCell ⟨S, j, none⟩ x).cell? ⟨g, i, none⟩ = some u
  unfold World.cell? at hc ⊢
  rw [e]; exact hc
theorem take_set_col {ws : List ByteArray} {l : List Col} {i : Nat} (hw : ws.length = l.length) (hi : i < l.length) (h : ws.take i = (l.take i).map colB) : (ws.set i (colB (colAt l i))).take (i + 1) = (l.take (i + 1)).map colB := by
  rw [List.take_add_one, List.take_set_of_le (Nat.le_refl _), h, List.take_add_one, List.map_append]
  simp [List.getElem?_set_self (show i < ws.length by omega), colAt, List.getElem?_eq_getElem hi]
theorem rows_eq (l : List Col) : (l.map colB).map (·.data.toList) = l.map colT := by
  rw [List.map_map]
  rfl

set_option maxRecDepth 100000 in
set_option maxHeartbeats 2000000 in
theorem rowFormat_no (p : Option Addr) (l : List Col) (cap : Nat) (hm : l.length ≤ 9223372036854775807) (hsz : ∀ j, (colAt l j).1.size ≤ maxLen) (hok : schemaOK l = false) (w : World) (hX : ColsIn w p l) :
    Calls Tryd.prog 5 #[.slice p l.length cap] w (FmtPost w []) := by
  have HV := Lib.hid (rowSchema_any p l cap hm hsz w hX)
  rw [hok] at HV
  clear hok
  go_enter Tryd.func5, Tryd.ntmps5
  go_wp2_with fail
  refine HV.out.mono ?_
  rintro e w1 ⟨rfl, hb1⟩
  have HB := Lib.hid hb1
  clear hb1
  go_wp2_with fail
  go_ret
  exact ⟨rfl, HB.out⟩

set_option maxRecDepth 100000 in
set_option maxHeartbeats 2000000 in
theorem rowFormat_ok (p : Option Addr) (l : List Col) (cap : Nat) (hm : l.length ≤ 9223372036854775807) (hsz : ∀ j, (colAt l j).1.size ≤ maxLen) (hok : schemaOK l = true) (w : World) (hX : ColsIn w p l) :
    Calls Tryd.prog 5 #[.slice p l.length cap] w (FmtPost w (schT l)) := by
  have HV := Lib.hid (rowSchema_any p l cap hm hsz w hX)
  rw [hok] at HV
  obtain ⟨i0, hi, hz0, hz1, hz2⟩ := info_parts infoS
  have h8 := (schemaOK_is hok).2.1
  have h1 := (schemaOK_is hok).1
  have HOK := Lib.hid hok
  have HX := Lib.hid hX
  clear hok hX
  go_enter Tryd.func5, Tryd.ntmps5
  go_wp2_with fail
  refine HV.out.mono ?_
  rintro e w1 ⟨rfl, hb1⟩
  have HB1 := Lib.hid hb1
  clear hb1 HV
  go_wp2_with (at_make; refine wpList_make_full _ rfl _ _ 37 rfl w1.heap.size 9 i0 (.string ⟨#[]⟩) 1 Tryd.underlying37 hi hz0 hz1 .i64 .i64 _ _ l.length rfl rfl rfl rfl (by rw [hz2]; omega) (by unfold maxLen; omega) (Nat.le_refl _) ?_; intro w2 hrow2 hg2)
  have HR2 := Lib.hid hrow2
  have HB2 := Lib.hid (HB1.out.grown hg2 HB1.out.size (fun k e => by cases e))
  clear hrow2 hg2
  go_loopw [14] (fun s wr => ∃ (i : Nat) (ws : List ByteArray), s = .int .i64 i ∧ i ≤ l.length ∧ ws.length = l.length ∧ Hid (ws.take i = (l.take i).map colB) ∧ Hid (wr.ownsRow w1.heap.size 9 1 (.slice (some ⟨w1.heap.size, 0, none⟩) l.length l.length) l.length (strs ws)) ∧ Hid (Below w.heap.size w wr)) (fun s _ => l.length - (intOf s).toNat)
  case atStart => exact ⟨0, List.replicate l.length ⟨#[]⟩, rfl, Nat.zero_le _, by simp, by simp [Hid], Lib.hid (by have := HR2.out; simpa [made_strs, strs] using this), HB2.out⟩
  case round =>
    clear HR2 HB2
    obtain ⟨i, ws, rfl, hin, hwl, HWS, HRW, HB⟩ := hrel
    by_cases hlt : i < l.length
    · obtain ⟨b, off, rfl, hbl, hra⟩ := HX.out (by omega)
      obtain ⟨c0, c1⟩ := (hra.belowV HB.out hbl) i hlt
      have HT := Lib.hid (take_set_col hwl hlt HWS.out)
      have hbt := col_bytes (colAt l i)
      have hfi : fine (colAt l i) := fine_of HOK.out _ (by unfold colAt; rw [List.getElem?_eq_getElem hlt]; exact List.getElem_mem hlt)
      have hn16 := (fine_len hfi).2
      have hk4 : (kindT (colAt l i).2).length ≤ 4 := by have := colT_len hfi; unfold colT at this; simp only [List.length_append, List.length_cons] at this; rcases hfi.2 with e | e <;> rw [e] <;> decide
      clear hfi
      have hi0 : (0 : Int) ≤ (i : Int) := by omega
      have hi1 : (i : Int) < (l.length : Int) := by omega
      have HW := Lib.hid wordT_any
      have hiw : i < ws.length := by omega
      have hbsz : w1.heap.size < wr.heap.size := (HRW.out.lt w1.heap.size rfl).2
      have HNE := Lib.hid (show wr.heap.size ≠ w1.heap.size by omega)
      clear hra
      generalize colAt l i = col at c0 c1 HT hbt hn16 hk4
      obtain ⟨nm, kd⟩ := col
      dsimp only at c0 c1 hbt hn16 hk4
      have hn17 : nm.size ≤ 16 := by simpa using hn16
      have hA1 : ¬ (9223372036854775807 < nm.size + 1) := by omega
      have hA2 : ¬ (9223372036854775807 < nm.size + 1 + (kindT kd).length) := by omega
      clear hn16
      have hown := HRW.out.alloc (.cells #[.string nm, .int .i64 kd] 39)
      have HB3 := Lib.hid (HB.out.alloc HB.out.size (.cells #[.string nm, .int .i64 kd] 39))
      have g0 : (wr.alloc (.cells #[.string nm, .int .i64 kd] 39)).cell? ⟨w1.heap.size, i, none⟩ = some (.string ws[i]) := by
        rw [hown.cellAt i (by omega), List.getElem?_map, List.getElem?_eq_getElem hiw]; rfl
      have g1 := hown.frozenAt i
      have s0 : (wr.alloc (.cells #[.string nm, .int .i64 kd] 39)).cell? ⟨wr.heap.size, 0, none⟩ = some (.string nm) := (Blk.new wr 39 #[.string nm, .int .i64 kd]).cell 0
      have s1 : (wr.alloc (.cells #[.string nm, .int .i64 kd] 39)).cell? ⟨wr.heap.size, 1, none⟩ = some (.int .i64 kd) := (Blk.new wr 39 #[.string nm, .int .i64 kd]).cell 1
      have HF := Lib.hid (show ((wr.setCell ⟨w1.heap.size, i, none⟩ (.string (nm ++ ⟨#[32]⟩ ++ ⟨(kindT kd).toArray⟩))).alloc (.cells #[.string nm, .int .i64 kd] 39)).drew.ownsRow w1.heap.size 9 1 (.slice (some ⟨w1.heap.size, 0, none⟩) l.length l.length) l.length (strs (ws.set i (colB (nm, kd)))) ∧ Below w.heap.size w ((wr.setCell ⟨w1.heap.size, i, none⟩ (.string (nm ++ ⟨#[32]⟩ ++ ⟨(kindT kd).toArray⟩))).alloc (.cells #[.string nm, .int .i64 kd] 39)).drew from
        ⟨by rw [hbt, strs, List.map_set]; exact ((HRW.out.stored i _).1.alloc (.cells #[.string nm, .int .i64 kd] 39)), ((HB.out.setCell (p := ⟨w1.heap.size, i, none⟩) HB1.out.size _).alloc (by have := HB.out.size; simpa using this) (.cells #[.string nm, .int .i64 kd] 39)).drew⟩)
      have HSS := Lib.hid (show ((wr.setCell ⟨w1.heap.size, i, none⟩ (.string (nm ++ ⟨#[32]⟩ ++ ⟨(kindT kd).toArray⟩))).alloc (.cells #[.string nm, .int .i64 kd] 39)).drew.cell? ⟨wr.heap.size, 0, none⟩ = some (.string nm) ∧ ((wr.setCell ⟨w1.heap.size, i, none⟩ (.string (nm ++ ⟨#[32]⟩ ++ ⟨(kindT kd).toArray⟩))).alloc (.cells #[.string nm, .int .i64 kd] 39)).drew.cell? ⟨wr.heap.size, 1, none⟩ = some (.int .i64 kd) from by
        have hk : Blk ((wr.setCell ⟨w1.heap.size, i, none⟩ (.string (nm ++ ⟨#[32]⟩ ++ ⟨(kindT kd).toArray⟩))).alloc (.cells #[.string nm, .int .i64 kd] 39)).drew wr.heap.size 39 #[.string nm, .int .i64 kd] := by
          have := Blk.new (wr.setCell ⟨w1.heap.size, i, none⟩ (.string (nm ++ ⟨#[32]⟩ ++ ⟨(kindT kd).toArray⟩))) 39 #[.string nm, .int .i64 kd]
          rw [show (wr.setCell ⟨w1.heap.size, i, none⟩ (.string (nm ++ ⟨#[32]⟩ ++ ⟨(kindT kd).toArray⟩))).heap.size = wr.heap.size by simp [World.setCell]] at this
          exact this
        exact ⟨hk.cell 0, hk.cell 1⟩)
      have HWL := Lib.hid (show (ws.set i (colB (nm, kd))).length = l.length by rw [List.length_set]; exact hwl)
      clear hown HRW HB HB3 hbt HWS
      go_wp2_with fail
      refine wp_region_held_drew (S := fun u : World => u.cell? ⟨wr.heap.size, 0, none⟩ = some (.string nm) ∧ u.cell? ⟨wr.heap.size, 1, none⟩ = some (.int .i64 kd)) (by kernel_rfl) ⟨s0, s1⟩ (fun hHeld => ?_)
      refine wpAnyH_take (i := 0) (oi := _) (v := ?_) rfl (by kernel_rfl) (by kernel_rfl) (by kernel_rfl) (fun _ _ _ h => h) (Or.inl ⟨by rfl, ?_⟩) (by assumption) ?_
      rotate_left
      · intro w hSw
        try dsimp only at hSw
        go_simp
        all_goals with_reducible rfl
      simp only [List.getElem_toArray, List.getElem_cons_succ, List.getElem_cons_zero, Act.put, List.setIfInBounds_toArray, List.set_cons_zero, List.set_cons_succ]
      refine wpAnyH_take (i := 1) (oi := _) (v := ?_) rfl (by kernel_rfl) (by kernel_rfl) (by kernel_rfl) (fun _ _ _ h => h) (Or.inl ⟨by rfl, ?_⟩) (by assumption) ?_
      rotate_left
      · intro w hSw
        try dsimp only at hSw
        go_simp
        all_goals with_reducible rfl
      simp only [List.getElem_toArray, List.getElem_cons_succ, List.getElem_cons_zero, Act.put, List.setIfInBounds_toArray, List.set_cons_zero, List.set_cons_succ]
      refine wpAnyH_take (i := 2) (oi := _) (v := ?_) rfl (by kernel_rfl) (by kernel_rfl) (by kernel_rfl) (fun _ _ _ h => h) (Or.inl ⟨by rfl, ?_⟩) (by assumption) ?_
      rotate_left
      · intro w hSw
        try dsimp only at hSw
        go_simp
        all_goals with_reducible rfl
      simp only [List.getElem_toArray, List.getElem_cons_succ, List.getElem_cons_zero, Act.put, List.setIfInBounds_toArray, List.set_cons_zero, List.set_cons_succ]
      refine wpAnyH_take (i := 3) (oi := _) (v := ?_) rfl (by kernel_rfl) (by kernel_rfl) (by kernel_rfl) (fun _ _ _ h => h) (Or.inl ⟨by rfl, ?_⟩) (by assumption) ?_
      rotate_left
      · intro w hSw
        try dsimp only at hSw
        go_simp
        all_goals with_reducible rfl
      simp only [List.getElem_toArray, List.getElem_cons_succ, List.getElem_cons_zero, Act.put, List.setIfInBounds_toArray, List.set_cons_zero, List.set_cons_succ]
      refine wpAnyH_take (i := 4) (oi := _) (v := ?_) rfl (by kernel_rfl) (by kernel_rfl) (by kernel_rfl) (fun _ _ _ h => h) (Or.inl ⟨by rfl, ?_⟩) (by assumption) ?_
      rotate_left
      · intro w hSw
        try dsimp only at hSw
        go_simp
        all_goals with_reducible rfl
      simp only [List.getElem_toArray, List.getElem_cons_succ, List.getElem_cons_zero, Act.put, List.setIfInBounds_toArray, List.set_cons_zero, List.set_cons_succ]
      refine wpAnyH_take (i := 5) (oi := _) (v := ?_) rfl (by kernel_rfl) (by kernel_rfl) (by kernel_rfl) (fun _ _ _ h => h) (Or.inl ⟨by rfl, ?_⟩) (by assumption) ?_
      rotate_left
      · intro w hSw
        try dsimp only at hSw
        go_simp
        all_goals with_reducible rfl
      simp only [List.getElem_toArray, List.getElem_cons_succ, List.getElem_cons_zero, Act.put, List.setIfInBounds_toArray, List.set_cons_zero, List.set_cons_succ]
      refine wpAnyH_take (i := 6) (oi := _) (v := ?_) rfl (by kernel_rfl) (by kernel_rfl) (by kernel_rfl) (fun _ _ _ h => h) (Or.inl ⟨by rfl, ?_⟩) (by assumption) ?_
      rotate_left
      · intro w hSw
        try dsimp only at hSw
        go_simp
        all_goals with_reducible rfl
      simp only [List.getElem_toArray, List.getElem_cons_succ, List.getElem_cons_zero, Act.put, List.setIfInBounds_toArray, List.set_cons_zero, List.set_cons_succ]
      refine wpAnyH_ready (rs := [7]) (by kernel_rfl) (by simp) ?_
      refine AllReadyH.cons (o := _) rfl (fun K hK => ?_) AllReadyH.nil
      go_simp
      refine (HW.out _ _).mono ?_
      rintro e w' ⟨rfl, rfl⟩
      refine hK.out _ _ (by assumption) (fun hHeld => ?_)
      clear hK K
      try simp only [List.getElem_toArray, List.getElem_cons_succ, List.getElem_cons_zero, Act.put, List.setIfInBounds_toArray, List.set_cons_zero, List.set_cons_succ]
      refine wpAnyH_take (i := 8) (oi := _) (v := ?_) rfl (by kernel_rfl) (by kernel_rfl) (by kernel_rfl) (fun _ _ _ h => h) (Or.inl ⟨by rfl, ?_⟩) (by assumption) ?_
      rotate_left
      · intro w hSw
        try dsimp only at hSw
        go_simp
        all_goals with_reducible rfl
      simp only [List.getElem_toArray, List.getElem_cons_succ, List.getElem_cons_zero, Act.put, List.setIfInBounds_toArray, List.set_cons_zero, List.set_cons_succ]
      refine wpAnyH_take (i := 9) (oi := _) (v := ?_) rfl (by kernel_rfl) (by kernel_rfl) (by kernel_rfl) (fun _ _ _ h => h) (Or.inl ⟨by rfl, ?_⟩) (by assumption) ?_
      rotate_left
      · intro w hSw
        try dsimp only at hSw
        go_simp
        all_goals with_reducible rfl
      simp only [List.getElem_toArray, List.getElem_cons_succ, List.getElem_cons_zero, Act.put, List.setIfInBounds_toArray, List.set_cons_zero, List.set_cons_succ]
      have g0 : (wr.alloc (.cells #[.string nm, .int .i64 kd] 39)).drew.cell? ⟨w1.heap.size, i, none⟩ = some (.string ws[i]) := g0
      have g1 : (wr.alloc (.cells #[.string nm, .int .i64 kd] 39)).drew.frozen? ⟨w1.heap.size, i, none⟩ = false := g1
      refine wpAnyH_ready (rs := [10]) (by kernel_rfl) (by simp) ?_
      refine AllReadyH.cons (o := _) rfl (fun K hK => ?_) AllReadyH.nil
      go_simp
      refine hK.out (_) (_) ?_ ?_
      · exact HSS.out
      intro _
      clear hK K
      try simp only [List.getElem_toArray, List.getElem_cons_succ, List.getElem_cons_zero, Act.put, List.setIfInBounds_toArray, List.set_cons_zero, List.set_cons_succ]
      refine wpAnyH_done (by kernel_rfl) ?_ _
      clear s0 s1 g0 g1 c0 c1
      generalize ((wr.setCell ⟨w1.heap.size, i, none⟩ (.string (nm ++ ⟨#[32]⟩ ++ ⟨(kindT kd).toArray⟩))).alloc (.cells #[.string nm, .int .i64 kd] 39)).drew = w5 at HF ⊢
      go_wp2_with fail
      go_roundw
      case rel => exact ⟨i + 1, _, by go_num, by omega, HWL.out, HT.out, HF.out.1, HF.out.2⟩
      case measure => simp [intOf]; omega
    · have hie : i = l.length := by omega
      have hws : ws = l.map colB := by
        have := HWS.out
        rw [hie, List.take_length, List.take_of_length_le (by omega)] at this
        exact this
      have hl2 : (ws.length : Nat) = l.length := hwl
      have hj := Tryd.strings_Join w1.heap.size 0 l.length ws ⟨#[44, 32]⟩ wr (fun j x hx => by
        have hj : j < ws.length := (List.getElem?_eq_some_iff.1 hx).1
        have := HRW.out.cellAt j (by omega)
        rw [Nat.zero_add, this, List.getElem?_map, hx]; rfl) ((HRW.out.lt w1.heap.size rfl).2) (by omega) (by omega) (by
        rw [hws, rows_eq]
        have := (schT_len HOK.out).1
        show (schT l).length ≤ _
        omega)
      rw [show Lib.join (ws.map (·.data.toList)) (⟨#[44, 32]⟩ : ByteArray).data.toList = schT l by rw [hws, rows_eq]; rfl, hl2] at hj
      have HJ := Lib.hid hj
      clear hj hie hws hl2
      go_wp2_with fail
      refine HJ.out.mono ?_
      rintro e w5 ⟨rfl, hb5⟩
      have HF := Lib.hid (HB.out.trans (hb5.mono HB.out.size))
      clear hb5
      go_wp2_with fail
      go_ret
      exact ⟨rfl, HF.out⟩
theorem rowFormat_any (p : Option Addr) (l : List Col) (cap : Nat) (hm : l.length ≤ 9223372036854775807) (hsz : ∀ j, (colAt l j).1.size ≤ maxLen) (w : World) (hX : ColsIn w p l) :
    Calls Tryd.prog 5 #[.slice p l.length cap] w (FmtPost w (fmtS l)) := by
  unfold fmtS
  cases hok : schemaOK l with
  | true => exact rowFormat_ok p l cap hm hsz hok w hX
  | false => exact rowFormat_no p l cap hm hsz hok w hX
end Go.Proofs.YtlhhkiglpehnfaaDoor
