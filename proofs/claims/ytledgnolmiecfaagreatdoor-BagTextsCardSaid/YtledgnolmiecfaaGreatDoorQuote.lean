/-
  The text of a text: appendQuoted, as a contract.
-/
import Derived.Test.YtledgnolmiecfaaGreatDoorBlk
import Derived.Laws.AppendOwn
import Derived.OwnWalk
import Derived.Lib.AppendIntMem
import Derived.Lib.UnsafeStr
import Derived.Deep.RegionLaw
import Derived.Deep.AppendLies
import Derived.Lib.Walk
namespace Go.Proofs.YtledgnolmiecfaaGreatDoor
open Go.RowKit Go.Lib
set_option linter.unusedSimpArgs false

theorem infoB : (Tryz.prog.info? 5).map (fun i => (i.zero, i.size, i.bytes)) = some (some (.int .u8 0), 1, 1) := by kernel_rfl
def hexd (k : Nat) : Nat := if k < 10 then 48 + k else 87 + k
/-- The text of one byte. -/
def qB (c : UInt8) : List UInt8 :=
  if c.toNat = 34 ∨ c.toNat = 92 then [92, c] else if c.toNat = 10 then [92, 110] else if c.toNat < 32 ∨ 126 < c.toNat then [92, 120, UInt8.ofNat (hexd (c.toNat / 16)), UInt8.ofNat (hexd (c.toNat % 16))] else [c]
theorem qB_len (c : UInt8) : (qB c).length ≤ 4 := by unfold qB; split <;> (try split) <;> (try split) <;> simp
theorem flat_len (l : List UInt8) : (l.flatMap qB).length ≤ 4 * l.length := by
  induction l with
  | nil => simp
  | cons c l ih => have := qB_len c; simp only [List.flatMap_cons, List.length_append, List.length_cons]; omega
def quoted (l : List UInt8) : List UInt8 := 34 :: (l.flatMap qB ++ [34])
theorem take_snocS (s : ByteArray) (k : Nat) (h : k < s.size) : s.data.toList.take (k + 1) = s.data.toList.take k ++ [s[k]] := by
  rw [List.take_succ_eq_append_getElem (by simpa using h)]; rfl

/-- append of bytes, onto a slice of the call's own. -/
theorem wpList_append_bytes {w : World} {ops : Array Oper} {rest : List Oper} {o : Oper} {a : Act} {Q : Exit → Act → World → Prop} (hgd : o.guard = none) (s x : Operand)
    (ho : o.op = .call { callee := .builtin .append, args := #[s, x], argTypes := #[48, 48] })
    (B : Nat) (v : Value) (n : Nat) (xs : List Value) (hs : a.eval s = v) (hown : w.ownsRow B 5 1 v n xs) (ad : Addr) (m c : Nat) (l : List UInt8) (hm : l.length = m) (hx : a.eval x = .slice (some ad) m c)
    (hc : ∀ j u, (byteCells l)[j]? = some u → w.cell? (ad.add j) = some u) (hn : n + m ≤ 100000000000) (hB : B ≤ w.heap.size)
    (h : ∀ v' w', w'.ownsRow B 5 1 v' (n + m) (xs ++ byteCells l) → Below B w w' → w.grownBy w' v.ownBlock → wpList Tryz.prog ops Q rest (a.put o.dst v') w') : wpList Tryz.prog ops Q (o :: rest) a w := by
  obtain ⟨i0, hi, hz0, hz1, hz2⟩ := info_parts infoB
  subst hm
  exact wpList_append_own _ hgd s x 48 ho B 5 i0 (.int .u8 0) 1 1 Tryz.underlying48 hi hz0 hz1 hz2 rfl (by decide) v n xs hs hown ad l.length c (byteCells l) hx (by simp [byteCells]) hc
    (fun u hu => by simp only [byteCells, List.mem_map] at hu; obtain ⟨b, _, rfl⟩ := hu; rfl) (by unfold maxLen; omega) (by omega) hB
    (fun v' w' h1 h2 _ => h v' w' h1 ((Below.refl B w).grown h2 hB (fun k e => (hown.lt k e).1)) h2)

theorem hex_index (k : Nat) (h : k < 16) (W : World) : (Instr.index 9 (.string ⟨#[48, 49, 50, 51, 52, 53, 54, 55, 56, 57, 97, 98, 99, 100, 101, 102]⟩) (.int .u8 (k : Int))).run Tryz.prog W = .ok (.int .u8 ((UInt8.ofNat (hexd k)).toNat : Int)) W := by
  have hc : k = 0 ∨ k = 1 ∨ k = 2 ∨ k = 3 ∨ k = 4 ∨ k = 5 ∨ k = 6 ∨ k = 7 ∨ k = 8 ∨ k = 9 ∨ k = 10 ∨ k = 11 ∨ k = 12 ∨ k = 13 ∨ k = 14 ∨ k = 15 := by omega
  rcases hc with rfl | rfl | rfl | rfl | rfl | rfl | rfl | rfl | rfl | rfl | rfl | rfl | rfl | rfl | rfl | rfl <;> (show _ = _; kernel_rfl)

theorem and15 (n : Nat) (h : n < 256) : bits BinOp.and IntKind.u8 (n : Int) 15 = ((n % 16 : Nat) : Int) := by
  have hd : ∀ m : Fin 256, bits BinOp.and IntKind.u8 ((m.val : Nat) : Int) 15 = ((m.val % 16 : Nat) : Int) := by decide +kernel
  exact hd ⟨n, h⟩
def QuotedPost (B n : Nat) (xs : List Value) (l : List UInt8) (w : World) (e : Ending) (w' : World) : Prop :=
  ∃ v', e = .returned v' ∧ w'.ownsRow B 5 1 v' (n + l.length) (xs ++ byteCells l) ∧ Below B w w'

theorem byteCells_app (l m : List UInt8) : byteCells (l ++ m) = byteCells l ++ byteCells m := by simp [byteCells]
/-- One round more. -/
theorem quote_next {B n k m : Nat} {xs : List Value} {s : ByteArray} {tv : Value} {W : World} (hk : k < s.size) (hm : m = (34 :: (s.data.toList.take k).flatMap qB).length) {q : List UInt8} (hq : qB s[k] = q)
    (h : W.ownsRow B 5 1 tv (n + m + q.length) (xs ++ byteCells (34 :: (s.data.toList.take k).flatMap qB) ++ byteCells q)) :
    (m + q.length = (34 :: (s.data.toList.take (k + 1)).flatMap qB).length) ∧ W.ownsRow B 5 1 tv (n + (m + q.length)) (xs ++ byteCells (34 :: (s.data.toList.take (k + 1)).flatMap qB)) := by
  have e : 34 :: (s.data.toList.take (k + 1)).flatMap qB = (34 :: (s.data.toList.take k).flatMap qB) ++ q := by
    rw [take_snocS s k hk, List.flatMap_append]; simp [hq]
  rw [e, byteCells_app, ← List.append_assoc, ← Nat.add_assoc]
  exact ⟨by rw [List.length_append, hm], h⟩

set_option maxRecDepth 100000 in
set_option maxHeartbeats 2000000 in
theorem appendQuoted_any (B n : Nat) (sv : Value) (xs : List Value) (s : ByteArray) (hs : s.size ≤ 1000000) (hn : n ≤ 1000000000) (w : World) (hown : w.ownsRow B 5 1 sv n xs) (hB : B ≤ w.heap.size) :
    Calls Tryz.prog 69 #[sv, .string s] w (QuotedPost B n xs (quoted s.data.toList) w) := by
  obtain ⟨i0, hi, hz0, hz1, hz2⟩ := info_parts infoB
  go_enter Tryz.func69, Tryz.ntmps69
  go_wp2_with (at_builtin; refine wpList_append_bytes rfl _ _ rfl B _ n xs rfl (hown.alloc _) ⟨w.heap.size, 0, none⟩ 1 1 [34] rfl rfl (cells_new _ _ _) (by omega) (by simp <;> omega) ?_; intro v1 w1 hown1 hb1 _)
  have hB1 : Below B w w1 := ((Below.refl B w).alloc hB _).trans hb1
  clear hb1 hown
  go_loopw [0, 12] (fun tv x wr => ∃ (k m : Nat), x = .int .i64 k ∧ k ≤ s.size ∧ m ≤ 1 + 4 * k ∧ Hid (m = (34 :: (s.data.toList.take k).flatMap qB).length) ∧ wr.ownsRow B 5 1 tv (n + m) (xs ++ byteCells (34 :: (s.data.toList.take k).flatMap qB)) ∧ Below B w wr) (fun _ x _ => s.size - (RowKit.intOf x).toNat)
  case atStart => exact ⟨0, 1, rfl, Nat.zero_le _, by omega, rfl, by simpa using hown1, hB1⟩
  case round =>
    clear hown1 hB1
    obtain ⟨k, m, rfl, hk, hml, hm, hrow, hBk⟩ := hrel
    have hBs := hBk.size
    by_cases hlt : k < s.size
    · have hi0 : (0 : Int) ≤ (k : Int) := by omega
      have hi1 : (k : Int) < (s.size : Int) := by omega
      have hb256 : s[k].toNat < 256 := s[k].toNat_lt
      by_cases h34 : s[k].toNat = 34
      · have hq : qB s[k] = [92, s[k]] := by unfold qB; rw [if_pos (.inl h34)]
        have HQ := Lib.hid hq
        have d1 : ((s[k].toNat : Int) == 34) = true := by rw [beq_iff_eq]; omega
        clear hq h34 hb256
        go_wp2_with (at_builtin; refine wpList_append_bytes rfl _ _ rfl B _ (n + m) _ rfl (hrow.alloc _) ⟨wr.heap.size, 0, none⟩ 2 2 [92, s[k]] rfl rfl (cells_new _ _ _) (by omega) (by simp <;> omega) ?_; intro v2 w2 hown2 hb2 _)
        have hB2 : Below B w w2 := (hBk.alloc (Nat.le_trans hB hBs) _).trans hb2
        obtain ⟨e1, e2⟩ := quote_next hlt hm.out HQ.out hown2
        exact ⟨⟨k + 1, m + 2, by go_num, by omega, by omega, e1, e2, hB2⟩, by simp [RowKit.intOf]; omega⟩
      · have d1 : ((s[k].toNat : Int) == 34) = false := by rw [beq_eq_false_iff_ne]; omega
        by_cases h92 : s[k].toNat = 92
        · have hq : qB s[k] = [92, s[k]] := by unfold qB; rw [if_pos (.inr h92)]
          have HQ := Lib.hid hq
          have d2 : ((s[k].toNat : Int) == 92) = true := by rw [beq_iff_eq]; omega
          clear hq h34 h92 hb256
          go_wp2_with (at_builtin; refine wpList_append_bytes rfl _ _ rfl B _ (n + m) _ rfl (hrow.alloc _) ⟨wr.heap.size, 0, none⟩ 2 2 [92, s[k]] rfl rfl (cells_new _ _ _) (by omega) (by simp <;> omega) ?_; intro v2 w2 hown2 hb2 _)
          have hB2 : Below B w w2 := (hBk.alloc (Nat.le_trans hB hBs) _).trans hb2
          obtain ⟨e1, e2⟩ := quote_next hlt hm.out HQ.out hown2
          exact ⟨⟨k + 1, m + 2, by go_num, by omega, by omega, e1, e2, hB2⟩, by simp [RowKit.intOf]; omega⟩
        · have d2 : ((s[k].toNat : Int) == 92) = false := by rw [beq_eq_false_iff_ne]; omega
          have hno : ¬ (s[k].toNat = 34 ∨ s[k].toNat = 92) := by omega
          by_cases h10 : s[k].toNat = 10
          · have hq : qB s[k] = [92, 110] := by unfold qB; rw [if_neg hno, if_pos h10]
            have HQ := Lib.hid hq
            have d3 : ((s[k].toNat : Int) == 10) = true := by rw [beq_iff_eq]; omega
            clear hq h34 h92 h10 hno hb256
            go_wp2_with (at_builtin; refine wpList_append_bytes rfl _ _ rfl B _ (n + m) _ rfl (hrow.alloc _) ⟨wr.heap.size, 0, none⟩ 2 2 [92, 110] rfl rfl (cells_new _ _ _) (by omega) (by simp <;> omega) ?_; intro v2 w2 hown2 hb2 _)
            have hB2 : Below B w w2 := (hBk.alloc (Nat.le_trans hB hBs) _).trans hb2
            obtain ⟨e1, e2⟩ := quote_next hlt hm.out HQ.out hown2
            exact ⟨⟨k + 1, m + 2, by go_num, by omega, by omega, e1, e2, hB2⟩, by simp [RowKit.intOf]; omega⟩
          · have d3 : ((s[k].toNat : Int) == 10) = false := by rw [beq_eq_false_iff_ne]; omega
            by_cases hx : s[k].toNat < 32 ∨ 126 < s[k].toNat
            · have hq : qB s[k] = [92, 120, UInt8.ofNat (hexd (s[k].toNat / 16)), UInt8.ofNat (hexd (s[k].toNat % 16))] := by unfold qB; rw [if_neg hno, if_neg h10, if_pos hx]
              have HQ := Lib.hid hq
              have hx1 : ∀ W, (Instr.index 9 (.string ⟨#[48, 49, 50, 51, 52, 53, 54, 55, 56, 57, 97, 98, 99, 100, 101, 102]⟩) (.int .u8 ((s[k].toNat : Int) / 16))).run Tryz.prog W = .ok (.int .u8 ((UInt8.ofNat (hexd (s[k].toNat / 16))).toNat : Int)) W := fun W => by have := hex_index (s[k].toNat / 16) (by omega) W; rwa [Int.natCast_ediv] at this
              have hx2 : ∀ W, (Instr.index 9 (.string ⟨#[48, 49, 50, 51, 52, 53, 54, 55, 56, 57, 97, 98, 99, 100, 101, 102]⟩) (.int .u8 (bits BinOp.and IntKind.u8 (s[k].toNat : Int) 15))).run Tryz.prog W = .ok (.int .u8 ((UInt8.ofNat (hexd (s[k].toNat % 16))).toNat : Int)) W := fun W => by rw [and15 _ hb256]; exact hex_index (s[k].toNat % 16) (by omega) W
              clear hq h34 h92 h10 hno hb256
              rcases hx with hx | hx
              · have hx' : (s[k].toNat : Int) < 32 := by omega
                clear hx
                go_wp2_with fail
                go_region_law (refine step_append_lies _ rfl _ _ 48 rfl B 5 i0 (.int .u8 0) 1 1 Tryz.underlying48 hi hz0 hz1 hz2 rfl (by decide) _ _ _ rfl (hrow.alloc _) ⟨wr.heap.size, 0, none⟩ 4 4 (byteCells [92, 120, UInt8.ofNat (hexd (s[k].toNat / 16)), UInt8.ofNat (hexd (s[k].toNat % 16))]) rfl rfl (cells_new _ _ _) (by simp [byteCells, Value.oneCell']) (by decide) (by unfold maxLen; omega) (by omega) (by simp <;> omega) (wr.heap.size + 1) (by simp) ?_; intro g' cap' w5 hown' hgrow hor hlt5)
                all_goals
                  have hB5 : Below B w w5 := by
                    first
                      | exact (hBk.drew.alloc (Nat.le_trans hB hBs) _).grown hgrow (by simp <;> omega) (fun k e => (hrow.lt k e).1)
                      | exact (hBk.alloc (Nat.le_trans hB hBs) _).grown hgrow (by simp <;> omega) (fun k e => (hrow.lt k e).1)
                  clear hx1 hx2
                  go_wp2_with fail
                  obtain ⟨e1, e2⟩ := quote_next hlt hm.out HQ.out hown'
                  exact ⟨⟨k + 1, m + 4, by go_num, by omega, by omega, e1, e2, hB5⟩, by simp [RowKit.intOf]; omega⟩
              · have hx' : 126 < (s[k].toNat : Int) := by omega
                have dx1 : decide ((s[k].toNat : Int) < 32) = false := by simp; omega
                clear hx
                go_wp2_with fail
                go_region_law (refine step_append_lies _ rfl _ _ 48 rfl B 5 i0 (.int .u8 0) 1 1 Tryz.underlying48 hi hz0 hz1 hz2 rfl (by decide) _ _ _ rfl (hrow.alloc _) ⟨wr.heap.size, 0, none⟩ 4 4 (byteCells [92, 120, UInt8.ofNat (hexd (s[k].toNat / 16)), UInt8.ofNat (hexd (s[k].toNat % 16))]) rfl rfl (cells_new _ _ _) (by simp [byteCells, Value.oneCell']) (by decide) (by unfold maxLen; omega) (by omega) (by simp <;> omega) (wr.heap.size + 1) (by simp) ?_; intro g' cap' w5 hown' hgrow hor hlt5)
                all_goals
                  have hB5 : Below B w w5 := by
                    first
                      | exact (hBk.drew.alloc (Nat.le_trans hB hBs) _).grown hgrow (by simp <;> omega) (fun k e => (hrow.lt k e).1)
                      | exact (hBk.alloc (Nat.le_trans hB hBs) _).grown hgrow (by simp <;> omega) (fun k e => (hrow.lt k e).1)
                  clear hx1 hx2
                  go_wp2_with fail
                  obtain ⟨e1, e2⟩ := quote_next hlt hm.out HQ.out hown'
                  exact ⟨⟨k + 1, m + 4, by go_num, by omega, by omega, e1, e2, hB5⟩, by simp [RowKit.intOf]; omega⟩
            · have hq : qB s[k] = [s[k]] := by unfold qB; rw [if_neg hno, if_neg h10, if_neg hx]
              have HQ := Lib.hid hq
              have hx1 : (32 : Int) ≤ (s[k].toNat : Int) := by omega
              have hx2 : (s[k].toNat : Int) ≤ 126 := by omega
              have dx1 : decide ((s[k].toNat : Int) < 32) = false := by simp; omega
              have dx2 : decide (126 < (s[k].toNat : Int)) = false := by simp; omega
              clear hq h34 h92 h10 hno hb256 hx
              go_wp2_with (at_builtin; refine wpList_append_bytes rfl _ _ rfl B _ (n + m) _ rfl (hrow.alloc _) ⟨wr.heap.size, 0, none⟩ 1 1 [s[k]] rfl rfl (cells_new _ _ _) (by omega) (by simp <;> omega) ?_; intro v2 w2 hown2 hb2 _)
              have hB2 : Below B w w2 := (hBk.alloc (Nat.le_trans hB hBs) _).trans hb2
              obtain ⟨e1, e2⟩ := quote_next hlt hm.out HQ.out hown2
              exact ⟨⟨k + 1, m + 1, by go_num, by omega, by omega, e1, e2, hB2⟩, by simp [RowKit.intOf]; omega⟩
    · have hke : k = s.size := by omega
      have hge : s.size ≤ k := by omega
      have HQ := Lib.hid (show n + m + 1 = n + (quoted s.data.toList).length ∧ xs ++ byteCells (34 :: (s.data.toList.take k).flatMap qB) ++ byteCells [34] = xs ++ byteCells (quoted s.data.toList) by
        have hta : s.data.toList.take k = s.data.toList := by rw [hke]; exact List.take_of_length_le (by simp)
        have hm' := hm.out
        rw [hta] at hm' ⊢
        constructor
        · rw [hm']; simp [quoted]; omega
        · rw [List.append_assoc, ← byteCells_app]; simp [quoted])
      clear hke
      go_wp2_with (at_builtin; refine wpList_append_bytes rfl _ _ rfl B _ (n + m) _ rfl (hrow.alloc _) ⟨wr.heap.size, 0, none⟩ 1 1 [34] rfl rfl (cells_new _ _ _) (by omega) (by simp <;> omega) ?_; intro v2 w2 hown2 hb2 _)
      have hB2 : Below B w w2 := (hBk.alloc (Nat.le_trans hB hBs) _).trans hb2
      go_ret
      exact ⟨_, rfl, by rw [← HQ.out.1, ← HQ.out.2]; exact hown2, hB2⟩
#print axioms appendQuoted_any
end Go.Proofs.YtledgnolmiecfaaGreatDoor
