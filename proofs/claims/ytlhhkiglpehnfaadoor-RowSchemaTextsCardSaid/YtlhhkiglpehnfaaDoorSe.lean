/-
  strings.SplitSeq at the separator of a schema's text, as an iterator: the pieces, one by one.
-/
import Derived.Test.YtlhhkiglpehnfaaDoorSd
import Derived.Test.YtlhhkiglpehnfaaDoorRgB
import Derived.Test.YtlhhkiglpehnfaaDoorKp
import Derived.RangeFuncCalls
import Derived.RangeFuncBound
import Derived.OrdersIn
import Derived.TacticsIn
import Derived.LoopIn
import Derived.Stop.RegionWithIn
import Derived.LoopNIn
namespace Go.Proofs.YtlhhkiglpehnfaaDoor
open Go.RowKit
set_option linter.unusedSimpArgs false
set_option linter.unusedVariables false
attribute [local go_sem] Oper.semAt_some

theorem grown_of_belowS {a w : World} (h : Below a.heap.size a w) : a.grownBy w none := ⟨h.os, h.tape, h.output, h.size, fun i hi _ => h.block i hi⟩
/-- Some blocks lie as they lay. -/
structure KeepG (n₀ B TL TG : Nat) (W W' : World) : Prop where
  size : W.heap.size ≤ W'.heap.size
  block : ∀ k, (k < n₀ ∨ k = B ∨ k = TL ∨ k = TG) → k < W.heap.size → W'.heap[k]? = W.heap[k]?
theorem KeepG.trans {n₀ B TL TG : Nat} {X Y Z : World} (h : KeepG n₀ B TL TG X Y) (k : KeepG n₀ B TL TG Y Z) : KeepG n₀ B TL TG X Z :=
  ⟨Nat.le_trans h.size k.size, fun i hi hl => (k.block i hi (Nat.lt_of_lt_of_le hl h.size)).trans (h.block i hi hl)⟩
/-- .. but for B. -/
structure KeepI (n₀ TL TG : Nat) (W W' : World) : Prop where
  size : W.heap.size ≤ W'.heap.size
  block : ∀ k, (k < n₀ ∨ k = TL ∨ k = TG) → k < W.heap.size → W'.heap[k]? = W.heap[k]?
theorem KeepI.refl (n₀ TL TG : Nat) (W : World) : KeepI n₀ TL TG W W := ⟨Nat.le_refl _, fun _ _ _ => rfl⟩
theorem KeepI.trans {n₀ TL TG : Nat} {X Y Z : World} (h : KeepI n₀ TL TG X Y) (k : KeepI n₀ TL TG Y Z) : KeepI n₀ TL TG X Z :=
  ⟨Nat.le_trans h.size k.size, fun i hi hl => (k.block i hi (Nat.lt_of_lt_of_le hl h.size)).trans (h.block i hi hl)⟩
theorem KeepG.i {n₀ B TL TG : Nat} {X Y : World} (h : KeepG n₀ B TL TG X Y) : KeepI n₀ TL TG X Y := ⟨h.size, fun k hk hl => h.block k (by rcases hk with h | h | h <;> simp [h]) hl⟩
theorem keepI_grew {n₀ B TL TG : Nat} {X Y : World} (h : X.grownBy Y (some B)) (hn : n₀ ≤ B) (hL : TL ≠ B) (hG : TG ≠ B) : KeepI n₀ TL TG X Y := ⟨h.size, fun k hk hl => h.block k hl (fun e => by simp only [Option.some.injEq] at e; omega)⟩
theorem KeepI.cell {n₀ TL TG : Nat} {X Y : World} (h : KeepI n₀ TL TG X Y) {k j : Nat} (hk : k < n₀ ∨ k = TL ∨ k = TG) (hl : k < X.heap.size) : Y.cell? ⟨k, j, none⟩ = X.cell? ⟨k, j, none⟩ := by
  simp only [World.cell?, h.block k hk hl]
theorem grown_setS (W : World) (B : Nat) (v : Value) : W.grownBy (W.setCell ⟨B, 0, none⟩ v) (some B) :=
  ⟨rfl, rfl, rfl, by simp [World.setCell], fun k hk hne => Below.heap_setCell W ⟨B, 0, none⟩ v k (by rintro rfl; exact hne rfl)⟩

theorem splitSeq_any (s sep : ByteArray) (w : World) :
    Calls Tryd.prog 28 #[.string s, .string sep, .int .i64 0] w fun e w' => e = .returned (.func (.func 37) #[] #[.pointer (some ⟨w.heap.size + 1, 0, none⟩), .pointer (some ⟨w.heap.size, 0, none⟩), .pointer (some ⟨w.heap.size + 2, 0, none⟩)]) ∧ w' = ((w.alloc (.cells #[.string s] 9)).alloc (.cells #[.string sep] 9)).alloc (.cells #[.int .i64 0] 3) := by
  go_enter Tryd.func28, Tryd.ntmps28
  go_wp2
  go_ret
  exact ⟨rfl, rfl⟩
theorem SplitSeq_any (s sep : ByteArray) (w : World) :
    Calls Tryd.prog 15 #[.string s, .string sep] w fun e w' => e = .returned (.func (.func 37) #[] #[.pointer (some ⟨w.heap.size + 1, 0, none⟩), .pointer (some ⟨w.heap.size, 0, none⟩), .pointer (some ⟨w.heap.size + 2, 0, none⟩)]) ∧ w' = ((w.alloc (.cells #[.string s] 9)).alloc (.cells #[.string sep] 9)).alloc (.cells #[.int .i64 0] 3) := by
  go_enter Tryd.func15, Tryd.ntmps15
  go_wp2_with fail
  refine (splitSeq_any s sep _).mono ?_
  rintro e w1 ⟨rfl, rfl⟩
  go_wp2_with fail
  go_ret
  exact ⟨rfl, rfl⟩
def encS (x : ByteArray) : Array Value := #[.string x]
def OkS (k : Nat) (pre : List ByteArray) (x : ByteArray) (_ : World) : Prop := x.size ≤ k ∧ pre.length ≤ k
def strSize (W : World) (B : Nat) : Nat := match W.cell? ⟨B, 0, none⟩ with
  | some (.string c) => c.size
  | _ => 0
def bytesL (ws : List ByteArray) : List (List UInt8) := ws.map (·.data.toList)
theorem pieces_hit {n i : Nat} {cur : ByteArray} (h : Lib.index cur.data.toList [44, 32] = (i : Int)) : pieces (n + 1) cur.data.toList = (cur.extract 0 i).data.toList :: pieces n (cur.extract (i + 2) cur.size).data.toList := by
  have hl : cur.data.toList.length = cur.size := by simp
  have e1 : (cur.extract (i + 2) cur.size).data.toList = cur.data.toList.drop (i + 2) := by
    rw [ByteArray.data_extract, Array.toList_extract, List.extract_eq_take_drop]
    apply List.take_of_length_le
    rw [List.length_drop, hl]
    exact Nat.le_refl _
  have e2 : (cur.extract 0 i).data.toList = cur.data.toList.take i := by
    rw [ByteArray.data_extract, Array.toList_extract, List.extract_eq_take_drop]; simp
  rw [e1, e2]
  show (if 0 ≤ Lib.index cur.data.toList [44, 32] then cur.data.toList.take (Lib.index cur.data.toList [44, 32]).toNat :: pieces n (cur.data.toList.drop ((Lib.index cur.data.toList [44, 32]).toNat + 2)) else [cur.data.toList]) = _
  rw [h, if_pos (by omega), Int.toNat_natCast]
theorem pieces_miss {n : Nat} {cur : ByteArray} (h : Lib.index cur.data.toList [44, 32] = -1) : pieces n cur.data.toList = [cur.data.toList] := by
  cases n with
  | zero => rfl
  | succ n => unfold pieces; rw [h, if_neg (by decide)]

set_option maxRecDepth 100000 in
set_option maxHeartbeats 4000000 in
theorem split_in (n : Nat) (hn : 2 ≤ n) (n₀ B TP TV : Nat) (m : Int) (s : ByteArray) (hs : s.size ≤ 65536) (w : World) (hnB : n₀ ≤ B) (hnw : n₀ ≤ w.heap.size) (hTP : TP < w.heap.size) (hTV : TV < w.heap.size) (hPB : TP ≠ B) (hVB : TV ≠ B)
    (hK : Blk w B 9 #[.string s]) (hP : w.cell? ⟨TP, 0, none⟩ = some (.string ⟨#[44, 32]⟩)) (hV : w.cell? ⟨TV, 0, none⟩ = some (.int .i64 0)) (hM : w.cell? ⟨0, 0, none⟩ = some (.int .i64 m)) (hMn : 0 < n₀) :
    SeqB Fence.wide n Tryd.prog 37 #[.pointer (some ⟨TP, 0, none⟩), .pointer (some ⟨B, 0, none⟩), .pointer (some ⟨TV, 0, none⟩)] encS B (KeepG n₀ B TP TV) (OkS s.size) (fun xs => bytesL xs = pieces s.size s.data.toList) w := by
  intro l J W hW hJ hY h0
  have hcP : W.cell? ⟨TP, 0, none⟩ = some (.string ⟨#[44, 32]⟩) := (hW.cell (p := ⟨TP, 0, none⟩) hTP).trans hP
  have hcV : W.cell? ⟨TV, 0, none⟩ = some (.int .i64 0) := (hW.cell (p := ⟨TV, 0, none⟩) hTV).trans hV
  have hcM : W.cell? ⟨0, 0, none⟩ = some (.int .i64 m) := (hW.cell (p := ⟨0, 0, none⟩) (by show 0 < _; omega)).trans hM
  have hKW : Blk W B 9 #[.string s] := hK.belowV hW hK.lt
  have hTP2 : TP < W.heap.size := Nat.lt_of_lt_of_le hTP hW.size
  have hTV2 : TV < W.heap.size := Nat.lt_of_lt_of_le hTV hW.size
  have hnW : n₀ ≤ W.heap.size := Nat.le_trans hnw hW.size
  have HY := Lib.hid hY
  have HJ := Lib.hid hJ
  have HKW := Lib.hid hKW
  have HM := Lib.hid hcM
  have HPV := Lib.hid (And.intro hcP hcV)
  have HBL := Lib.hid hKW.lt
  clear hY hK hP hV hM hJ hKW hcM
  refine callsIn_of_wp Tryd.func37 rfl trivial ?_ rfl
  simp only [Tryd.ntmps37, List.size_toArray, List.length_cons, List.length_nil, Nat.reduceAdd, Nat.reduceSub, Array.replicate_succ, Array.replicate_zero, List.push_toArray, List.append_toArray, List.nil_append, List.cons_append]
  gi_wp2_with fail
  gi_loopw [7] (fun _ wr => ∃ (cur : ByteArray) (k : Nat) (pre : List ByteArray), cur.size ≤ k ∧ pre.length + k ≤ s.size ∧ Hid (bytesL pre ++ pieces k cur.data.toList = pieces s.size s.data.toList) ∧ Hid (J pre wr) ∧ Hid (Blk wr B 9 #[.string cur]) ∧ Hid (KeepI n₀ TP TV W wr))
    (fun _ W' => strSize W' B)
  case atStart =>
    exact ⟨s, s.size, [], Nat.le_refl _, Nat.le_of_eq (Nat.zero_add _), rfl, h0, HKW.out, KeepI.refl _ _ _ _⟩
  case round =>
    clear HKW h0
    obtain ⟨cur, k, pre, hck, hpk, HPC, HJi, HKB, HKI⟩ := hrel
    have cB : wr.cell? ⟨B, 0, none⟩ = some (.string cur) := HKB.out.cell 0
    have cP := (HKI.out.cell (j := 0) (.inr (.inl rfl)) hTP2).trans HPV.out.1
    have cV := (HKI.out.cell (j := 0) (.inr (.inr rfl)) hTV2).trans HPV.out.2
    have cM := (HKI.out.cell (j := 0) (.inl hMn) (by omega)).trans HM.out
    have HI := Lib.hid (Tryd.strings_Index cur ⟨#[44, 32]⟩ m wr (by omega) cM)
    have hsz0 : strSize wr B = cur.size := by unfold strSize; rw [cB]
    have hge := Lib.index_ge cur.data.toList [44, 32]
    have hroom := Lib.index_room cur.data.toList [44, 32]
    have hl : cur.data.toList.length = cur.size := by simp
    rw [hl] at hroom
    rw [show (⟨#[44, 32]⟩ : ByteArray).data.toList = [44, 32] from rfl] at HI
    clear cM
    by_cases hneg : Lib.index cur.data.toList [44, 32] = -1
    · have HPM := Lib.hid (pieces_miss (n := k) hneg)
      rw [hneg] at HI
      clear hge hroom hl hneg
      have HYc := Lib.hid (HY.out pre cur wr HJi.out ⟨by omega, by omega⟩)
      gi_wp2_with fail
      refine ⟨trivial, fun _ => by omega, (callsIn_wide.2 HI.out).mono ?_⟩
      rintro e w1 ⟨rfl, rfl⟩
      clear HI
      gi_wp2_with fail
      obtain ⟨fn, tmps, assign, body, hy, hR⟩ := HYc.out
      dsimp only [encS] at hy
      go_simp
      refine ⟨fun _ => by omega, hR.mono ?_⟩
      rintro e w4 ⟨rfl, hJ4, hk4⟩
      have HJ4 := Lib.hid hJ4
      clear hJ4 hk4 hy hR
      go_simp
      gi_wp2_with fail
      go_end0
      refine ⟨⟨_, rfl⟩, pre ++ [cur], ?_, HJ4.out⟩
      rw [← HPC.out, HPM.out]
      simp [bytesL]
    · obtain ⟨i, hi⟩ : ∃ i : Nat, Lib.index cur.data.toList [44, 32] = (i : Int) := Int.eq_ofNat_of_zero_le (by omega)
      have hr := hroom (by omega)
      rw [hi] at hr HI
      have hr2 : i + 2 ≤ cur.size := by simp only [List.length_cons, List.length_nil] at hr; omega
      obtain ⟨k', rfl⟩ : ∃ k', k = k' + 1 := ⟨k - 1, by omega⟩
      have HPH := Lib.hid (pieces_hit (n := k') hi)
      clear hge hroom hl hneg hr hi
      have hi0 : (0 : Int) ≤ (i : Int) := by omega
      have q0 : IntKind.i64.wrap ((i : Int) + 0) = (i : Int) := by rw [IntKind.wrap_i64]; omega
      have q1 : IntKind.i64.wrap (i : Int) = (i : Int) := by rw [IntKind.wrap_i64]; omega
      have q2 : IntKind.i64.wrap ((i : Int) + 2) = (i : Int) + 2 := by rw [IntKind.wrap_i64]; omega
      have q3 : (i : Int) ≤ (cur.size : Int) := by omega
      have q4 : (i : Int) + 2 ≤ (cur.size : Int) := by omega
      have q5 : (0 : Int) ≤ (i : Int) + 2 := by omega
      have hn0 : ¬ ((i : Int) < 0) := by omega
      gi_wp2_with fail
      refine ⟨trivial, fun _ => by omega, (callsIn_wide.2 HI.out).mono ?_⟩
      rintro e w1 ⟨rfl, rfl⟩
      clear HI
      have HYc := Lib.hid (HY.out pre (cur.extract 0 i) w1 HJi.out ⟨by rw [ByteArray.size_extract]; omega, by omega⟩)
      gi_wp2_with fail
      obtain ⟨fn, tmps, assign, body, hy, hR⟩ := HYc.out
      dsimp only [encS] at hy
      go_simp
      refine ⟨fun _ => by omega, hR.mono ?_⟩
      rintro e w4 ⟨rfl, hJ4, hk4⟩
      have hKB4 : Blk w4 B 9 #[.string cur] := (hk4.block B (.inr (.inl rfl)) HKB.out.lt).trans HKB.out
      have d0 : w4.cell? ⟨B, 0, none⟩ = some (.string cur) := hKB4.cell 0
      have d1 := hKB4.froz 0
      have hI4 := HKI.out.trans hk4.i
      have d2 := (hI4.cell (j := 0) (.inr (.inl rfl)) hTP2).trans HPV.out.1
      have HN4 := Lib.hid (show J (pre ++ [cur.extract 0 i]) (w4.setCell ⟨B, 0, none⟩ (.string (cur.extract (i + 2) cur.size))) ∧ Blk (w4.setCell ⟨B, 0, none⟩ (.string (cur.extract (i + 2) cur.size))) B 9 #[.string (cur.extract (i + 2) cur.size)] ∧ KeepI n₀ TP TV W (w4.setCell ⟨B, 0, none⟩ (.string (cur.extract (i + 2) cur.size))) from
        ⟨HJ.out _ _ _ hJ4 (grown_setS w4 B _), hKB4.setG 0 _, hI4.trans (keepI_grew (grown_setS w4 B _) hnB hPB hVB)⟩)
      have HZ := Lib.hid (show (cur.extract (i + 2) cur.size).size ≤ k' ∧ (cur.extract (i + 2) cur.size).size < cur.size from by rw [ByteArray.size_extract]; omega)
      have HPC2 := Lib.hid (show bytesL (pre ++ [cur.extract 0 i]) ++ pieces k' (cur.extract (i + 2) cur.size).data.toList = pieces s.size s.data.toList from by
        rw [← HPC.out, HPH.out]; simp [bytesL])
      clear hJ4 hk4 hy hR hKB4 hI4 HPC HPH HKI HKB
      go_simp
      gi_wp2_with fail
      go_roundw
      case rel => exact ⟨cur.extract (i + 2) cur.size, k', pre ++ [cur.extract 0 i], HZ.out.1, by rw [List.length_append]; simp only [List.length_cons, List.length_nil]; omega, HPC2.out, HN4.out.1, HN4.out.2.1, HN4.out.2.2⟩
      case measure =>
        have := HZ.out.2
        have e0 : strSize (w4.setCell ⟨B, 0, none⟩ (.string (cur.extract (i + 2) cur.size))) B = (cur.extract (i + 2) cur.size).size := by unfold strSize; rw [show World.cell? _ _ = _ from HN4.out.2.1.cell 0]; rfl
        rw [hsz0, e0]
        omega
end Go.Proofs.YtlhhkiglpehnfaaDoor
