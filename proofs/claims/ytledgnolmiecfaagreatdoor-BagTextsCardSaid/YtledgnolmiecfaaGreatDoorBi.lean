/-
  strings.Lines as an iterator: the lines, one by one.
-/
import Derived.Test.YtledgnolmiecfaaGreatDoorBl
import Derived.Test.YtledgnolmiecfaaGreatDoorJK
import Derived.Test.YtledgnolmiecfaaGreatDoorKp
import Derived.Test.YtledgnolmiecfaaGreatDoorLaid
import Derived.Lib.IndexMore
import Derived.RangeFuncCalls
import Derived.RangeFuncBound
import Derived.OrdersIn
import Derived.TacticsIn
import Derived.LoopIn
import Derived.Stop.RegionWithIn
import Derived.LoopNIn
namespace Go.Proofs.YtledgnolmiecfaaGreatDoor
open Go.RowKit
set_option linter.unusedSimpArgs false
set_option linter.unusedVariables false
attribute [local go_sem] Oper.semAt_some

/-- Block B lies as it lay. -/
structure KeepC (B : Nat) (W W' : World) : Prop where
  size : W.heap.size ≤ W'.heap.size
  block : B < W.heap.size → W'.heap[B]? = W.heap[B]?
theorem KeepC.trans {B : Nat} {X Y Z : World} (h : KeepC B X Y) (k : KeepC B Y Z) : KeepC B X Z :=
  ⟨Nat.le_trans h.size k.size, fun hl => (k.block (Nat.lt_of_lt_of_le hl h.size)).trans (h.block hl)⟩
theorem grown_setS (W : World) (B : Nat) (v : Value) : W.grownBy (W.setCell ⟨B, 0, none⟩ v) (some B) :=
  ⟨rfl, rfl, rfl, by simp [World.setCell], fun k hk hne => Below.heap_setCell W ⟨B, 0, none⟩ v k (by rintro rfl; exact hne rfl)⟩
theorem grown_drewS {W W' : World} {r : Option Nat} (h : W.grownBy W' r) : W.grownBy W'.drew r := ⟨h.os, h.tape, h.output, h.size, h.block⟩
def encS (x : ByteArray) : Array Value := #[.string x]
def OkS (k : Nat) (_ : List ByteArray) (x : ByteArray) (_ : World) : Prop := x.size ≤ k
def strSize (W : World) (B : Nat) : Nat := match W.cell? ⟨B, 0, none⟩ with
  | some (.string c) => c.size
  | _ => 0
def bytesL (ws : List ByteArray) : List (List UInt8) := ws.map (·.data.toList)
theorem bytesL_snoc (ws : List ByteArray) (x : ByteArray) : bytesL (ws ++ [x]) = bytesL ws ++ [x.data.toList] := by simp [bytesL]
theorem ix_cases (l : List UInt8) : (Lib.indexByte l 10 = -1 ∧ (10 : UInt8) ∉ l) ∨ ∃ a r, l = a ++ 10 :: r ∧ (10 : UInt8) ∉ a ∧ Lib.indexByte l 10 = (a.length : Int) := by
  induction l with
  | nil => exact .inl ⟨rfl, by simp⟩
  | cons b l ih =>
    by_cases hb : b = 10
    · subst hb
      exact .inr ⟨[], l, rfl, by simp, by simp [Lib.indexByte]⟩
    · have hb2 : (b == (10 : UInt8)) = false := by simpa using hb
      unfold Lib.indexByte
      rcases ih with ⟨h1, h2⟩ | ⟨a, r, h1, h2, h3⟩
      · refine .inl ⟨by rw [hb2, h1]; rfl, ?_⟩
        intro h
        rcases List.mem_cons.1 h with h | h
        · exact hb h.symm
        · exact h2 h
      · refine .inr ⟨b :: a, r, by rw [h1]; rfl, ?_, ?_⟩
        · intro h
          rcases List.mem_cons.1 h with h | h
          · exact hb h.symm
          · exact h2 h
        · rw [hb2, h3]
          have : ((a.length : Int) == -1) = false := by rw [beq_eq_false_iff_ne]; omega
          rw [this]
          simp
theorem ext_first {s : ByteArray} {a r : List UInt8} (h : s.data.toList = a ++ 10 :: r) : (s.extract 0 (a.length + 1)).data.toList = a ++ [10] ∧ (s.extract (a.length + 1) s.size).data.toList = r ∧ s.size = a.length + 1 + r.length := by
  have hl : s.data.toList.length = s.size := by simp
  refine ⟨?_, ?_, by rw [← hl, h]; simp; omega⟩
  · rw [ByteArray.data_extract, Array.toList_extract, List.extract_eq_take_drop, h]
    rw [show a ++ 10 :: r = (a ++ [10]) ++ r by simp, List.drop_zero, List.take_left' (by simp)]
  · rw [ByteArray.data_extract, Array.toList_extract, List.extract_eq_take_drop, h, ← hl, h]
    rw [show a ++ 10 :: r = (a ++ [10]) ++ r by simp, List.drop_left' (by simp)]
    apply List.take_of_length_le
    simp
    omega

set_option maxRecDepth 100000 in
set_option maxHeartbeats 4000000 in
theorem lines_in (n : Nat) (hn : 2 ≤ n) (B : Nat) (s : ByteArray) (hs : s.size ≤ 65536) (w : World) (hK : Blk w B 9 #[.string s]) :
    SeqBX Fence.wide n Tryz.prog 36 #[.pointer (some ⟨B, 0, none⟩)] encS B (KeepC B) (OkS s.size) (fun xs => bytesL xs = linesT s.data.toList) (fun pre => ∃ rest, bytesL pre ++ rest = linesT s.data.toList) w := by
  intro l J Jx W hW hJ hJx hY h0
  have hKW : Blk W B 9 #[.string s] := hK.belowV hW hK.lt
  have HY := Lib.hid hY
  have HJ := Lib.hid hJ
  have HKW := Lib.hid hKW
  clear hY hK hJ hJx hKW
  refine callsIn_of_wp Tryz.func36 rfl trivial ?_ rfl
  simp only [Tryz.ntmps36, List.size_toArray, List.length_cons, List.length_nil, Nat.reduceAdd, Nat.reduceSub, Array.replicate_succ, Array.replicate_zero, List.push_toArray, List.append_toArray, List.nil_append, List.cons_append]
  gi_wp2_with fail
  gi_loopw [3, 4] (fun _ _ wr => ∃ (cur : ByteArray) (pre : List ByteArray), cur.size ≤ s.size ∧ Hid (bytesL pre ++ linesT cur.data.toList = linesT s.data.toList) ∧ Hid (J pre wr) ∧ Hid (Blk wr B 9 #[.string cur]))
    (fun _ _ W' => strSize W' B)
  case atStart =>
    exact ⟨s, [], Nat.le_refl _, rfl, h0, HKW.out⟩
  case round =>
    clear HKW h0
    obtain ⟨cur, pre, hcs, HPC, HJi, HKB⟩ := hrel
    have cB : wr.cell? ⟨B, 0, none⟩ = some (.string cur) := HKB.out.cell 0
    have hsz0 : strSize wr B = cur.size := by unfold strSize; rw [cB]
    have hl : cur.data.toList.length = cur.size := by simp
    by_cases hz : cur.size = 0
    · have hz0 : ¬ (0 : Int) < (cur.size : Int) := by omega
      have HN := Lib.hid (show cur.data.toList = [] from List.length_eq_zero_iff.1 (by omega))
      clear hl hz
      gi_wp2_with fail
      go_end0
      refine ⟨⟨_, rfl⟩, .inl ⟨pre, ?_, HJi.out⟩⟩
      rw [← HPC.out, HN.out, lines_nil, List.append_nil]
    · have hz0 : (0 : Int) < (cur.size : Int) := by omega
      have hne : cur.data.toList ≠ [] := fun e => hz (by rw [← hl, e]; rfl)
      have HI := Lib.hid (Tryz.strings_IndexByte cur 10 wr)
      rw [show (10 : Int).toNat.toUInt8 = 10 from rfl] at HI
      have f0 := HKB.out.froz 0
      rcases ix_cases cur.data.toList with ⟨hix, hno⟩ | ⟨a, r, hcr, hno, hix⟩
      · rw [hix] at HI
        have HPM := Lib.hid (show linesT cur.data.toList = [cur.data.toList] by
          rw [lines_cons hne, (first_last hno).1, (first_last hno).2, lines_nil])
        have HN1 := Lib.hid (show J pre (wr.setCell ⟨B, 0, none⟩ (.string ⟨#[]⟩)) ∧ Blk (wr.setCell ⟨B, 0, none⟩ (.string ⟨#[]⟩)) B 9 #[.string ⟨#[]⟩] from
          ⟨HJ.out _ _ _ HJi.out (grown_setS wr B _), HKB.out.setG 0 _⟩)
        clear hne hno hix hl hz HKB
        gi_wp2_with fail
        refine ⟨trivial, fun _ => by omega, (callsIn_wide.2 HI.out).mono ?_⟩
        rintro e w1 ⟨rfl, rfl⟩
        clear HI
        gi_wp2_with fail
        have HYc := Lib.hid (HY.out pre cur _ HN1.out.1 hcs)
        obtain ⟨fn, tmps, assign, body, hy, hR⟩ := HYc.out
        dsimp only [encS] at hy
        go_simp
        refine ⟨fun _ => by omega, hR.mono ?_⟩
        rintro e w4 (⟨rfl, hJ4, hk4⟩ | ⟨rfl, hJ4⟩)
        · have HN4 := Lib.hid (And.intro hJ4 (show Blk w4 B 9 #[.string ⟨#[]⟩] from (hk4.block HN1.out.2.lt).trans HN1.out.2))
          have HPC2 := Lib.hid (show bytesL (pre ++ [cur]) ++ linesT [] = linesT s.data.toList by rw [← HPC.out, HPM.out, lines_nil]; simp [bytesL])
          clear hJ4 hk4 hy hR
          go_simp
          gi_wp2_with fail
          go_roundw
          case rel => exact ⟨⟨#[]⟩, pre ++ [cur], Nat.zero_le _, HPC2.out, HN4.out.1, HN4.out.2⟩
          case measure =>
            have e0 : strSize w4 B = 0 := by unfold strSize; rw [show World.cell? _ _ = _ from HN4.out.2.cell 0]; rfl
            rw [hsz0, e0]
            omega
        · clear hy hR
          go_simp
          gi_wp2_with fail
          refine bodyPost_ret (results_none rfl _ _ _) rfl ?_
          exact ⟨⟨_, rfl⟩, .inr ⟨pre ++ [cur], ⟨[], by rw [← HPC.out, HPM.out]; simp [bytesL]⟩, hJ4⟩⟩
      · rw [hix] at HI
        obtain ⟨x1, x2, x3⟩ := ext_first hcr
        have HPM := Lib.hid (show linesT cur.data.toList = (a ++ [10]) :: linesT r by
          rw [lines_cons hne, hcr, (first_line hno).1, (first_line hno).2])
        have HX := Lib.hid (And.intro x1 (And.intro x2 x3))
        obtain ⟨i, hi⟩ : ∃ i, i = a.length := ⟨_, rfl⟩
        rw [← hi] at HI HX
        have hi2 : i + 1 ≤ cur.size := by rw [hi]; omega
        have q1 : IntKind.i64.wrap ((i : Int) + 1) = (i : Int) + 1 := by rw [IntKind.wrap_i64]; omega
        have q0 : (0 : Int) ≤ (i : Int) := by omega
        have q3 : (0 : Int) ≤ (i : Int) + 1 := by omega
        have q4 : (i : Int) + 1 ≤ (cur.size : Int) := by omega
        have HN1 := Lib.hid (show J pre (wr.setCell ⟨B, 0, none⟩ (.string (cur.extract (i + 1) cur.size))).drew ∧ Blk (wr.setCell ⟨B, 0, none⟩ (.string (cur.extract (i + 1) cur.size))).drew B 9 #[.string (cur.extract (i + 1) cur.size)] from
          ⟨HJ.out _ _ _ HJi.out (grown_drewS (grown_setS wr B _)), HKB.out.setG 0 _⟩)
        have HSZ := Lib.hid (show (cur.extract 0 (i + 1)).size ≤ s.size ∧ (cur.extract (i + 1) cur.size).size < cur.size from by simp only [ByteArray.size_extract]; omega)
        clear hne hno hix hl hz HKB x1 x2 x3 hcr hi
        gi_wp2_with fail
        refine ⟨trivial, fun _ => by omega, (callsIn_wide.2 HI.out).mono ?_⟩
        rintro e w1 ⟨rfl, rfl⟩
        clear HI
        gi_wp2_with fail
        gi_region
        all_goals (
          have HYc := Lib.hid (HY.out pre (cur.extract 0 (i + 1)) _ HN1.out.1 HSZ.out.1)
          gi_wp2_with fail
          obtain ⟨fn, tmps, assign, body, hy, hR⟩ := HYc.out
          dsimp only [encS] at hy
          go_simp
          refine ⟨fun _ => by omega, hR.mono ?_⟩
          rintro e w4 (⟨rfl, hJ4, hk4⟩ | ⟨rfl, hJ4⟩)
          · have HN4 := Lib.hid (And.intro hJ4 (show Blk w4 B 9 #[.string (cur.extract (i + 1) cur.size)] from (hk4.block HN1.out.2.lt).trans HN1.out.2))
            have HPC2 := Lib.hid (show bytesL (pre ++ [cur.extract 0 (i + 1)]) ++ linesT (cur.extract (i + 1) cur.size).data.toList = linesT s.data.toList by rw [← HPC.out, HPM.out, HX.out.2.1, bytesL_snoc, HX.out.1, List.append_assoc]; rfl)
            clear hJ4 hk4 hy hR
            go_simp
            gi_wp2_with fail
            go_roundw
            case rel => exact ⟨_, pre ++ [cur.extract 0 (i + 1)], by have := HSZ.out.2; omega, HPC2.out, HN4.out.1, HN4.out.2⟩
            case measure =>
              have e0 : strSize w4 B = (cur.extract (i + 1) cur.size).size := by unfold strSize; rw [show World.cell? _ _ = _ from HN4.out.2.cell 0]; rfl
              have := HSZ.out.2
              rw [hsz0, e0]
              omega
          · clear hy hR
            go_simp
            gi_wp2_with fail
            refine bodyPost_ret (results_none rfl _ _ _) rfl ?_
            exact ⟨⟨_, rfl⟩, .inr ⟨pre ++ [cur.extract 0 (i + 1)], ⟨linesT r, by rw [← HPC.out, HPM.out, bytesL_snoc, HX.out.1, List.append_assoc]; rfl⟩, hJ4⟩⟩)
end Go.Proofs.YtledgnolmiecfaaGreatDoor
