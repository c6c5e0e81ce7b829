/-
  The reader of package row: quoted.
-/
import Derived.Test.YtmjobnakaamlpaaDoorRe
import Derived.LoopTactic
namespace Go.Proofs.YtmjobnakaamlpaaDoor
open Go.RowKit Go.Lib
set_option linter.unusedSimpArgs false
set_option linter.unusedVariables false

theorem own_grew {W W' : World} {lo n size R : Nat} {e : TypeId} {v : Value} {xs : List Value} (h : W.ownsRow lo e size v n xs) (hg : Grew W R W') (hR : R < lo) : W'.ownsRow lo e size v n xs := by
  refine h.kept hg ?_
  cases hv : v.ownBlock with
  | none => exact .inl rfl
  | some x =>
    refine .inr fun e1 => ?_
    have h1 := (h.lt x hv).1
    simp only [Option.some.injEq] at e1
    omega
theorem grew_low {w w4 w5 : World} {R n : Nat} (h : Grew w R w4) (k : Below n w4 w5) (hn : w.heap.size ≤ n) : Grew w R w5 :=
  ⟨k.os.trans h.os, k.tape.trans h.tape, k.output.trans h.output, Nat.le_trans h.size k.size, fun i hi hne => (k.block i (by omega)).trans (h.block i hi hne)⟩
theorem slice_of_bytes {W : World} {lo n : Nat} {v : Value} {xs : List Value} (h : W.ownsRow lo 5 1 v n xs) : ∃ q cap, v = .slice q n cap := by
  rcases h.2 with ⟨h0, hn⟩ | ⟨g, cap, cur, he, _⟩
  · exact ⟨none, 0, by rw [h0, hn]⟩
  · exact ⟨_, cap, he⟩
theorem q_first (c : UInt8) (r : List UInt8) : Lib.hasPrefix (qB c ++ r) [34] = false := by
  unfold Lib.hasPrefix qB
  split
  · simp [List.isPrefixOf]
  · rename_i hc
    split
    · simp [List.isPrefixOf]
    · split
      · simp [List.isPrefixOf]
      · have e1 : (34 : UInt8) ≠ c := fun e => by subst e; exact hc (by decide)
        simp [List.isPrefixOf, e1]
def lenOf (v : Value) : Nat := match v with
  | .slice _ n _ => n
  | _ => 0
theorem flat_step {l : List UInt8} {k : Nat} (h : k < l.length) (r : List UInt8) : (l.drop k).flatMap qB ++ r = qB l[k] ++ ((l.drop (k + 1)).flatMap qB ++ r) := by
  rw [List.drop_eq_getElem_cons h, List.flatMap_cons, List.append_assoc]
theorem rest_len (l : List UInt8) (k : Nat) (r : List UInt8) : ((l.drop k).flatMap qB ++ r).length ≤ 4 * l.length + r.length := by
  have h1 := flat_len (l.drop k)
  rw [List.length_drop] at h1
  rw [List.length_append]
  omega
def zeroV : Array Value := #[.int .i64 0, .int .i64 0, .string ⟨#[]⟩]

set_option maxRecDepth 100000 in
set_option maxHeartbeats 2000000 in
theorem quoted_good (R : Nat) (l r : List UInt8) (hl : l.length ≤ 200) (hr : r.length ≤ 60000) (w : World) (h : Rdr w R (quoted l ++ r)) :
    Calls Tryd.prog 35 #[.pointer (some ⟨R, 0, none⟩)] w (RdPost w R (.tuple #[.agg #[.int .i64 2, .int .i64 0, .string (bs l)], .bool true]) r) := by
  obtain ⟨i0, hi, hz0, hz1, hz2⟩ := info_parts infoB
  have hRl : R < w.heap.size := Blk.lt h
  have hb1 : Below w.heap.size w (w.alloc (.cells #[.int .i64 0, .int .i64 0, .string ⟨#[]⟩] 37)) := (Below.refl _ _).alloc (Nat.le_refl _) _
  have h1 := h.belowV hb1
  have hk1 : Blk (w.alloc (.cells #[.int .i64 0, .int .i64 0, .string ⟨#[]⟩] 37)) w.heap.size 37 #[.int .i64 0, .int .i64 0, .string ⟨#[]⟩] := Blk.new _ _ _
  have hs1 : (w.alloc (.cells #[.int .i64 0, .int .i64 0, .string ⟨#[]⟩] 37)).heap.size = w.heap.size + 1 := by simp
  have hg1 := grew_below R hb1
  have hq : quoted l ++ r = [34] ++ ((l.drop 0).flatMap qB ++ 34 :: r) := by unfold quoted; simp
  have hy := trim_yes [34] ((l.drop 0).flatMap qB ++ 34 :: r)
  generalize hw1 : w.alloc (.cells #[.int .i64 0, .int .i64 0, .string ⟨#[]⟩] 37) = w1 at h1 hk1 hs1 hg1
  have HT := take_any R (quoted l ++ r) [34] w1 h1
  rw [hq, hy.1, hy.2] at HT
  unfold bs at HT
  simp only [List.toArray] at HT
  have HT := Lib.hid HT
  have HK1 := Lib.hid (And.intro hk1 hg1)
  have HTK := Lib.hid fun W t (h : Rdr W R t) => take_any R t [34] W h
  unfold bs at HTK
  simp only [List.toArray] at HTK
  have HCH := Lib.hid fun W c r' (hr : r'.length ≤ 80000) (h : Rdr W R (qB c ++ r')) => char_good R c r' hr W h
  clear h h1 hk1 hg1 hb1 hq hy
  go_enter Tryd.func35, Tryd.ntmps35
  go_wp2_with fail
  refine HT.out.mono ?_
  rintro e w2 ⟨rfl, r2, k2⟩
  have HR2 := Lib.hid r2
  have HG2 := Lib.hid (HK1.out.2.and k2)
  have HK2 := Lib.hid (HK1.out.1.keepG k2 (by simp only [ne_eq, Option.some.injEq]; omega))
  have hs2 : w.heap.size + 1 ≤ w2.heap.size := by have := k2.size; omega
  clear r2 k2 HT HK1
  go_wp2_with fail
  go_loopw [4] (fun tv wr => ∃ k : Nat, k ≤ l.length ∧ Hid (wr.ownsRow (w.heap.size + 1) 5 1 tv k (byteCells (l.take k))) ∧ Hid (Rdr wr R ((l.drop k).flatMap qB ++ 34 :: r)) ∧ Hid (Grew w R wr) ∧ Hid (Blk wr w.heap.size 37 #[.int .i64 0, .int .i64 0, .string ⟨#[]⟩]) ∧ w.heap.size + 1 ≤ wr.heap.size) (fun tv _ => l.length - lenOf tv)
  case atStart => exact ⟨0, Nat.zero_le _, World.ownsRow_nil _ _ _ _, HR2.out, HG2.out, HK2.out, hs2⟩
  case round =>
    clear HR2 HG2 HK2 hs2
    obtain ⟨k, hkl, HO, HR, HG, HK, hsz⟩ := hrel
    obtain ⟨q, cap, rfl⟩ := slice_of_bytes HO.out
    by_cases hlt : k < l.length
    · have hst := flat_step hlt (34 :: r)
      have hrl := rest_len l (k + 1) (34 :: r)
      have HRW := HR.out
      rw [hst] at HRW
      have HA := HTK.out wr _ HRW
      rw [q_first, trim_no (q_first _ _)] at HA
      have HA := Lib.hid HA
      have htk : l.take (k + 1) = l.take k ++ [l[k]] := List.take_succ_eq_append_getElem hlt
      have HTN := Lib.hid htk
      have HRL := Lib.hid (show ((l.drop (k + 1)).flatMap qB ++ 34 :: r).length ≤ 80000 by simp only [List.length_cons] at hrl; omega)
      clear HRW hst hrl htk HR
      generalize l[k] = c at HA HTN
      go_wp2_with fail
      refine HA.out.mono ?_
      rintro e w3 ⟨rfl, r3, k3⟩
      have HO3 := Lib.hid (own_grew HO.out k3 (by omega))
      have HG3 := Lib.hid (HG.out.and k3)
      have HK3 := Lib.hid (HK.out.keepG k3 (by simp only [ne_eq, Option.some.injEq]; omega))
      have hs3 : w.heap.size + 1 ≤ w3.heap.size := by have := k3.size; omega
      have HB := Lib.hid (HCH.out w3 c _ HRL.out r3)
      clear r3 k3 HA HO HG HK
      go_wp2_with fail
      refine HB.out.mono ?_
      rintro e w4 ⟨rfl, r4, k4⟩
      have HO4 := own_grew HO3.out k4 (by omega)
      have HG4 := Lib.hid (HG3.out.and k4)
      have HK4 := Lib.hid (HK3.out.keepG k4 (by simp only [ne_eq, Option.some.injEq]; omega))
      have hs4 : w.heap.size + 1 ≤ w4.heap.size := by have := k4.size; omega
      have HR4 := Lib.hid r4
      clear r4 k4 HB HO3 HG3 HK3
      have HLT := Lib.hid hlt
      go_wp2_with (at_builtin; refine wpList_append_bytes rfl _ _ rfl (w.heap.size + 1) _ k (byteCells (l.take k)) rfl (HO4.alloc _) ⟨w4.heap.size, 0, none⟩ 1 1 [c] rfl rfl (cells_new _ _ _) (by omega) (by simp <;> omega) ?_; intro v5 w5 hown5 hb5 _; have HF := Lib.hid (show w5.ownsRow (w.heap.size + 1) 5 1 v5 (k + 1) (byteCells (l.take (k + 1))) ∧ Below (w.heap.size + 1) w4 w5 from ⟨by rw [HTN.out]; simpa [byteCells] using hown5, ((Below.refl _ w4).alloc hs4 _).trans hb5⟩); clear hown5 hb5)
      obtain ⟨q', cap', hv'⟩ := slice_of_bytes HF.out.1
      subst hv'
      go_roundw
      case rel => exact ⟨k + 1, by have := HLT.out; omega, HF.out.1, Blk.belowV HR4.out HF.out.2 (by omega), grew_low HG4.out HF.out.2 (by omega), Blk.belowV HK4.out HF.out.2 (by omega), Nat.le_trans hs4 HF.out.2.size⟩
      case measure => have := HLT.out; simp [lenOf]; omega
    · have hke : k = l.length := by omega
      have HRW := HR.out
      rw [hke, List.drop_length] at HRW
      have HA := HTK.out wr _ HRW
      have hy := trim_yes [34] r
      rw [show ([] : List UInt8).flatMap qB ++ 34 :: r = [34] ++ r from rfl, hy.1, hy.2] at HA
      have HA := Lib.hid HA
      have hO := HO.out
      rw [hke, List.take_length] at hO
      have HO := Lib.hid hO
      clear HRW hy HR HTK HCH hO
      rw [hke]
      go_wp2_with fail
      refine HA.out.mono ?_
      rintro e w3 ⟨rfl, r3, k3⟩
      have hO3 := own_grew HO.out k3 (by omega)
      have hcv := owns_string rfl hO3
      have HG3 := Lib.hid (HG.out.and k3)
      have HK3 := Lib.hid (HK.out.keepG k3 (by simp only [ne_eq, Option.some.injEq]; omega))
      have HR3 := Lib.hid r3
      have hk3 := HK3.out
      have c0 := hk3.cell 0
      have c1 := hk3.cell 1
      have c2 := hk3.cell 2
      have f0 := hk3.froz 0
      have f1 := hk3.froz 1
      have f2 := hk3.froz 2
      simp only [List.getElem?_toArray, List.getElem?_cons_zero, List.getElem?_cons_succ] at c0 c1 c2
      rw [show (⟨l.toArray⟩ : ByteArray) = bs l from rfl] at hcv
      clear r3 k3 HA HO HG HK hO3 hk3 hke
      obtain ⟨x, HX⟩ : ∃ x, Hid (bs l = x) := ⟨_, rfl⟩
      rw [HX.out] at hcv
      have HF := Lib.hid (show Rdr (((w3.setCell ⟨w.heap.size, 0, none⟩ (.int .i64 2)).setCell ⟨w.heap.size, 1, none⟩ (.int .i64 0)).setCell ⟨w.heap.size, 2, none⟩ (.string x)) R r ∧ Grew w R (((w3.setCell ⟨w.heap.size, 0, none⟩ (.int .i64 2)).setCell ⟨w.heap.size, 1, none⟩ (.int .i64 0)).setCell ⟨w.heap.size, 2, none⟩ (.string x)) ∧ Blk (((w3.setCell ⟨w.heap.size, 0, none⟩ (.int .i64 2)).setCell ⟨w.heap.size, 1, none⟩ (.int .i64 0)).setCell ⟨w.heap.size, 2, none⟩ (.string x)) w.heap.size 37 #[.int .i64 2, .int .i64 0, .string x] from
        ⟨Blk.setOther (Blk.setOther (Blk.setOther HR3.out (by omega) _) (by omega) _) (by omega) _, grew_low HG3.out (((Below.refl w.heap.size w3).setCell (p := ⟨w.heap.size, 0, none⟩) (Nat.le_refl _) _).setCell (p := ⟨w.heap.size, 1, none⟩) (Nat.le_refl _) _ |>.setCell (p := ⟨w.heap.size, 2, none⟩) (Nat.le_refl _) _) (Nat.le_refl _), ((HK3.out.setG 0 _).setG 1 _).setG 2 _⟩)
      go_wp2_with fail
      have r0 := HF.out.2.2.cell 0
      have r1 := HF.out.2.2.cell 1
      have r2 := HF.out.2.2.cell 2
      simp only [List.getElem?_toArray, List.getElem?_cons_zero, List.getElem?_cons_succ] at r0 r1 r2
      refine bodyPost_ret (v := .tuple #[.agg #[.int .i64 2, .int .i64 0, .string x], .bool true]) (by simp [results, Tryd.f35, go_sem, r0, r1, r2]) rfl ?_
      exact ⟨by rw [HX.out], HF.out.1, HF.out.2.1⟩
end Go.Proofs.YtmjobnakaamlpaaDoor
