/-
  Rows2, either (Meet, Join), Within and Distinct of the document, as contracts.
-/
import Derived.Test.YtcpbdbhpflgkcaaLatMath
import Derived.Test.YtcpbdbhpflgkcaaLat
import Derived.Test.YtcpbdbhpflgkcaaPlus
namespace Go.Proofs.Ytcpbdbhpflgkcaa
open Go.RowKit

theorem infoRow : (Try.prog.info? 25).map (fun i => (i.zero, i.size, i.bytes)) = some (some (.slice none 0 0), 1, 24) := by kernel_rfl
def rowsR (rs ss : List ItR) (j : Nat) : List RowV := rs.map (·.1) ++ ((ss.take j).filter fun y => cnt (vals rs) y.1.2.1 == 0).map (·.1)
theorem rowsR_next {rs ss : List ItR} {j : Nat} (h : j < ss.length) : rowsR rs ss (j + 1) = rowsR rs ss j ++ if cnt (vals rs) (ss[j]?.getD ir0).1.2.1 = 0 then [(ss[j]?.getD ir0).1] else [] := by
  rw [List.getElem?_eq_getElem h]
  unfold rowsR
  rw [List.take_succ_eq_append_getElem h, List.filter_append, List.map_append, List.append_assoc]
  by_cases e : cnt (vals rs) (ss[j]).1.2.1 = 0 <;> simp [e]
theorem rowsR_vals (rs ss : List ItR) : (rowsR rs ss ss.length).map (·.2.1) = rows2 (vals rs) (vals ss) := by
  unfold rowsR rows2 vals
  rw [List.take_length, List.map_append, List.map_map, List.map_map, List.map_map, List.filter_map, List.map_map]
  rfl
theorem rowsR_mem {rs ss : List ItR} {j : Nat} : ∀ r ∈ rowsR rs ss j, (∃ x ∈ rs, x.1 = r) ∨ ∃ y ∈ ss, y.1 = r := fun r hr => by
  rcases List.mem_append.1 hr with hr | hr
  · obtain ⟨x, hx, rfl⟩ := List.mem_map.1 hr; exact .inl ⟨x, hx, rfl⟩
  · obtain ⟨y, hy, rfl⟩ := List.mem_map.1 hr; exact .inr ⟨y, List.mem_of_mem_take (List.mem_filter.1 hy).1, rfl⟩
def RowsPost (w : World) (l : List (List Val)) (m : Nat) (e : Ending) (w' : World) : Prop := ∃ (p : Option Addr) (rl : List RowV) (cap : Nat), e = .returned (.slice p rl.length cap) ∧ rl.map (·.2.1) = l ∧ rl.length ≤ m ∧ RowsIn w' p rl ∧ (∀ r ∈ rl, r.1 = none → r.2.2 = 0) ∧ Below w.heap.size w w'
theorem rows_of_own {W : World} {B n cap : Nat} {p : Option Addr} {rl : List RowV} (hn : n = rl.length) (h : W.ownsRow B 25 1 (.slice p n cap) n (rl.map rowv)) (hr : ∀ r ∈ rl, RowOK W r) : RowsIn W p rl := fun hp => by
  rcases h.2 with ⟨_, h0⟩ | ⟨g, cap', cur, he, _, hg, _⟩
  · omega
  · have hh := h
    simp only [Value.slice.injEq, true_and] at he
    obtain ⟨rfl, rfl⟩ := he
    refine ⟨g, 0, rfl, (Array.getElem?_eq_some_iff.1 hg).1, fun i hi => ?_⟩
    have hm : rl[i]?.getD r0 ∈ rl := by rw [List.getElem?_eq_getElem hi]; exact List.getElem_mem hi
    refine ⟨?_, hr _ hm⟩
    rw [Nat.zero_add, hh.cellAt i (by omega), List.getElem?_map, List.getElem?_eq_getElem hi]; rfl
theorem rowOK_low {w W : World} {p : Option Addr} {rs : List ItR} (h : ItemsIn w p rs) (hb : Below w.heap.size w W) : ∀ x ∈ rs, RowOK W x.1 ∧ (x.1.1 = none → x.1.2.2 = 0) := fun x hx => by
  have := rowB_of_items h x hx
  exact ⟨((this.below hb).x (Nat.le_refl _) hb.size).ok, this.2.1⟩

set_option maxRecDepth 100000 in
set_option maxHeartbeats 2000000 in
theorem Rows2_any (p q : Option Addr) (rs ss : List ItR) (c d : Nat) (hm1 : rs.length ≤ 1000) (hm2 : ss.length ≤ 1000) (w : World) (hX : ItemsIn w p rs) (hZ : ItemsIn w q ss) :
    Calls Try.prog 66 #[.slice p rs.length c, .slice q ss.length d] w (RowsPost w (rows2 (vals rs) (vals ss)) (rs.length + ss.length)) := by
  obtain ⟨i0, hii, hz0, hz1, hz2⟩ := info_parts infoRow
  have HX := Lib.hid hX
  have HZ := Lib.hid hZ
  clear hX hZ
  go_enter Try.func66, Try.ntmps66
  go_wp2_with fail
  go_loopw [5, 6] (fun o s wr => ∃ i : Nat, s = .int .i64 i ∧ i ≤ rs.length ∧ wr.ownsRow w.heap.size 25 1 o i ((rs.take i).map fun x => rowv x.1) ∧ Below w.heap.size w wr) (fun _ s _ => rs.length - (intOf s).toNat)
  case atStart => exact ⟨0, rfl, Nat.zero_le _, World.ownsRow_nil _ _ _ _, Below.refl _ _⟩
  case round =>
    obtain ⟨i, rfl, hi, hrow, hB⟩ := hrel
    have hBs := hB.size
    by_cases hlt : i < rs.length
    · obtain ⟨b, off, rfl, hbl, hra⟩ := HX.out (by omega)
      obtain ⟨c0, _, _, _⟩ := (hra.belowV hB hbl) i hlt
      have hi0 : (0 : Int) ≤ (i : Int) := by omega
      have hi1 : (i : Int) < (rs.length : Int) := by omega
      have hnx : (rs.take (i + 1)).map (fun x => rowv x.1) = (rs.take i).map (fun x => rowv x.1) ++ [rowv (rs[i]?.getD ir0).1] := by
        rw [List.take_succ_eq_append_getElem hlt, List.getElem?_eq_getElem hlt, List.map_append]; rfl
      clear hra
      generalize (rs[i]?.getD ir0) = x at c0 hnx
      obtain ⟨⟨xq, xs, xc⟩, xn⟩ := x
      dsimp only [rowv] at c0
      have HNX := Lib.hid (show (rs.take (i + 1)).map (fun x => rowv x.1) = (rs.take i).map (fun x => rowv x.1) ++ [.slice xq xs.length xc] from hnx)
      clear hnx
      go_wp2_with (at_builtin; refine wpList_append_own _ rfl _ _ 76 rfl w.heap.size 25 i0 (.slice none 0 0) 1 24 Try.underlying76 hii hz0 hz1 hz2 rfl (by decide) _ _ _ rfl (hrow.alloc _) ⟨wr.heap.size, 0, none⟩ 1 1 [.slice xq xs.length xc] rfl rfl (cells_new _ _ _) (by simp [Value.oneCell']) (by unfold maxLen; omega) (by omega) (by simp <;> omega) ?_; intro v' w5 hown' hgrow _; have hB5 : Below w.heap.size w w5 := (hB.alloc hBs _).grown hgrow (by simp <;> omega) (fun k e => (hrow.lt k e).1))
      go_roundw
      case rel => exact ⟨i + 1, by go_num, by omega, by rw [HNX.out]; exact hown', hB5⟩
      case measure => simp [intOf]; omega
    · have hge : (rs.length : Int) ≤ (i : Int) := by omega
      have hie : i = rs.length := by omega
      have hrow' := hrow
      rw [hie, List.take_length, show rs.length = (rowsR rs ss 0).length by simp [rowsR], show (rs.map fun x => rowv x.1) = (rowsR rs ss 0).map rowv by simp [rowsR]] at hrow'
      clear hrow hie
      obtain ⟨wo, hwo⟩ : ∃ wo : World, wo = wr := ⟨_, rfl⟩
      subst hwo
      go_wp2_with fail
      go_loopw [5, 7] (fun o s wr => ∃ j : Nat, s = .int .i64 j ∧ j ≤ ss.length ∧ wr.ownsRow w.heap.size 25 1 o (rowsR rs ss j).length ((rowsR rs ss j).map rowv) ∧ (rowsR rs ss j).length ≤ rs.length + j ∧ Below w.heap.size w wr) (fun _ s _ => ss.length - (intOf s).toNat)
      case atStart => exact ⟨0, rfl, Nat.zero_le _, hrow', (by simp [rowsR]), hB⟩
      case round =>
        clear hrow' hB hBs
        obtain ⟨j, rfl, hj, hrow, hlen, hB⟩ := hrel
        have hBs := hB.size
        by_cases hjl : j < ss.length
        · obtain ⟨b, off, rfl, hbl, hra⟩ := HZ.out (by omega)
          obtain ⟨c0, _, c2, _⟩ := (hra.belowV hB hbl) j hjl
          have E0 := Lib.hid (hra j hjl).1
          have hj0 : (0 : Int) ≤ (j : Int) := by omega
          have hj1 : (j : Int) < (ss.length : Int) := by omega
          have hnx := rowsR_next (rs := rs) hjl
          clear hra
          generalize (ss[j]?.getD ir0) = x at *
          obtain ⟨⟨xq, xs, xc⟩, xn⟩ := x
          dsimp only [rowv] at c0 c2 hnx E0
          have HC := Lib.hid (refN_any p xq rs c xs xc (by omega) c2.1 wr (HX.out.belowV hB) c2.2)
          clear c2
          generalize cnt (vals rs) xs = cv at *
          generalize hLe : rowsR rs ss j = L at *
          clear hLe
          by_cases hz : cv = 0
          · rw [if_pos hz] at hnx
            have hb0 : (cv == 0) = true := by rw [beq_iff_eq]; exact hz
            have HNX := Lib.hid hnx
            clear hnx hz
            have HROW := Lib.hid hrow
            have HBB := Lib.hid hB
            clear hrow hB
            go_wp2_with fail
            refine HC.out.mono ?_
            rintro e w1 ⟨rfl, hb1⟩
            have hB1 : Below w.heap.size w w1 := HBB.out.trans (hb1.mono hBs)
            have hrow := owns_below HROW.out hb1
            have c0 := (hB1.cell (p := ⟨b, off + j * 2, none⟩) hbl).trans E0.out
            have hBs1 := hB1.size
            clear hb1
            go_wp2_with (at_builtin; refine wpList_append_own _ rfl _ _ 76 rfl w.heap.size 25 i0 (.slice none 0 0) 1 24 Try.underlying76 hii hz0 hz1 hz2 rfl (by decide) _ _ _ rfl (hrow.alloc _) ⟨w1.heap.size, 0, none⟩ 1 1 [.slice xq xs.length xc] rfl rfl (cells_new _ _ _) (by simp [Value.oneCell']) (by unfold maxLen; omega) (by omega) (by simp <;> omega) ?_; intro v' w5 hown' hgrow _; have hB5 : Below w.heap.size w w5 := (hB1.alloc hBs1 _).grown hgrow (by simp <;> omega) (fun k e => (hrow.lt k e).1))
            go_roundw
            case rel => exact ⟨j + 1, by go_num, by omega, by rw [HNX.out, List.length_append, List.map_append]; exact hown', by rw [HNX.out, List.length_append]; simp; omega, hB5⟩
            case measure => simp [intOf]; omega
          · rw [if_neg hz, List.append_nil] at hnx
            have hb0 : (cv == 0) = false := by rw [beq_eq_false_iff_ne]; exact hz
            have HNX := Lib.hid hnx
            have HROW := Lib.hid hrow
            have HBB := Lib.hid hB
            clear hnx hz hrow hB
            go_wp2_with fail
            refine HC.out.mono ?_
            rintro e w1 ⟨rfl, hb1⟩
            go_wp2_with fail
            go_roundw
            case rel => exact ⟨j + 1, by go_num, by omega, by rw [HNX.out]; exact owns_below HROW.out hb1, by rw [HNX.out]; omega, HBB.out.trans (hb1.mono hBs)⟩
            case measure => simp [intOf]; omega
        · have hge2 : (ss.length : Int) ≤ (j : Int) := by omega
          have hje : j = ss.length := by omega
          have HVAL := Lib.hid (show (rowsR rs ss j).map (·.2.1) = rows2 (vals rs) (vals ss) by rw [hje]; exact rowsR_vals rs ss)
          have HOKS := Lib.hid (show ∀ r ∈ rowsR rs ss j, RowOK wr r ∧ (r.1 = none → r.2.2 = 0) from fun r hr => by
            rcases rowsR_mem r hr with ⟨x, hx, rfl⟩ | ⟨x, hx, rfl⟩
            · exact rowOK_low HX.out hB x hx
            · exact rowOK_low HZ.out hB x hx)
          obtain ⟨po, co, rfl⟩ := slice_of_owns hrow
          have HI := Lib.hid (rows_of_own rfl hrow fun r hr => (HOKS.out r hr).1)
          clear hje hrow
          go_wp2_with fail
          go_ret
          exact ⟨po, rowsR rs ss j, co, rfl, HVAL.out, by omega, HI.out, fun r hr => (HOKS.out r hr).2, hB⟩

theorem cnt_small {l : List It} (h : validBag l = true) (r : List Val) : small (cnt l r) := by
  by_cases e : cnt l r = 0
  · rw [e]; exact ⟨by decide, by decide⟩
  · obtain ⟨x, hx, e2⟩ := cnt_some e
    obtain ⟨_, h2, h3⟩ := validBag_iff.1 h
    rw [cnt_mem h3 hx e2]
    have := (itOK_iff.1 (h2 x hx)).2
    exact ⟨this.2.1, this.2.2⟩

end Go.Proofs.Ytcpbdbhpflgkcaa
