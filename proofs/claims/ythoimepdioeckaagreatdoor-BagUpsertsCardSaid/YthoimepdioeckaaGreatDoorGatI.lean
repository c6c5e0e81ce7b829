/-
  bag's gathered at items: what has the same row put together, in a map by the rows' texts; then sorted by rows; as a contract.
-/
import Derived.Test.YthoimepdioeckaaGreatDoorTogI
import Derived.Test.YthoimepdioeckaaGreatDoorSortI
import Derived.Maps.OwnOps
namespace Go.Proofs.YthoimepdioeckaaGreatDoor
open Go.RowKit Go.Shelf

def SortedPostI (w : World) (acc : List ItR) (e : Ending) (w' : World) : Prop := ∃ v zs, e = .returned v ∧ List.Perm zs acc ∧ (zs.Pairwise fun (x y : ItR) => 0 ≤ cmpRow y.1.2.1 x.1.2.1) ∧ w'.ownsRow w.heap.size 60 2 v zs.length (flatI zs) ∧ Below w.heap.size w w'
set_option maxRecDepth 100000 in
theorem sortedI_any (Bm Bx b nn : Nat) (acc : List ItR) (D0 : DataW Value) (hG : GatOf rowI vI acc D0) (hm : acc.length ≤ 1000000) (w : World) (hBm : Bm < w.heap.size) (hBx : Bx < w.heap.size)
    (hcm : w.cell? ⟨Bm, 0, none⟩ = some (.map (some b))) (hbox : w.cell? ⟨Bx, 0, none⟩ = some (.func (.func 96) #[] #[])) (hown : w.ownsMap Tryz.prog 9 heldR b nn D0) (hrow : ∀ y ∈ acc, RowB w.heap.size w y.1) :
    Calls Tryz.prog 139 #[.func (.func 182) #[] #[.pointer (some ⟨Bm, 0, none⟩)], .func (.func 141) #[] #[.pointer (some ⟨Bx, 0, none⟩)]] w (SortedPostI w acc) := by
  have hseq : SeqStopsK Fence.wide (3 - 1 - 1) Tryz.prog 182 #[.pointer (some ⟨Bm, 0, none⟩)] encI KeepsWalks (fun ys => ys.Perm acc) (fun _ => True) acc.length w := fun l J Jx W hW hJ _ hY h0 =>
    valuesI1_in (3 - 1 - 1) (by omega) l Bm b nn acc D0 hG J Jx W hJ ((hW.cell (p := ⟨Bm, 0, none⟩) hBm).trans hcm) (ownsMap_below hown hW) hY h0
  have hc := Lib.hid (collectI_in 3 (by omega) 182 #[.pointer (some ⟨Bm, 0, none⟩)] (enters_of Tryz.func182 (by kernel_rfl) rfl) (fun ys => ys.Perm acc) (fun _ => True) acc.length (by unfold maxLen; omega) (by omega) w hseq)
  have HR := Lib.hid hrow
  have HB := Lib.hid hbox
  have HM := Lib.hid hm
  clear hseq hG hown hrow hcm hbox hm
  go_enter Tryz.func139, Tryz.ntmps139
  go_wp2_with fail
  refine hc.out.mono ?_
  rintro e w1 ⟨v, xs, rfl, hp, hrow1, hb⟩
  have hpl := hp.length_eq
  have hs := sort_items xs w.heap.size Bx v w1 (by have := HM.out; omega) hb.size hBx ((hb.cell (p := ⟨Bx, 0, none⟩) hBx).trans HB.out) (fun y hy => (HR.out y (hp.mem_iff.1 hy)).below hb) hrow1
  have HS := Lib.hid hs
  have HP := Lib.hid hp
  have HL := Lib.hid fun k hk => (hrow1.lt k hk).1
  clear hs hp hrow1 hpl
  go_wp2_with fail
  refine HS.out.mono ?_
  rintro e w2 ⟨rfl, zs, hp2, hpw, hrow2, hg⟩
  have HQ := Lib.hid (And.intro (hp2.trans HP.out) (And.intro hpw hp2.length_eq))
  clear hp2 hpw
  go_wp2_with fail
  go_ret
  exact ⟨_, zs, rfl, HQ.out.1, HQ.out.2.1, by rw [HQ.out.2.2]; exact hrow2, hb.grown hg hb.size HL.out⟩

theorem gathI_from (rs : List ItR) : ∀ y ∈ gath rowI togI rs, ∃ x ∈ rs, y.1 = x.1 := by
  refine take_ind (P := fun acc => ∀ y ∈ acc, ∃ x ∈ rs, y.1 = x.1) rs (by simp) fun acc x hx ih y hy => ?_
  by_cases h : ∃ z ∈ acc, rowI z = rowI x
  · obtain ⟨z, hz, e⟩ := h
    rw [gstep_yes hz e] at hy
    obtain ⟨u, hu, rfl⟩ := List.mem_map.1 hy
    split
    · exact ih u hu
    · exact ih u hu
  · rw [gstep_no (fun z hz e => h ⟨z, hz, e⟩)] at hy
    rcases List.mem_append.1 hy with hy | hy
    · exact ih y hy
    · rw [List.mem_singleton] at hy; subst hy; exact ⟨y, hx, rfl⟩
theorem valuesI_any (b : Option Nat) (w : World) : Calls Tryz.prog 140 #[.map b] w fun e w' => e = .returned (.func (.func 182) #[] #[.pointer (some ⟨w.heap.size, 0, none⟩)]) ∧ w' = w.alloc (.cells #[.map b] 164) := by
  go_enter Tryz.func140, Tryz.ntmps140
  go_wp2
  go_ret
  exact ⟨rfl, rfl⟩

def GathPost (w : World) (rs : List ItR) (e : Ending) (w' : World) : Prop := ∃ v zs, e = .returned v ∧ List.Perm zs (gath rowI togI rs) ∧ (zs.Pairwise fun (x y : ItR) => 0 ≤ cmpRow y.1.2.1 x.1.2.1) ∧ w'.ownsRow w.heap.size 60 2 v zs.length (flatI zs) ∧ Below w.heap.size w w'

set_option maxRecDepth 100000 in
set_option maxHeartbeats 4000000 in
theorem gatheredI_any (p : Option Addr) (rs : List ItR) (c : Nat) (hm : rs.length ≤ 100000) (hval : ∀ r ∈ rs, validRow r.1.2.1 = true) (hbd : ∀ r ∈ rs, -1000000 ≤ r.2 ∧ r.2 ≤ 1000000) (w : World) (hX : ItemsIn w p rs) (hT : Tab w.heap.size w) :
    Calls Tryz.prog 95 #[.slice p rs.length c, .func (.func 96) #[] #[], .func (.func 94) #[] #[]] w (GathPost w rs) := by
  have hmm : ∀ W, (Instr.makeMap 164 (some (.int .i64 (rs.length : Int)))).run Tryz.prog W = .ok (.map (some W.heap.size)) (W.alloc (.map #[] 0)) := fun W => by
    simp [Instr.makeMap, run_underlying mapTI, asInt, asIntOf, Result.andThen]
  have hb1 : Below w.heap.size w (w.alloc (.cells #[.func (.func 96) #[] #[]] 129)) := (Below.refl _ _).alloc (Nat.le_refl _) _
  have hk1 := Blk.new w 129 #[.func (.func 96) #[] #[]]
  have hs1 : (w.alloc (.cells #[.func (.func 96) #[] #[]] 129)).heap.size = w.heap.size + 1 := by simp
  have HX := Lib.hid hX
  have HV := Lib.hid hval
  have HBD := Lib.hid hbd
  have HBB := Lib.hid (gathI_bound hbd)
  have HT := Lib.hid hT
  have HRW := Lib.hid (rowB_of_items hX)
  clear hX hval hbd hT
  go_enter Tryz.func95, Tryz.ntmps95
  go_wp2_with fail
  obtain ⟨W1, hW1⟩ : ∃ W1, w.alloc (.cells #[.func (.func 96) #[] #[]] 129) = W1 := ⟨_, rfl⟩
  rw [hW1] at hb1 hk1 hs1 ⊢
  have hown0 : (W1.alloc (.map #[] 0)).ownsMap Tryz.prog 9 heldR (w.heap.size + 1) 0 (.map []) := by
    have := World.ownsMap_made (H := Value) W1 Tryz.prog 9 heldR
    rw [hs1] at this
    exact this
  have hB0 : Below (w.heap.size + 1) W1 (W1.alloc (.map #[] 0)) := (Below.refl _ _).alloc (by omega) _
  have HK1 := Lib.hid hk1
  have HB1 := Lib.hid hb1
  have HS1 := Lib.hid hs1
  have HTX := Lib.hid fun (q : Option Addr) (xs : List Val) (qc : Nat) W (hX : ValsIn W q xs) (hT : Tab W.heap.size W) => rowText_any q xs qc W hX hT
  have HRO := Lib.hid rowOfI_any
  have HAD := Lib.hid added_any
  clear hW1 hk1 hb1 hs1 hmm
  go_loopw [18] (fun t wr => ∃ (i : Nat) (D : DataW Value), t = .int .i64 i ∧ i ≤ rs.length ∧ wr.ownsMap Tryz.prog 9 heldR (w.heap.size + 1) i D ∧ Hid (GatOf rowI vI (gath rowI togI (rs.take i)) D) ∧ Below (w.heap.size + 1) W1 wr) (fun t _ => rs.length - (RowKit.intOf t).toNat)
  case atStart => exact ⟨0, _, rfl, Nat.zero_le _, hown0, GatOf.zero vI, hB0⟩
  case round =>
    clear hown0 hB0
    obtain ⟨i, D, rfl, hi, hown, hG, hB⟩ := hrel
    have hBw : Below w.heap.size w wr := HB1.out.trans (hB.mono (Nat.le_succ _))
    have hsz : w.heap.size + 1 < wr.heap.size := hown.lt
    by_cases hlt : i < rs.length
    · obtain ⟨b, off, rfl, hbl, hra⟩ := HX.out (by omega)
      obtain ⟨c0, c1, hok, hzr⟩ := (hra.belowV hBw hbl) i hlt
      have hi0 : (0 : Int) ≤ (i : Int) := by omega
      have hi1 : (i : Int) < (rs.length : Int) := by omega
      have hgi : rs[i]?.getD ir0 = rs[i] := by rw [List.getElem?_eq_getElem hlt]; rfl
      have hmem : rs[i] ∈ rs := List.getElem_mem hlt
      have hvx := HV.out _ hmem
      have hbx := HBD.out _ hmem
      have hnx := gath_next (row := rowI) (tog := togI) hlt
      have htidy := hown.tidy (Maps.string_keyed Tryz.underlying9)
      have hism := hown.isMap
      have hcase : (∃ y ∈ gath rowI togI (rs.take i), rowI y = rowI rs[i]) ∨ Maps.has D (.string (textOf (rowI rs[i]))) = false := by
        cases hh : Maps.has D (.string (textOf (rowI rs[i]))) with
        | false => exact .inr rfl
        | true =>
          obtain ⟨y, hy, e⟩ := (hG.out.has _).1 hh
          exact .inl ⟨y, hy, text_inj (hG.out.valid y hy) hvx e⟩
      rw [hgi] at c0 c1 hok hzr
      generalize rs[i] = x at *
      clear hgi hmem hra hzr
      have hLl : (textOf (rowI x)).length ≤ maxLen := by have := textOf_len (rowI x); unfold maxLen; omega
      have hkey := key_of _ hLl
      have HLL := Lib.hid hLl
      have HOK := Lib.hid hok
      clear hok hLl
      have hown1 := hown.alloc (.cells #[.slice x.1.1 x.1.2.1.length x.1.2.2, .int .i64 x.2] 60)
      have hB1' : Below (w.heap.size + 1) W1 (wr.alloc (.cells #[.slice x.1.1 x.1.2.1.length x.1.2.2, .int .i64 x.2] 60)) := hB.alloc (by omega) _
      have hbk := Blk.new wr 60 #[.slice x.1.1 x.1.2.1.length x.1.2.2, .int .i64 x.2]
      have hs1 : (wr.alloc (.cells #[.slice x.1.1 x.1.2.1.length x.1.2.2, .int .i64 x.2] 60)).heap.size = wr.heap.size + 1 := by simp
      have hfn := (hB1'.cell (p := ⟨w.heap.size, 0, none⟩) (Nat.lt_succ_self _)).trans (HK1.out.cell 0)
      simp only [List.getElem?_toArray, List.getElem?_cons_zero] at hfn
      rcases hcase with ⟨y, hy, e⟩ | hno
      · have hGn := hG.out.old (tog := togI) togI_row htidy hism hy e
        rw [← hnx] at hGn
        have hyb := HBB.out i (by omega) y hy
        have HLK := Lib.hid fun (W : World) (h : W.ownsMap Tryz.prog 9 heldR (w.heap.size + 1) i D) => lookI_yes h hG.out hy (by rw [e] : textOf (rowI y) = textOf (rowI x)) HLL.out
        clear hnx htidy hism e hG hy
        obtain ⟨⟨xq, xs, xc⟩, n⟩ := x
        obtain ⟨⟨yq, ys, yc⟩, m⟩ := y
        dsimp only [vI, togI, rowI, rowv] at *
        have htx := fun W (h : Below wr.heap.size wr W) => HTX.out xq xs xc W (HOK.out.2.belowV h) (HT.out.up (hBw.trans (h.mono hBw.size)) (Nat.le_trans hBw.size h.size))
        generalize textOf xs = L at *
        have HTQ := Lib.hid htx
        have HGN := Lib.hid hGn
        have hbn : Big m ∧ Big n := by unfold Big; omega
        have HBN := Lib.hid hbn
        clear htx hGn hyb hbx hvx hbn
        go_wp2_with fail
        refine (HRO.out xq xs.length xc n _).mono ?_
        rintro e w2 ⟨rfl, hb2⟩
        have hbk2 := hbk.belowV hb2 (by omega)
        have hown2 := ownsMap_below hown1 hb2
        have hB2 : Below (w.heap.size + 1) W1 w2 := hB1'.trans (hb2.mono (by omega))
        have hr2 : Below wr.heap.size wr w2 := ((Below.refl _ _).alloc (Nat.le_refl _) _).trans (hb2.mono (by omega))
        clear hb2 hbk hown1 hB1'
        go_wp2_with fail
        refine (HTQ.out _ hr2).mono ?_
        rintro e w3 ⟨rfl, hb3⟩
        have hbk3 := hbk2.belowV hb3 hbk2.lt
        have hown3 := ownsMap_below hown2 hb3
        have hB3 : Below (w.heap.size + 1) W1 w3 := hB2.trans (hb3.mono (by have := hr2.size; omega))
        have hlk := HLK.out w3 hown3
        have hs3 : wr.heap.size < w3.heap.size := hbk3.lt
        have hown4 := hown3.alloc (.cells #[.slice yq ys.length yc, .int .i64 m] 60)
        have hbk4 := hbk3.belowV ((Below.refl _ _).alloc (Nat.le_refl _) (.cells #[.slice yq ys.length yc, .int .i64 m] 60)) hs3
        have hB4 : Below (w.heap.size + 1) W1 (w3.alloc (.cells #[.slice yq ys.length yc, .int .i64 m] 60)) := hB3.alloc (by omega) _
        have y0 := hbk4.cell 0
        have y1 := hbk4.cell 1
        simp only [List.getElem?_toArray, List.getElem?_cons_zero, List.getElem?_cons_succ] at y0 y1
        have HBK4 := Lib.hid hbk4
        clear hb3 hbk2 hbk3 hown2 hown3 hB2 hB3 hr2 hbk4
        go_wp2_with fail
        refine (HAD.out yq ys.length yc m xq xs.length xc n HBN.out.1 HBN.out.2 _).mono ?_
        rintro e w5 ⟨rfl, hb5⟩
        have hs4 : (w3.alloc (.cells #[.slice yq ys.length yc, .int .i64 m] 60)).heap.size = w3.heap.size + 1 := by simp
        have hbk5 := HBK4.out.belowV hb5 (by omega)
        have hown5 := ownsMap_below hown4 hb5
        have hB5 : Below (w.heap.size + 1) W1 w5 := hB4.trans (hb5.mono (by omega))
        have z0 := hbk5.cell 0
        have z1 := hbk5.cell 1
        have g0 : w5.frozen? ⟨wr.heap.size, 0, none⟩ = false := by simp [World.frozen?, show w5.heap[wr.heap.size]? = _ from hbk5]
        have g1 : w5.frozen? ⟨wr.heap.size, 1, none⟩ = false := by simp [World.frozen?, show w5.heap[wr.heap.size]? = _ from hbk5]
        simp only [List.getElem?_toArray, List.getElem?_cons_zero, List.getElem?_cons_succ] at z0 z1
        have hown6 := (hown5.setCell (a := ⟨wr.heap.size, 0, none⟩) (by show w.heap.size + 1 ≠ wr.heap.size; omega) (.slice yq ys.length yc)).setCell (a := ⟨wr.heap.size, 1, none⟩) (by show w.heap.size + 1 ≠ wr.heap.size; omega) (.int .i64 (m + n))
        have hB6 : Below (w.heap.size + 1) W1 ((w5.setCell ⟨wr.heap.size, 0, none⟩ (.slice yq ys.length yc)).setCell ⟨wr.heap.size, 1, none⟩ (.int .i64 (m + n))) := (hB5.setCell (p := ⟨wr.heap.size, 0, none⟩) (by show w.heap.size + 1 ≤ wr.heap.size; omega) _).setCell (p := ⟨wr.heap.size, 1, none⟩) (by show w.heap.size + 1 ≤ wr.heap.size; omega) _
        clear hb5 hbk5 hown5 hown4 hB4 hB5 hs4 y0 y1
        have hval : heldR (.agg #[.slice yq ys.length yc, .int .i64 (m + n)]) = some (.held (.agg #[.slice yq ys.length yc, .int .i64 (m + n)]), []) := rfl
        go_wp2_with (at_mapUpdate; refine wpList_mapUpdate_own _ rfl _ _ _ 164 rfl 9 60 (Maps.string_keyed Tryz.underlying9) mapTI _ (w.heap.size + 1) i D rfl hown6 (by unfold maxLen; omega) _ _ _ rfl rfl hkey _ [] hval ?_; intro w7 hown7 hgrow7; have hB7 : Below (w.heap.size + 1) W1 w7 := hB6.grown hgrow7 (by have := hown6.lt; omega) (fun k e => by simp at e; omega))
        go_roundw
        case rel => exact ⟨i + 1, _, by go_num, by omega, hown7, HGN.out, hB7⟩
        case measure => simp [RowKit.intOf]; omega
      · have hGn := hG.out.new (tog := togI) htidy hism hvx hno
        rw [← hnx] at hGn
        have HLK := Lib.hid fun (W : World) (h : W.ownsMap Tryz.prog 9 heldR (w.heap.size + 1) i D) => lookI_no h hno HLL.out
        clear hnx htidy hism hno hG hbx hvx
        obtain ⟨⟨xq, xs, xc⟩, n⟩ := x
        dsimp only [vI, rowI, rowv] at *
        have htx := fun W (h : Below wr.heap.size wr W) => HTX.out xq xs xc W (HOK.out.2.belowV h) (HT.out.up (hBw.trans (h.mono hBw.size)) (Nat.le_trans hBw.size h.size))
        generalize textOf xs = L at *
        have HTQ := Lib.hid htx
        have HGN := Lib.hid hGn
        clear htx hGn
        go_wp2_with fail
        refine (HRO.out xq xs.length xc n _).mono ?_
        rintro e w2 ⟨rfl, hb2⟩
        have hbk2 := hbk.belowV hb2 (by omega)
        have hown2 := ownsMap_below hown1 hb2
        have hB2 : Below (w.heap.size + 1) W1 w2 := hB1'.trans (hb2.mono (by omega))
        have hr2 : Below wr.heap.size wr w2 := ((Below.refl _ _).alloc (Nat.le_refl _) _).trans (hb2.mono (by omega))
        clear hb2 hbk hown1 hB1'
        go_wp2_with fail
        refine (HTQ.out _ hr2).mono ?_
        rintro e w3 ⟨rfl, hb3⟩
        have hbk3 := hbk2.belowV hb3 hbk2.lt
        have hown3 := ownsMap_below hown2 hb3
        have hB3 : Below (w.heap.size + 1) W1 w3 := hB2.trans (hb3.mono (by have := hr2.size; omega))
        have hlk := HLK.out w3 hown3
        have hs3 : wr.heap.size < w3.heap.size := hbk3.lt
        have hown4 := hown3.alloc (.cells #[.slice none 0 0, .int .i64 0] 60)
        have hbk4 := hbk3.belowV ((Below.refl _ _).alloc (Nat.le_refl _) (.cells #[.slice none 0 0, .int .i64 0] 60)) hs3
        have hB4 : Below (w.heap.size + 1) W1 (w3.alloc (.cells #[.slice none 0 0, .int .i64 0] 60)) := hB3.alloc (by omega) _
        have y0 := hbk4.cell 0
        have y1 := hbk4.cell 1
        simp only [List.getElem?_toArray, List.getElem?_cons_zero, List.getElem?_cons_succ] at y0 y1
        clear hb3 hbk2 hbk3 hown2 hown3 hB2 hB3 hr2 hbk4
        have hval : heldR (.agg #[.slice xq xs.length xc, .int .i64 n]) = some (.held (.agg #[.slice xq xs.length xc, .int .i64 n]), []) := rfl
        go_wp2_with (at_mapUpdate; refine wpList_mapUpdate_own _ rfl _ _ _ 164 rfl 9 60 (Maps.string_keyed Tryz.underlying9) mapTI _ (w.heap.size + 1) i D rfl hown4 (by unfold maxLen; omega) _ _ _ rfl rfl hkey _ [] hval ?_; intro w7 hown7 hgrow7; have hB7 : Below (w.heap.size + 1) W1 w7 := hB4.grown hgrow7 (by have := hown4.lt; omega) (fun k e => by simp at e; omega))
        go_roundw
        case rel => exact ⟨i + 1, _, by go_num, by omega, hown7, HGN.out, hB7⟩
        case measure => simp [RowKit.intOf]; omega
    · have hge : rs.length ≤ i := by omega
      have hie : i = rs.length := by omega
      have HGE := Lib.hid (show GatOf rowI vI (gath rowI togI rs) D by have := hG.out; rw [hie, List.take_length] at this; exact this)
      have hfn := (hB.cell (p := ⟨w.heap.size, 0, none⟩) (Nat.lt_succ_self _)).trans (HK1.out.cell 0)
      simp only [List.getElem?_toArray, List.getElem?_cons_zero] at hfn
      have hlen := gath_len (row := rowI) (tog := togI) rs
      have hrb : ∀ y ∈ gath rowI togI rs, RowB w.heap.size wr y.1 := fun y hy => by
        obtain ⟨x, hx, e⟩ := gathI_from rs y hy
        rw [e]
        exact (HRW.out x hx).below hBw
      have HRB := Lib.hid hrb
      have HLN := Lib.hid hlen
      have HOW := Lib.hid hown
      have HFN := Lib.hid hfn
      clear hie hG hlen hrb hown hfn
      go_wp2_with fail
      refine (valuesI_any _ _).mono ?_
      rintro e w8 ⟨rfl, rfl⟩
      have hbA : Below wr.heap.size wr (wr.alloc (.cells #[.map (some (w.heap.size + 1))] 164)) := (Below.refl _ _).alloc (Nat.le_refl _) _
      have hsA : (wr.alloc (.cells #[.map (some (w.heap.size + 1))] 164)).heap.size = wr.heap.size + 1 := by simp
      have hso := sortedI_any wr.heap.size w.heap.size (w.heap.size + 1) i (gath rowI togI rs) D HGE.out (by have := HLN.out; omega) (wr.alloc (.cells #[.map (some (w.heap.size + 1))] 164)) (by omega) (by omega) ((Blk.new wr _ _).cell 0) ((hbA.cell (p := ⟨w.heap.size, 0, none⟩) (by show w.heap.size < _; omega)).trans HFN.out) (HOW.out.alloc _) (fun y hy => ((HRB.out y hy).below (hbA.mono hBw.size)).mono (by have := hBw.size; omega))
      have HSO := Lib.hid hso
      have HBA := Lib.hid (hBw.trans (hbA.mono hBw.size))
      have HSZ := HBA.out.size
      clear hso hbA hsA
      go_wp2_with fail
      refine HSO.out.mono ?_
      rintro e w9 ⟨v, zs, rfl, hp, hpw, hrow, hb9⟩
      have HQ := Lib.hid (And.intro hp hpw)
      clear hp hpw
      go_wp2_with fail
      go_ret
      exact ⟨v, zs, rfl, HQ.out.1, HQ.out.2, ownsRow_base hrow HSZ, HBA.out.trans (hb9.mono HSZ)⟩
#print axioms sortedI_any
end Go.Proofs.YthoimepdioeckaaGreatDoor
