/-
  reading of a gauge of package mark: an iterator that tells the gauge each time, and hands on copies of the events.
-/
import Derived.Test.YtmnbcofonhlplaaEw
import Derived.Test.YtmnbcofonhlplaaRgB
import Derived.RangeFuncCalls
import Derived.RangeFuncBound
import Derived.OrdersIn
import Derived.TacticsIn
import Derived.LoopIn
import Derived.Stop.RegionWithIn
import Derived.LoopNIn
namespace Go.Proofs.Ytmnbcofonhlplaa
open Go.RowKit
set_option linter.unusedSimpArgs false
attribute [local go_sem] Oper.semAt_some

/-- What is handed on: a time, a row's slice, whether it is late; and without addresses. -/
abbrev EvY := Int × RowV × Bool
abbrev Pl := Int × List Val × Bool
def strip (x : EvY) : Pl := (x.1, x.2.1.2.1, x.2.2)
def encE (x : EvY) : Array Value := #[.agg #[.int .i64 x.1, rowv x.2.1], .bool x.2.2]
def timesE (es : List EvR) : List Int := es.map (·.1)
theorem timesE_len (es : List EvR) : (timesE es).length = es.length := by simp [timesE]
theorem timesE_get {es : List EvR} {i : Nat} (h : i < es.length) : (timesE es)[i]?.getD 0 = (es[i]?.getD er0).1 := by simp [timesE, List.getElem?_eq_getElem h]
def lateAt (b : Int) (es : List EvR) (i : Nat) : Bool := decide ((es[i]?.getD er0).1 < atTo b (timesE es) i)
def plAt (b : Int) (es : List EvR) (i : Nat) : Pl := ((es[i]?.getD er0).1, (es[i]?.getD er0).2.2.1, lateAt b es i)
def plTo (b : Int) (es : List EvR) (i : Nat) : List Pl := (List.range i).map (plAt b es)
theorem plTo_next (b : Int) (es : List EvR) (i : Nat) : plTo b es (i + 1) = plTo b es i ++ [plAt b es i] := by unfold plTo; rw [List.range_succ, List.map_append]; rfl
theorem plTo_len (b : Int) (es : List EvR) (i : Nat) : (plTo b es i).length = i := by simp [plTo]
theorem evsOK_at {es : List EvR} (h : evsOK es = true) {i : Nat} (hi : i < es.length) : evOK (evv (es[i]?.getD er0)) = true := by
  rw [List.getElem?_eq_getElem hi]; exact List.all_eq_true.1 h _ (List.getElem_mem hi)
theorem atTo_range {b : Int} (hb : boundR b) {es : List EvR} (h : evsOK es = true) : ∀ i, i ≤ es.length → markR (atTo b (timesE es) i)
  | 0, _ => by show markR (-1000000000000); unfold markR; decide
  | i + 1, hi => by
    rw [atTo_next (by rw [timesE_len]; omega)]
    refine step_range hb (atTo_range hb h i (by omega)) ?_
    rw [timesE_get (by omega)]
    have := evsOK_at h (show i < es.length by omega)
    unfold evOK at this
    rw [Bool.and_eq_true] at this
    exact this.1
/-- Some blocks lie as they lay. -/
structure KeepG (n₀ B TL TG : Nat) (W W' : World) : Prop where
  size : W.heap.size ≤ W'.heap.size
  block : ∀ k, (k < n₀ ∨ k = B ∨ k = TL ∨ k = TG) → k < W.heap.size → W'.heap[k]? = W.heap[k]?
theorem KeepG.trans {n₀ B TL TG : Nat} {X Y Z : World} (h : KeepG n₀ B TL TG X Y) (k : KeepG n₀ B TL TG Y Z) : KeepG n₀ B TL TG X Z :=
  ⟨Nat.le_trans h.size k.size, fun i hi hl => (k.block i hi (Nat.lt_of_lt_of_le hl h.size)).trans (h.block i hi hl)⟩
/-- .. but for B. -/
structure KeepI (n₀ TL TG : Nat) (W W' : World) : Prop where
  size : W.heap.size ≤ W'.heap.size
  block : ∀ k, (k < n₀ ∨ k = TL ∨ k = TG) → k < W.heap.size → W'.heap[k]? = W.heap[k]?
theorem KeepI.refl (n₀ TL TG : Nat) (W : World) : KeepI n₀ TL TG W W := ⟨Nat.le_refl _, fun _ _ _ => rfl⟩
theorem KeepI.trans {n₀ TL TG : Nat} {X Y Z : World} (h : KeepI n₀ TL TG X Y) (k : KeepI n₀ TL TG Y Z) : KeepI n₀ TL TG X Z :=
  ⟨Nat.le_trans h.size k.size, fun i hi hl => (k.block i hi (Nat.lt_of_lt_of_le hl h.size)).trans (h.block i hi hl)⟩
theorem KeepG.i {n₀ B TL TG : Nat} {X Y : World} (h : KeepG n₀ B TL TG X Y) : KeepI n₀ TL TG X Y := ⟨h.size, fun k hk hl => h.block k (by rcases hk with h | h | h <;> simp [h]) hl⟩
theorem keepI_grew {n₀ B TL TG : Nat} {X Y : World} (h : X.grownBy Y (some B)) (hn : n₀ ≤ B) (hL : TL ≠ B) (hG : TG ≠ B) : KeepI n₀ TL TG X Y := ⟨h.size, fun k hk hl => h.block k hl (fun e => by simp only [Option.some.injEq] at e; omega)⟩
theorem KeepI.cell {n₀ TL TG : Nat} {X Y : World} (h : KeepI n₀ TL TG X Y) {k j : Nat} (hk : k < n₀ ∨ k = TL ∨ k = TG) (hl : k < X.heap.size) : Y.cell? ⟨k, j, none⟩ = X.cell? ⟨k, j, none⟩ := by
  simp only [World.cell?, h.block k hk hl]
/-- A value's block is none of these. -/
def NotG (B TL TG : Nat) (v : Value) : Prop := ∀ x, v.ownBlock = some x → x ≠ B ∧ x ≠ TL ∧ x ≠ TG
/-- What is handed on, in the world in which it is. -/
def OkE (n₀ B TL TG : Nat) (b : Int) (es : List EvR) (pre : List EvY) (x : EvY) (W : World) : Prop := pre.length < es.length ∧ strip x = plAt b es pre.length ∧ OwnsV W n₀ (rowv x.2.1) x.2.1.2.1 ∧ x.2.1.2.1.length ≤ 8 ∧ NotG B TL TG (rowv x.2.1)

theorem abide_alloc {β : Type} {B : Nat} {J : β → World → Prop} (h : Abide B J) {s : β} {W : World} (hJ : J s W) (o : Obj) : J s (W.alloc o) := h s W _ hJ (World.grownBy_alloc W o _)

set_option maxRecDepth 100000 in
set_option maxHeartbeats 4000000 in
theorem reading_in (n : Nat) (hn : 2 ≤ n) (n₀ B TL TG : Nat) (b : Int) (hb : boundR b) (p : Option Addr) (cap : Nat) (es : List EvR) (hlen : es.length ≤ 400) (hok : evsOK es = true) (w : World)
    (hnB : n₀ ≤ B) (hnw : n₀ ≤ w.heap.size) (hTL : TL < w.heap.size) (hTG : TG < w.heap.size) (hLB : TL ≠ B) (hGB : TG ≠ B) (hK : GaP w B b (-1000000000000) false)
    (hL : w.cell? ⟨TL, 0, none⟩ = some (.slice p es.length cap)) (hP : w.cell? ⟨TG, 0, none⟩ = some (.pointer (some ⟨B, 0, none⟩)))
    (hX : 0 < es.length → ∃ bk off, p = some ⟨bk, off, none⟩ ∧ bk < n₀ ∧ EvsAt w bk off es)
    (hXX : ∀ i, i < es.length → ∀ W, (∀ k, k < n₀ → W.heap[k]? = w.heap[k]?) → ValsIn W (es[i]?.getD er0).2.1 (es[i]?.getD er0).2.2.1) :
    SeqB Fence.wide n Try.prog 68 #[.pointer (some ⟨TL, 0, none⟩), .pointer (some ⟨TG, 0, none⟩)] encE B (KeepG n₀ B TL TG) (OkE n₀ B TL TG b es) (fun xs => xs.map strip = plTo b es es.length) w := by
  intro l J W hW hJ hY h0
  have hc0 : W.cell? ⟨TL, 0, none⟩ = some (.slice p es.length cap) := (hW.cell (p := ⟨TL, 0, none⟩) hTL).trans hL
  have hc1 : W.cell? ⟨TG, 0, none⟩ = some (.pointer (some ⟨B, 0, none⟩)) := (hW.cell (p := ⟨TG, 0, none⟩) hTG).trans hP
  have hKW : GaP W B b (-1000000000000) false := hK.belowV hW hK.lt
  have hTL2 : TL < W.heap.size := Nat.lt_of_lt_of_le hTL hW.size
  have hTG2 : TG < W.heap.size := Nat.lt_of_lt_of_le hTG hW.size
  have hnW : n₀ ≤ W.heap.size := Nat.le_trans hnw hW.size
  have HY := Lib.hid hY
  have HJ := Lib.hid hJ
  have HX := Lib.hid (show 0 < es.length → ∃ bk off, p = some ⟨bk, off, none⟩ ∧ bk < n₀ ∧ ∀ i, i < es.length → W.cell? ⟨bk, off + i * 2, none⟩ = some (.int .i64 (es[i]?.getD er0).1) ∧ W.cell? ⟨bk, off + i * 2 + 1, none⟩ = some (rowv (es[i]?.getD er0).2) ∧ ((es[i]?.getD er0).2.1 = none → (es[i]?.getD er0).2.2.2 = 0) from fun h => by
    obtain ⟨bk, off, e, hbk, ha⟩ := hX h
    exact ⟨bk, off, e, hbk, fun i hi => ⟨(hW.cell (p := ⟨bk, off + i * 2, none⟩) (Nat.lt_of_lt_of_le hbk hnw)).trans (ha i hi).1, (hW.cell (p := ⟨bk, off + i * 2 + 1, none⟩) (Nat.lt_of_lt_of_le hbk hnw)).trans (ha i hi).2.1, (ha i hi).2.2.2⟩⟩)
  have HXX := Lib.hid (show ∀ i, i < es.length → ∀ W', KeepI n₀ TL TG W W' → ValsIn W' (es[i]?.getD er0).2.1 (es[i]?.getD er0).2.2.1 from fun i hi W' hk => hXX i hi W' fun k hkn => (hk.block k (.inl hkn) (by omega)).trans (hW.block k (by omega)))
  have HOK := Lib.hid hok
  have HKW := Lib.hid hKW
  have HB := Lib.hid hb
  clear hY hX hXX hok hKW hL hP hK hJ hb
  refine callsIn_of_wp Try.func68 rfl trivial ?_ rfl
  simp only [Try.ntmps68, List.size_toArray, List.length_cons, List.length_nil, Nat.reduceAdd, Nat.reduceSub, Array.replicate_succ, Array.replicate_zero, List.push_toArray, List.append_toArray, List.nil_append, List.cons_append]
  gi_wp2_with fail
  gi_loopw [10] (fun a wr => ∃ (i : Nat) (pre : List EvY), a = .int .i64 i ∧ i ≤ es.length ∧ pre.length = i ∧ Hid (pre.map strip = plTo b es i) ∧ J pre wr ∧ Hid (GaP wr B b (atTo b (timesE es) i) false) ∧ Hid (KeepI n₀ TL TG W wr))
    (fun a _ => (es.length - (intOf a).toNat))
  case atStart =>
    exact ⟨0, [], rfl, Nat.zero_le _, rfl, rfl, h0, HKW.out, KeepI.refl _ _ _ _⟩
  case round =>
    clear HKW h0
    obtain ⟨i, pre, rfl, hi, hpl, HPL, hJi, HG, HKI⟩ := hrel
    by_cases hlt : i < es.length
    · obtain ⟨bk, off, rfl, hbk, hra⟩ := HX.out (by omega)
      obtain ⟨c0, c1, c2⟩ := hra i hlt
      have d0 := (HKI.out.cell (.inl hbk) (by omega)).trans c0
      have d1 := (HKI.out.cell (.inl hbk) (by omega)).trans c1
      have e1 : wr.cell? ⟨TG, 0, none⟩ = some (.pointer (some ⟨B, 0, none⟩)) := (HKI.out.cell (.inr (.inr rfl)) hTG2).trans hc1
      have hi0 : (0 : Int) ≤ (i : Int) := by omega
      have hi1 : (i : Int) < (es.length : Int) := by omega
      have HV := Lib.hid (HXX.out i hlt)
      have hev := evsOK_at HOK.out hlt
      unfold evOK at hev
      rw [Bool.and_eq_true] at hev
      have HTR := Lib.hid hev.1
      have hr8 : (es[i]?.getD er0).2.2.1.length ≤ 8 := by
        have := hev.2
        unfold validRow at this
        rw [Bool.and_eq_true, decide_eq_true_eq] at this
        exact this.1
      have HMR := Lib.hid (atTo_range HB.out HOK.out i hi)
      have HNX := Lib.hid (show atTo b (timesE es) (i + 1) = markStep b (atTo b (timesE es) i) (es[i]?.getD er0).1 from by rw [atTo_next (by rw [timesE_len]; exact hlt), timesE_get hlt])
      have HPA := Lib.hid (show plAt b es i = ((es[i]?.getD er0).1, (es[i]?.getD er0).2.2.1, decide ((es[i]?.getD er0).1 < atTo b (timesE es) i)) from rfl)
      clear hra c0 c1 hev
      generalize es[i]?.getD er0 = x at *
      obtain ⟨t, q, xs, c⟩ := x
      dsimp only [rowv, evv] at *
      generalize atTo b (timesE es) i = m at *
      have e2 : (wr.alloc (.cells #[.int .i64 t, .slice q xs.length c] 55)).cell? ⟨TG, 0, none⟩ = some (.pointer (some ⟨B, 0, none⟩)) := ((below_new wr (.cells #[.int .i64 t, .slice q xs.length c] 55)).cell (p := ⟨TG, 0, none⟩) (Nat.lt_of_lt_of_le hTG2 HKI.out.size)).trans e1
      have HS := Lib.hid (gaSee_any B b m t false HB.out HMR.out (wr.alloc (.cells #[.int .i64 t, .slice q xs.length c] 55)) (HG.out.allocG _))
      unfold SeeP at HS
      rw [show seeErr t false = 0 by simp [seeErr, HTR.out], show seeLate t m false = decide (t < m) by simp [seeLate, seeErr, HTR.out], show seeMark b m t false = markStep b m t by simp [seeMark, seeErr, HTR.out]] at HS
      rw [← HNX.out] at HS
      generalize hm' : atTo b (timesE es) (i + 1) = m' at HS
      have HM' := Lib.hid hm'
      have HTB := Lib.hid (show Blk (wr.alloc (.cells #[.int .i64 t, .slice q xs.length c] 55)) wr.heap.size 55 #[.int .i64 t, .slice q xs.length c] from Blk.new _ _ _)
      have HJ1 := Lib.hid (abide_alloc HJ.out hJi (.cells #[.int .i64 t, .slice q xs.length c] 55))
      have HK1 := Lib.hid (HKI.out.trans (keepI_grew (B := B) (World.grownBy_alloc wr (.cells #[.int .i64 t, .slice q xs.length c] 55) _) hnB hLB hGB))
      have hBlt : B < wr.heap.size := HG.out.lt
      clear hm' hJi HG HKI
      gi_wp2_with fail
      refine ⟨trivial, fun _ => by omega, (callsIn_wide.2 HS.out).mono ?_⟩
      rintro e w2 ⟨rfl, hG2, hg2⟩
      have HJ2 := Lib.hid (HJ.out _ _ _ HJ1.out hg2)
      have HK2 := Lib.hid (HK1.out.trans (keepI_grew hg2 hnB hLB hGB))
      have HT2 := Lib.hid (show Blk w2 wr.heap.size 55 #[.int .i64 t, .slice q xs.length c] from HTB.out.keepG hg2 (by simp only [ne_eq, Option.some.injEq]; omega))
      have HG2 := Lib.hid hG2
      clear hG2 hg2 HJ1 HK1 HTB HS e1 e2 d0 d1
      have g0 : w2.cell? ⟨wr.heap.size, 0, none⟩ = some (.int .i64 t) := HT2.out.cell 0
      have g1 : w2.cell? ⟨wr.heap.size, 1, none⟩ = some (.slice q xs.length c) := HT2.out.cell 1
      have HCL := Lib.hid (fun W (hb : Below w2.heap.size w2 W) => cloneO_any q xs c (by omega) W (HV.out W (HK2.out.trans (keepI_grew (B := B) (grown_some (grown_of_below hb)) hnB hLB hGB))) c2)
      gi_wp2_with fail
      refine wpIn_region_any (by kernel_rfl) ?_
      try (change wpAnyIn _ _ _ _ _ _ _ _ _ (World.drew _))
      refine wpAnyIn_take (i := 0) (v := ?_) rfl rfl (by kernel_rfl) (by kernel_rfl) (by kernel_rfl) (fun _ _ _ h => h) ⟨Or.inl ⟨by rfl, ?_⟩, fun _ => rfl⟩ ?_
      rotate_left
      · intro w
        go_simp
        all_goals with_reducible rfl
      simp only [List.getElem_toArray, List.getElem_cons_succ, List.getElem_cons_zero, Act.put, List.setIfInBounds_toArray, List.set_cons_zero, List.set_cons_succ]
      refine wpAnyIn_take (i := 1) (v := ?_) rfl rfl (by kernel_rfl) (by kernel_rfl) (by kernel_rfl) (fun _ _ _ h => h) ⟨Or.inl ⟨by rfl, ?_⟩, fun _ => rfl⟩ ?_
      rotate_left
      · intro w
        go_simp
        all_goals with_reducible rfl
      simp only [List.getElem_toArray, List.getElem_cons_succ, List.getElem_cons_zero, Act.put, List.setIfInBounds_toArray, List.set_cons_zero, List.set_cons_succ]
      refine wpAnyIn_take (i := 3) (v := ?_) rfl rfl (by kernel_rfl) (by kernel_rfl) (by kernel_rfl) (fun _ _ _ h => h) ⟨Or.inl ⟨by rfl, ?_⟩, fun _ => rfl⟩ ?_
      rotate_left
      · intro w
        go_simp
        all_goals with_reducible rfl
      simp only [List.getElem_toArray, List.getElem_cons_succ, List.getElem_cons_zero, Act.put, List.setIfInBounds_toArray, List.set_cons_zero, List.set_cons_succ]
      refine wpAnyIn_take (i := 7) (v := ?_) rfl rfl (by kernel_rfl) (by kernel_rfl) (by kernel_rfl) (fun _ _ _ h => h) ⟨Or.inl ⟨by rfl, ?_⟩, fun _ => rfl⟩ ?_
      rotate_left
      · intro w
        go_simp
        all_goals with_reducible rfl
      simp only [List.getElem_toArray, List.getElem_cons_succ, List.getElem_cons_zero, Act.put, List.setIfInBounds_toArray, List.set_cons_zero, List.set_cons_succ]
      refine wpAnyIn_ready (rs := [2, 4]) (by kernel_rfl) (by simp) ?_
      refine AllReadyIn.cons rfl (fun K hK => ?_) (AllReadyIn.cons rfl (fun K hK => ?_) AllReadyIn.nil)
      · go_simp
        refine hK _ _ ?_
        clear hK K
        try simp only [List.getElem_toArray, List.getElem_cons_succ, List.getElem_cons_zero, Act.put, List.setIfInBounds_toArray, List.set_cons_zero, List.set_cons_succ]
        refine wpAnyIn_ready (rs := [4]) (by kernel_rfl) (by simp) ?_
        refine AllReadyIn.cons rfl (fun K hK => ?_) AllReadyIn.nil
        go_simp
        refine hK _ _ ?_
        clear hK K
        try simp only [List.getElem_toArray, List.getElem_cons_succ, List.getElem_cons_zero, Act.put, List.setIfInBounds_toArray, List.set_cons_zero, List.set_cons_succ]
        refine wpAnyIn_ready (rs := [5]) (by kernel_rfl) (by simp) ?_
        refine AllReadyIn.cons rfl (fun K hK => ?_) AllReadyIn.nil
        go_simp
        refine ⟨trivial, fun _ => by omega, (callsIn_wide.2 (HCL.out _ (Below.refl _ w2).drew)).mono ?_⟩
        rintro e w3 ⟨⟨rq, rx, rc⟩, rfl, hr1, hr2, hb3⟩
        dsimp only at hr1
        have hb3' := (Below.refl _ w2).drew.trans hb3
        have g2 : w3.cell? ⟨wr.heap.size, 0, none⟩ = some (.int .i64 t) := (hb3'.cell (p := ⟨wr.heap.size, 0, none⟩) HT2.out.lt).trans g0
        have HY3 := Lib.hid (HY.out pre (t, (rq, rx, rc), decide (t < m)) w3 (HJ.out _ _ _ HJ2.out (grown_some (grown_of_below hb3'))) ⟨by rw [hpl]; exact hlt, by rw [hpl, HPA.out]; dsimp only [strip]; rw [hr1], by have := ownsRow_base hr2 (Nat.le_trans hnW HK2.out.size); rwa [← hr1] at this, by show rx.length ≤ 8; rw [show rx = xs from hr1]; exact hr8, fun z hz => by have h9 := (hr2.lt z hz).1; have h8 : w2.heap.size ≤ z := h9; have h7 := HT2.out.lt; have h6 := HK2.out.size; omega⟩)
        have HG3 := Lib.hid (show GaP w3 B b m' false from HG2.out.belowV hb3' HG2.out.lt)
        have HK3 := Lib.hid (HK2.out.trans (keepI_grew (B := B) (grown_some (grown_of_below hb3')) hnB hLB hGB))
        have HR1 := Lib.hid (show rx = xs from hr1)
        clear hr1 hr2 hb3 hb3'
        dsimp only [rowv]
        go_simp
        refine hK _ _ ?_
        clear hK K
        try simp only [List.getElem_toArray, List.getElem_cons_succ, List.getElem_cons_zero, Act.put, List.setIfInBounds_toArray, List.set_cons_zero, List.set_cons_succ]
        refine wpAnyIn_take (i := 6) (v := ?_) rfl rfl (by kernel_rfl) (by kernel_rfl) (by kernel_rfl) (fun _ _ _ h => h) ⟨Or.inl ⟨by rfl, ?_⟩, fun _ => rfl⟩ ?_
        rotate_left
        · intro w
          go_simp
          all_goals with_reducible rfl
        simp only [List.getElem_toArray, List.getElem_cons_succ, List.getElem_cons_zero, Act.put, List.setIfInBounds_toArray, List.set_cons_zero, List.set_cons_succ]
        refine wpAnyIn_ready (rs := [8]) (by kernel_rfl) (by simp) ?_
        refine AllReadyIn.cons rfl (fun K hK => ?_) AllReadyIn.nil
        obtain ⟨fn, tmps, assign, body, hy, hR⟩ := HY3.out
        dsimp only [encE, rowv] at hy
        go_simp
        refine ⟨fun _ => by omega, hR.mono ?_⟩
        rintro e w4 ⟨rfl, hJ4, hk4⟩
        have HJ4 := Lib.hid hJ4
        have HG4 := Lib.hid (show GaP w4 B b m' false from (hk4.block B (.inr (.inl rfl)) HG3.out.lt).trans HG3.out)
        have HK4 := Lib.hid (HK3.out.trans hk4.i)
        clear hJ4 hk4 hy hR
        go_simp
        refine hK _ _ ?_
        clear hK K
        try simp only [List.getElem_toArray, List.getElem_cons_succ, List.getElem_cons_zero, Act.put, List.setIfInBounds_toArray, List.set_cons_zero, List.set_cons_succ]
        refine wpAnyIn_take (i := 9) (v := ?_) rfl rfl (by kernel_rfl) (by kernel_rfl) (by kernel_rfl) (fun _ _ _ h => h) ⟨Or.inl ⟨by rfl, ?_⟩, fun _ => rfl⟩ ?_
        rotate_left
        · intro w
          go_simp
          all_goals with_reducible rfl
        simp only [List.getElem_toArray, List.getElem_cons_succ, List.getElem_cons_zero, Act.put, List.setIfInBounds_toArray, List.set_cons_zero, List.set_cons_succ]
        refine wpAnyIn_done (by kernel_rfl) ?_ _
        gi_wp2_with fail
        go_roundw
        case rel => exact ⟨i + 1, pre ++ [(t, (rq, rx, rc), decide (t < m))], by go_num, by omega, by simp [hpl], by show _ = _; rw [List.map_append, HPL.out, plTo_next, HPA.out, ← HR1.out]; rfl, HJ4.out, by rw [HM'.out]; exact HG4.out, HK4.out⟩
        case measure => simp [intOf]; omega
      · go_simp
        refine hK _ _ ?_
        clear hK K
        try simp only [List.getElem_toArray, List.getElem_cons_succ, List.getElem_cons_zero, Act.put, List.setIfInBounds_toArray, List.set_cons_zero, List.set_cons_succ]
        refine wpAnyIn_ready (rs := [2, 5]) (by kernel_rfl) (by simp) ?_
        refine AllReadyIn.cons rfl (fun K hK => ?_) (AllReadyIn.cons rfl (fun K hK => ?_) AllReadyIn.nil)
        · go_simp
          refine hK _ _ ?_
          clear hK K
          try simp only [List.getElem_toArray, List.getElem_cons_succ, List.getElem_cons_zero, Act.put, List.setIfInBounds_toArray, List.set_cons_zero, List.set_cons_succ]
          refine wpAnyIn_ready (rs := [5]) (by kernel_rfl) (by simp) ?_
          refine AllReadyIn.cons rfl (fun K hK => ?_) AllReadyIn.nil
          go_simp
          refine ⟨trivial, fun _ => by omega, (callsIn_wide.2 (HCL.out _ (Below.refl _ w2).drew)).mono ?_⟩
          rintro e w3 ⟨⟨rq, rx, rc⟩, rfl, hr1, hr2, hb3⟩
          dsimp only at hr1
          have hb3' := (Below.refl _ w2).drew.trans hb3
          have g2 : w3.cell? ⟨wr.heap.size, 0, none⟩ = some (.int .i64 t) := (hb3'.cell (p := ⟨wr.heap.size, 0, none⟩) HT2.out.lt).trans g0
          have HY3 := Lib.hid (HY.out pre (t, (rq, rx, rc), decide (t < m)) w3 (HJ.out _ _ _ HJ2.out (grown_some (grown_of_below hb3'))) ⟨by rw [hpl]; exact hlt, by rw [hpl, HPA.out]; dsimp only [strip]; rw [hr1], by have := ownsRow_base hr2 (Nat.le_trans hnW HK2.out.size); rwa [← hr1] at this, by show rx.length ≤ 8; rw [show rx = xs from hr1]; exact hr8, fun z hz => by have h9 := (hr2.lt z hz).1; have h8 : w2.heap.size ≤ z := h9; have h7 := HT2.out.lt; have h6 := HK2.out.size; omega⟩)
          have HG3 := Lib.hid (show GaP w3 B b m' false from HG2.out.belowV hb3' HG2.out.lt)
          have HK3 := Lib.hid (HK2.out.trans (keepI_grew (B := B) (grown_some (grown_of_below hb3')) hnB hLB hGB))
          have HR1 := Lib.hid (show rx = xs from hr1)
          clear hr1 hr2 hb3 hb3'
          dsimp only [rowv]
          go_simp
          refine hK _ _ ?_
          clear hK K
          try simp only [List.getElem_toArray, List.getElem_cons_succ, List.getElem_cons_zero, Act.put, List.setIfInBounds_toArray, List.set_cons_zero, List.set_cons_succ]
          refine wpAnyIn_take (i := 6) (v := ?_) rfl rfl (by kernel_rfl) (by kernel_rfl) (by kernel_rfl) (fun _ _ _ h => h) ⟨Or.inl ⟨by rfl, ?_⟩, fun _ => rfl⟩ ?_
          rotate_left
          · intro w
            go_simp
            all_goals with_reducible rfl
          simp only [List.getElem_toArray, List.getElem_cons_succ, List.getElem_cons_zero, Act.put, List.setIfInBounds_toArray, List.set_cons_zero, List.set_cons_succ]
          refine wpAnyIn_ready (rs := [8]) (by kernel_rfl) (by simp) ?_
          refine AllReadyIn.cons rfl (fun K hK => ?_) AllReadyIn.nil
          obtain ⟨fn, tmps, assign, body, hy, hR⟩ := HY3.out
          dsimp only [encE, rowv] at hy
          go_simp
          refine ⟨fun _ => by omega, hR.mono ?_⟩
          rintro e w4 ⟨rfl, hJ4, hk4⟩
          have HJ4 := Lib.hid hJ4
          have HG4 := Lib.hid (show GaP w4 B b m' false from (hk4.block B (.inr (.inl rfl)) HG3.out.lt).trans HG3.out)
          have HK4 := Lib.hid (HK3.out.trans hk4.i)
          clear hJ4 hk4 hy hR
          go_simp
          refine hK _ _ ?_
          clear hK K
          try simp only [List.getElem_toArray, List.getElem_cons_succ, List.getElem_cons_zero, Act.put, List.setIfInBounds_toArray, List.set_cons_zero, List.set_cons_succ]
          refine wpAnyIn_take (i := 9) (v := ?_) rfl rfl (by kernel_rfl) (by kernel_rfl) (by kernel_rfl) (fun _ _ _ h => h) ⟨Or.inl ⟨by rfl, ?_⟩, fun _ => rfl⟩ ?_
          rotate_left
          · intro w
            go_simp
            all_goals with_reducible rfl
          simp only [List.getElem_toArray, List.getElem_cons_succ, List.getElem_cons_zero, Act.put, List.setIfInBounds_toArray, List.set_cons_zero, List.set_cons_succ]
          refine wpAnyIn_done (by kernel_rfl) ?_ _
          gi_wp2_with fail
          go_roundw
          case rel => exact ⟨i + 1, pre ++ [(t, (rq, rx, rc), decide (t < m))], by go_num, by omega, by simp [hpl], by show _ = _; rw [List.map_append, HPL.out, plTo_next, HPA.out, ← HR1.out]; rfl, HJ4.out, by rw [HM'.out]; exact HG4.out, HK4.out⟩
          case measure => simp [intOf]; omega
        · go_simp
          refine ⟨trivial, fun _ => by omega, (callsIn_wide.2 (HCL.out _ (Below.refl _ w2).drew)).mono ?_⟩
          rintro e w3 ⟨⟨rq, rx, rc⟩, rfl, hr1, hr2, hb3⟩
          dsimp only at hr1
          have hb3' := (Below.refl _ w2).drew.trans hb3
          have g2 : w3.cell? ⟨wr.heap.size, 0, none⟩ = some (.int .i64 t) := (hb3'.cell (p := ⟨wr.heap.size, 0, none⟩) HT2.out.lt).trans g0
          have HY3 := Lib.hid (HY.out pre (t, (rq, rx, rc), decide (t < m)) w3 (HJ.out _ _ _ HJ2.out (grown_some (grown_of_below hb3'))) ⟨by rw [hpl]; exact hlt, by rw [hpl, HPA.out]; dsimp only [strip]; rw [hr1], by have := ownsRow_base hr2 (Nat.le_trans hnW HK2.out.size); rwa [← hr1] at this, by show rx.length ≤ 8; rw [show rx = xs from hr1]; exact hr8, fun z hz => by have h9 := (hr2.lt z hz).1; have h8 : w2.heap.size ≤ z := h9; have h7 := HT2.out.lt; have h6 := HK2.out.size; omega⟩)
          have HG3 := Lib.hid (show GaP w3 B b m' false from HG2.out.belowV hb3' HG2.out.lt)
          have HK3 := Lib.hid (HK2.out.trans (keepI_grew (B := B) (grown_some (grown_of_below hb3')) hnB hLB hGB))
          have HR1 := Lib.hid (show rx = xs from hr1)
          clear hr1 hr2 hb3 hb3'
          dsimp only [rowv]
          go_simp
          refine hK _ _ ?_
          clear hK K
          try simp only [List.getElem_toArray, List.getElem_cons_succ, List.getElem_cons_zero, Act.put, List.setIfInBounds_toArray, List.set_cons_zero, List.set_cons_succ]
          refine wpAnyIn_ready (rs := [2]) (by kernel_rfl) (by simp) ?_
          refine AllReadyIn.cons rfl (fun K hK => ?_) AllReadyIn.nil
          go_simp
          refine hK _ _ ?_
          clear hK K
          try simp only [List.getElem_toArray, List.getElem_cons_succ, List.getElem_cons_zero, Act.put, List.setIfInBounds_toArray, List.set_cons_zero, List.set_cons_succ]
          refine wpAnyIn_take (i := 6) (v := ?_) rfl rfl (by kernel_rfl) (by kernel_rfl) (by kernel_rfl) (fun _ _ _ h => h) ⟨Or.inl ⟨by rfl, ?_⟩, fun _ => rfl⟩ ?_
          rotate_left
          · intro w
            go_simp
            all_goals with_reducible rfl
          simp only [List.getElem_toArray, List.getElem_cons_succ, List.getElem_cons_zero, Act.put, List.setIfInBounds_toArray, List.set_cons_zero, List.set_cons_succ]
          refine wpAnyIn_ready (rs := [8]) (by kernel_rfl) (by simp) ?_
          refine AllReadyIn.cons rfl (fun K hK => ?_) AllReadyIn.nil
          obtain ⟨fn, tmps, assign, body, hy, hR⟩ := HY3.out
          dsimp only [encE, rowv] at hy
          go_simp
          refine ⟨fun _ => by omega, hR.mono ?_⟩
          rintro e w4 ⟨rfl, hJ4, hk4⟩
          have HJ4 := Lib.hid hJ4
          have HG4 := Lib.hid (show GaP w4 B b m' false from (hk4.block B (.inr (.inl rfl)) HG3.out.lt).trans HG3.out)
          have HK4 := Lib.hid (HK3.out.trans hk4.i)
          clear hJ4 hk4 hy hR
          go_simp
          refine hK _ _ ?_
          clear hK K
          try simp only [List.getElem_toArray, List.getElem_cons_succ, List.getElem_cons_zero, Act.put, List.setIfInBounds_toArray, List.set_cons_zero, List.set_cons_succ]
          refine wpAnyIn_take (i := 9) (v := ?_) rfl rfl (by kernel_rfl) (by kernel_rfl) (by kernel_rfl) (fun _ _ _ h => h) ⟨Or.inl ⟨by rfl, ?_⟩, fun _ => rfl⟩ ?_
          rotate_left
          · intro w
            go_simp
            all_goals with_reducible rfl
          simp only [List.getElem_toArray, List.getElem_cons_succ, List.getElem_cons_zero, Act.put, List.setIfInBounds_toArray, List.set_cons_zero, List.set_cons_succ]
          refine wpAnyIn_done (by kernel_rfl) ?_ _
          gi_wp2_with fail
          go_roundw
          case rel => exact ⟨i + 1, pre ++ [(t, (rq, rx, rc), decide (t < m))], by go_num, by omega, by simp [hpl], by show _ = _; rw [List.map_append, HPL.out, plTo_next, HPA.out, ← HR1.out]; rfl, HJ4.out, by rw [HM'.out]; exact HG4.out, HK4.out⟩
          case measure => simp [intOf]; omega
    · have hie : i = es.length := by omega
      have hge : es.length ≤ i := by omega
      have hge' : (es.length : Int) ≤ (i : Int) := by omega
      have HP := Lib.hid (show pre.map strip = plTo b es es.length from by have := HPL.out; rwa [hie] at this)
      have HJ3 := Lib.hid hJi
      clear hie HPL hJi
      gi_wp2_with fail
      go_end0
      exact ⟨⟨_, rfl⟩, pre, HP.out, HJ3.out⟩
end Go.Proofs.Ytmnbcofonhlplaa
