/-
  The reader of package row at any text: null, number.
-/
import Derived.Test.YtmjobnakaamlpaaDoorRp
namespace Go.Proofs.YtmjobnakaamlpaaDoor
open Go.RowKit Go.Lib
set_option linter.unusedSimpArgs false
set_option linter.unusedVariables false

theorem cut_first (t s : List UInt8) : ∃ r, t = (Lib.cut t s).1 ++ r := by
  unfold Lib.cut
  split
  · exact ⟨_, (List.take_append_drop _ _).symm⟩
  · exact ⟨[], by simp⟩
set_option maxRecDepth 100000 in
set_option maxHeartbeats 2000000 in
theorem number_at (R B : Nat) (t : List UInt8) (hl : t.length ≤ 70000) (n : Int) (D r : List UInt8) (ht : t = D ++ r) (hc : (Lib.cut t [44]).1 = D) (hn : wordNum D = some n) (w : World) (h : Rdr w R t) (hE : Env B w) (hB : B ≤ R) :
    Calls Tryd.prog 34 #[.pointer (some ⟨R, 0, none⟩)] w (RdPost w R (.tuple #[.agg #[.int .i64 1, .int .i64 n, .string ⟨#[]⟩], .bool true]) r) := by
  have hRl : R < w.heap.size := Blk.lt h
  have hb1 : Below w.heap.size w (w.alloc (.cells #[.int .i64 0, .int .i64 0, .string ⟨#[]⟩] 37)) := (Below.refl _ _).alloc (Nat.le_refl _) _
  have h1 := h.belowV hb1
  have hk1 : Blk (w.alloc (.cells #[.int .i64 0, .int .i64 0, .string ⟨#[]⟩] 37)) w.heap.size 37 #[.int .i64 0, .int .i64 0, .string ⟨#[]⟩] := Blk.new _ _ _
  have hs1 : (w.alloc (.cells #[.int .i64 0, .int .i64 0, .string ⟨#[]⟩] 37)).heap.size = w.heap.size + 1 := by simp
  have hg1 := grew_below R hb1
  have hE1 := hE.on (hb1.mono (by omega))
  generalize hw1 : w.alloc (.cells #[.int .i64 0, .int .i64 0, .string ⟨#[]⟩] 37) = w1 at h1 hk1 hs1 hg1 hE1
  have hc0 : w1.cell? ⟨R, 0, none⟩ = some (.string (bs t)) := Blk.cell h1 0
  obtain ⟨m, hm⟩ := hE1.max w1 (Below.refl _ _)
  have HC := Tryd.strings_Cut (bs t) ⟨#[44]⟩ m w1 (by rw [bs_size]; omega) hm
  rw [bs_data, show (⟨#[44]⟩ : ByteArray).data.toList = [44] from rfl] at HC
  rw [hc] at HC
  have hq : D.length ≤ t.length := by rw [ht, List.length_append]; omega
  have HC := Lib.hid HC
  have HA := Lib.hid fun W (k : Below B w1 W) => atoi_any ⟨D.toArray⟩ (by show D.toArray.size ≤ 1000000; rw [List.size_toArray]; omega) B W (hE1.on k)
  rw [show (⟨D.toArray⟩ : ByteArray).data.toList = D from rfl] at HA
  unfold AtoiPost at HA
  rw [hn] at HA
  have hds : (⟨D.toArray⟩ : ByteArray).size = D.length := bs_size _
  have hts : (bs t).size = t.length := bs_size _
  have hdr : (bs t).extract D.length (bs t).size = bs r := by rw [bs_drop, ht, List.drop_left]
  have HK1 := Lib.hid (And.intro hk1 hg1)
  have HR1 := Lib.hid h1
  have hBw : B ≤ w1.heap.size := by omega
  clear h h1 hk1 hg1 hb1 hE hE1 hm hc
  have g1 : (0 : Int) ≤ ((⟨D.toArray⟩ : ByteArray).size : Int) := by omega
  have g2 : ((⟨D.toArray⟩ : ByteArray).size : Int) ≤ ((bs t).size : Int) := by omega
  have g3 : (⟨D.toArray⟩ : ByteArray).size ≤ (bs t).size := by omega
  rw [← hds] at hdr
  generalize (⟨D.toArray⟩ : ByteArray) = dg at HC HA hdr g1 g2 g3 hds
  clear hds hts hq ht hl hn
  generalize (⟨(Lib.cut t [44]).2.1.toArray⟩ : ByteArray) = ds at HC
  generalize (Lib.cut t [44]).2.2 = db at HC
  go_enter Tryd.func34, Tryd.ntmps34
  go_wp2_with fail
  refine HC.out.mono ?_
  rintro e w2 ⟨rfl, kk, hw2⟩
  have kb : Below w1.heap.size w1 w2 := by rw [hw2]; exact ⟨rfl, rfl, rfl, Nat.le_refl _, fun _ _ => rfl⟩
  have HK2 := Lib.hid (And.intro (HK1.out.1.belowV kb HK1.out.1.lt) (HK1.out.2.and (grew_below R kb)))
  have HR2 := Lib.hid (HR1.out.belowV kb)
  have HA2 := Lib.hid (HA.out w2 (kb.mono hBw))
  have hs2 : w1.heap.size ≤ w2.heap.size := kb.size
  clear hw2 kb HC HA HK1 HR1
  go_wp2_with fail
  refine HA2.out.mono ?_
  rintro e w3 ⟨v, rr, rfl, h3 | ⟨h3, _⟩, k3⟩
  rotate_left
  · cases h3
  obtain ⟨h3, rfl⟩ := h3
  obtain rfl := Option.some.inj h3
  have hk3 := HK2.out.1.belowV k3 HK2.out.1.lt
  have HG := Lib.hid (HK2.out.2.and (grew_below R k3))
  have HK := Lib.hid hk3
  have hr3 := HR2.out.belowV k3
  have HR := Lib.hid hr3
  have c0 := hk3.cell 0
  have c1 := hk3.cell 1
  have c2 := hk3.cell 2
  have f0 := hk3.froz 0
  have f1 := hk3.froz 1
  have f2 := hk3.froz 2
  simp only [List.getElem?_toArray, List.getElem?_cons_zero, List.getElem?_cons_succ] at c0 c1 c2
  have e0 : w3.cell? ⟨R, 0, none⟩ = some (.string (bs t)) := Blk.cell hr3 0
  have e1 := Blk.froz hr3 0
  clear hk3 hr3 k3 HA2 HK2 HR2 h3
  have HRS := Lib.hid (show Rdr (w3.setCell ⟨R, 0, none⟩ (.string (bs r))) R r ∧ Grew w R (w3.setCell ⟨R, 0, none⟩ (.string (bs r))) ∧ Blk (w3.setCell ⟨R, 0, none⟩ (.string (bs r))) w.heap.size 37 #[.int .i64 0, .int .i64 0, .string ⟨#[]⟩] from ⟨HR.out.set _, HG.out.and (grew_set _ _ _), HK.out.setOther (by omega) _⟩)
  have HF := Lib.hid (show Rdr ((((w3.setCell ⟨R, 0, none⟩ (.string (bs r))).setCell ⟨w.heap.size, 0, none⟩ (.int .i64 1)).setCell ⟨w.heap.size, 1, none⟩ (.int .i64 n)).setCell ⟨w.heap.size, 2, none⟩ (.string ⟨#[]⟩)) R r ∧ Grew w R ((((w3.setCell ⟨R, 0, none⟩ (.string (bs r))).setCell ⟨w.heap.size, 0, none⟩ (.int .i64 1)).setCell ⟨w.heap.size, 1, none⟩ (.int .i64 n)).setCell ⟨w.heap.size, 2, none⟩ (.string ⟨#[]⟩)) ∧ Blk ((((w3.setCell ⟨R, 0, none⟩ (.string (bs r))).setCell ⟨w.heap.size, 0, none⟩ (.int .i64 1)).setCell ⟨w.heap.size, 1, none⟩ (.int .i64 n)).setCell ⟨w.heap.size, 2, none⟩ (.string ⟨#[]⟩)) w.heap.size 37 #[.int .i64 1, .int .i64 n, .string ⟨#[]⟩] from
    ⟨Blk.setOther (Blk.setOther (Blk.setOther HRS.out.1 (by omega) _) (by omega) _) (by omega) _, grew_low HRS.out.2.1 (((Below.refl w.heap.size (w3.setCell ⟨R, 0, none⟩ (.string (bs r)))).setCell (p := ⟨w.heap.size, 0, none⟩) (Nat.le_refl _) _).setCell (p := ⟨w.heap.size, 1, none⟩) (Nat.le_refl _) _ |>.setCell (p := ⟨w.heap.size, 2, none⟩) (Nat.le_refl _) _) (Nat.le_refl _), ((HRS.out.2.2.setG 0 _).setG 1 _).setG 2 _⟩)
  go_wp2_with fail
  have r0 := HF.out.2.2.cell 0
  have r1 := HF.out.2.2.cell 1
  have r2 := HF.out.2.2.cell 2
  simp only [List.getElem?_toArray, List.getElem?_cons_zero, List.getElem?_cons_succ] at r0 r1 r2
  refine bodyPost_ret (v := .tuple #[.agg #[.int .i64 1, .int .i64 n, .string ⟨#[]⟩], .bool true]) (by simp [results, Tryd.f34, go_sem, r0, r1, r2]) rfl ?_
  exact ⟨rfl, HF.out.1, HF.out.2.1⟩

theorem wordNum_pos {D : List UInt8} {n : Int} (h : wordNum D = some n) : 0 < D.length := by
  cases D with
  | nil => rw [show wordNum [] = none from by decide] at h; cases h
  | cons a r => simp
theorem number_any (R B : Nat) (t : List UInt8) (hl : t.length ≤ 70000) (w : World) (h : Rdr w R t) (hE : Env B w) (hB : B ≤ R) :
    Calls Tryd.prog 34 #[.pointer (some ⟨R, 0, none⟩)] w (ValPost w R t.length) := by
  cases hn : wordNum (Lib.cut t [44]).1 with
  | none =>
    refine (number_bad R B t hl hn w h hE hB).mono ?_
    rintro e w' ⟨rfl, h1, h2⟩
    exact ⟨0, 0, ⟨#[]⟩, false, t, rfl, h1, Nat.le_refl _, fun h => (by cases h), h2⟩
  | some n =>
    obtain ⟨r, hr⟩ := cut_first t [44]
    have hp := wordNum_pos hn
    refine (number_at R B t hl n (Lib.cut t [44]).1 r hr rfl hn w h hE hB).mono ?_
    rintro e w' ⟨rfl, h1, h2⟩
    have hlen : t.length = (Lib.cut t [44]).1.length + r.length := by conv => lhs; rw [hr, List.length_append]
    exact ⟨1, n, ⟨#[]⟩, true, r, rfl, h1, by omega, fun _ => by omega, h2⟩
theorem null_val (R : Nat) (t : List UInt8) (w : World) (h : Rdr w R t) :
    Calls Tryd.prog 33 #[.pointer (some ⟨R, 0, none⟩)] w (ValPost w R t.length) := by
  refine (null_any R t w h).mono ?_
  rintro e w' ⟨rfl, h1, h2⟩
  exact ⟨0, 0, ⟨#[]⟩, _, _, rfl, h1, trim_len _ _, fun h => trim_less h (by decide), h2⟩
end Go.Proofs.YtmjobnakaamlpaaDoor
