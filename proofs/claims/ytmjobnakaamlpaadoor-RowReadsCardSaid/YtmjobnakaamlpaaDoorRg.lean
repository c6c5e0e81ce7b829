/-
  The reader of package row: null, number.
-/
import Derived.Test.YtmjobnakaamlpaaDoorRf
import Derived.Test.YtmjobnakaamlpaaDoorTq
import Derived.Lib.AtoiBound
namespace Go.Proofs.YtmjobnakaamlpaaDoor
open Go.RowKit Go.Lib
set_option linter.unusedSimpArgs false
set_option linter.unusedVariables false

/-- What the library's variables hold, as long as no old block turns. -/
structure Env (B : Nat) (w : World) : Prop where
  tab : Tab B w
  max : ∀ w', Below B w w' → ∃ k, w'.cell? ⟨1, 0, none⟩ = some (.int .i64 k)
  err : ∀ w', Below B w w' → ∃ te pe, w'.cell? ⟨2, 0, none⟩ = some (.iface te pe)
  rng : ∀ w', Below B w w' → ∃ te pe, w'.cell? ⟨3, 0, none⟩ = some (.iface te pe)
theorem Env.on {B : Nat} {w w1 : World} (h : Env B w) (k : Below B w w1) : Env B w1 := ⟨fun w' hb => h.tab w' (k.trans hb), fun w' hb => h.max w' (k.trans hb), fun w' hb => h.err w' (k.trans hb), fun w' hb => h.rng w' (k.trans hb)⟩
theorem Env.up {B : Nat} {w : World} (h : Env B w) (hB : B ≤ w.heap.size) : Env w.heap.size w := ⟨fun w' hb => h.tab w' (hb.mono hB), fun w' hb => h.max w' (hb.mono hB), fun w' hb => h.err w' (hb.mono hB), fun w' hb => h.rng w' (hb.mono hB)⟩
theorem Grew.low {w w' : World} {R B : Nat} (h : Grew w R w') (hB : B ≤ R) (hw : B ≤ w.heap.size) : Below B w w' := (Below.refl _ _).grown h hw (fun k e => by simp at e; omega)
def wordNum (x : List UInt8) : Option Int := match Lib.atoiAll x with
  | .ok v => some v
  | _ => none
def AtoiPost (x : List UInt8) (w : World) (e : Ending) (w' : World) : Prop := ∃ v r, e = .returned (.tuple #[.int .i64 v, r]) ∧ ((wordNum x = some v ∧ r = .nilIface) ∨ (wordNum x = none ∧ ∃ t q, r = .iface t q)) ∧ Below w.heap.size w w'
theorem atoi_any (s : ByteArray) (hs : s.size ≤ 1000000) (B : Nat) (w : World) (hE : Env B w) : Calls Tryd.prog 41 #[.string s] w (AtoiPost s.data.toList w) := by
  unfold AtoiPost wordNum
  cases h : Lib.atoiAll s.data.toList with
  | ok v =>
    refine (Tryd.strconv_Atoi_ok s (by omega) v h w).mono ?_
    rintro e w' ⟨he, hw | ⟨t, hw⟩⟩
    · exact ⟨v, _, he, .inl ⟨rfl, rfl⟩, hw ▸ Below.refl _ _⟩
    · exact ⟨v, _, he, .inl ⟨rfl, rfl⟩, hw ▸ below_bytesT _ _ _⟩
  | «syntax» =>
    obtain ⟨te, pe, hv⟩ := hE.err w (Below.refl _ _)
    refine (Tryd.strconv_Atoi_syntax s (by omega) h (.iface te pe) w hv (.inr ⟨te, pe, rfl⟩)).mono ?_
    rintro e w' ⟨N, he, _, _, hb⟩
    exact ⟨0, _, he, .inr ⟨rfl, _, _, rfl⟩, hb⟩
  | range =>
    obtain ⟨te, pe, hv⟩ := hE.rng w (Below.refl _ _)
    refine (Tryd.strconv_Atoi_range s (by omega) h (.iface te pe) w hv (.inr ⟨te, pe, rfl⟩)).mono ?_
    rintro e w' ⟨N, he, _, _, hb⟩
    exact ⟨_, _, he, .inr ⟨rfl, _, _, rfl⟩, hb⟩
theorem wordNum_itoa {n : Int} (h0 : -1000000000000000000 < n) (h1 : n < 1000000000000000000) : wordNum (itoa n) = some n := by
  unfold wordNum; rw [atoi_itoa h0 h1]
theorem wordNum_quote (r : List UInt8) : wordNum (34 :: r) = none := by
  unfold wordNum
  have : Lib.atoiAll (34 :: r) = .syntax := by
    unfold Lib.atoiAll
    simp [Lib.parseMag, Lib.parseUint10]
  rw [this]
def blank : List UInt8 := [126]

set_option maxRecDepth 100000 in
set_option maxHeartbeats 2000000 in
theorem null_any (R : Nat) (t : List UInt8) (w : World) (h : Rdr w R t) :
    Calls Tryd.prog 33 #[.pointer (some ⟨R, 0, none⟩)] w (RdPost w R (.tuple #[.agg #[.int .i64 0, .int .i64 0, .string ⟨#[]⟩], .bool (Lib.hasPrefix t [126])]) (Lib.trimPrefix t [126])) := by
  have hRl : R < w.heap.size := Blk.lt h
  have hb1 : Below w.heap.size w (w.alloc (.cells #[.int .i64 0, .int .i64 0, .string ⟨#[]⟩] 37)) := (Below.refl _ _).alloc (Nat.le_refl _) _
  have h1 := h.belowV hb1
  have hk1 : Blk (w.alloc (.cells #[.int .i64 0, .int .i64 0, .string ⟨#[]⟩] 37)) w.heap.size 37 #[.int .i64 0, .int .i64 0, .string ⟨#[]⟩] := Blk.new _ _ _
  have hs1 : (w.alloc (.cells #[.int .i64 0, .int .i64 0, .string ⟨#[]⟩] 37)).heap.size = w.heap.size + 1 := by simp
  have hg1 := grew_below R hb1
  generalize hw1 : w.alloc (.cells #[.int .i64 0, .int .i64 0, .string ⟨#[]⟩] 37) = w1 at h1 hk1 hs1 hg1
  have HT := take_any R t [126] w1 h1
  unfold bs at HT
  simp only [List.toArray] at HT
  have HT := Lib.hid HT
  have HK1 := Lib.hid (And.intro hk1 hg1)
  clear h h1 hk1 hg1 hb1
  generalize Lib.hasPrefix t [126] = b at HT ⊢
  generalize Lib.trimPrefix t [126] = t' at HT ⊢
  go_enter Tryd.func33, Tryd.ntmps33
  go_wp2_with fail
  refine HT.out.mono ?_
  rintro e w2 ⟨rfl, r2, k2⟩
  have hk2 := HK1.out.1.keepG k2 (by simp only [ne_eq, Option.some.injEq]; omega)
  have HR := Lib.hid r2
  have HG := Lib.hid (HK1.out.2.and k2)
  have HK := Lib.hid hk2
  have c0 := hk2.cell 0
  have c1 := hk2.cell 1
  have c2 := hk2.cell 2
  have f0 := hk2.froz 0
  have f1 := hk2.froz 1
  have f2 := hk2.froz 2
  simp only [List.getElem?_toArray, List.getElem?_cons_zero, List.getElem?_cons_succ] at c0 c1 c2
  clear r2 k2 hk2 HT HK1
  have HF := Lib.hid (show Rdr (((w2.setCell ⟨w.heap.size, 0, none⟩ (.int .i64 0)).setCell ⟨w.heap.size, 1, none⟩ (.int .i64 0)).setCell ⟨w.heap.size, 2, none⟩ (.string ⟨#[]⟩)) R t' ∧ Grew w R (((w2.setCell ⟨w.heap.size, 0, none⟩ (.int .i64 0)).setCell ⟨w.heap.size, 1, none⟩ (.int .i64 0)).setCell ⟨w.heap.size, 2, none⟩ (.string ⟨#[]⟩)) ∧ Blk (((w2.setCell ⟨w.heap.size, 0, none⟩ (.int .i64 0)).setCell ⟨w.heap.size, 1, none⟩ (.int .i64 0)).setCell ⟨w.heap.size, 2, none⟩ (.string ⟨#[]⟩)) w.heap.size 37 #[.int .i64 0, .int .i64 0, .string ⟨#[]⟩] from
    ⟨Blk.setOther (Blk.setOther (Blk.setOther HR.out (by omega) _) (by omega) _) (by omega) _, grew_low HG.out (((Below.refl w.heap.size w2).setCell (p := ⟨w.heap.size, 0, none⟩) (Nat.le_refl _) _).setCell (p := ⟨w.heap.size, 1, none⟩) (Nat.le_refl _) _ |>.setCell (p := ⟨w.heap.size, 2, none⟩) (Nat.le_refl _) _) (Nat.le_refl _), ((HK.out.setG 0 _).setG 1 _).setG 2 _⟩)
  go_wp2_with fail
  have r0 := HF.out.2.2.cell 0
  have r1 := HF.out.2.2.cell 1
  have r2 := HF.out.2.2.cell 2
  simp only [List.getElem?_toArray, List.getElem?_cons_zero, List.getElem?_cons_succ] at r0 r1 r2
  refine bodyPost_ret (v := .tuple #[.agg #[.int .i64 0, .int .i64 0, .string ⟨#[]⟩], .bool b]) (by simp [results, Tryd.f33, go_sem, r0, r1, r2]) rfl ?_
  exact ⟨rfl, HF.out.1, HF.out.2.1⟩

set_option maxRecDepth 100000 in
set_option maxHeartbeats 2000000 in
theorem number_bad (R B : Nat) (t : List UInt8) (hl : t.length ≤ 70000) (hn : wordNum (Lib.cut t [44]).1 = none) (w : World) (h : Rdr w R t) (hE : Env B w) (hB : B ≤ R) :
    Calls Tryd.prog 34 #[.pointer (some ⟨R, 0, none⟩)] w (RdPost w R (.tuple #[.agg #[.int .i64 0, .int .i64 0, .string ⟨#[]⟩], .bool false]) t) := by
  have hRl : R < w.heap.size := Blk.lt h
  have hb1 : Below w.heap.size w (w.alloc (.cells #[.int .i64 0, .int .i64 0, .string ⟨#[]⟩] 37)) := (Below.refl _ _).alloc (Nat.le_refl _) _
  have h1 := h.belowV hb1
  have hk1 : Blk (w.alloc (.cells #[.int .i64 0, .int .i64 0, .string ⟨#[]⟩] 37)) w.heap.size 37 #[.int .i64 0, .int .i64 0, .string ⟨#[]⟩] := Blk.new _ _ _
  have hs1 : (w.alloc (.cells #[.int .i64 0, .int .i64 0, .string ⟨#[]⟩] 37)).heap.size = w.heap.size + 1 := by simp
  have hg1 := grew_below R hb1
  have hE1 := hE.on (hb1.mono (by omega))
  generalize hw1 : w.alloc (.cells #[.int .i64 0, .int .i64 0, .string ⟨#[]⟩] 37) = w1 at h1 hk1 hs1 hg1 hE1
  have hc0 : w1.cell? ⟨R, 0, none⟩ = some (.string (bs t)) := Blk.cell h1 0
  obtain ⟨m, hm⟩ := hE1.max w1 (Below.refl _ _)
  have HC := Tryd.strings_Cut (bs t) ⟨#[44]⟩ m w1 (by rw [bs_size]; omega) hm
  rw [bs_data, show (⟨#[44]⟩ : ByteArray).data.toList = [44] from rfl] at HC
  have hq : (Lib.cut t [44]).1.length ≤ t.length := by
    unfold Lib.cut
    split
    · rw [List.length_take]; omega
    · exact Nat.le_refl _
  have HC := Lib.hid HC
  have HA := Lib.hid fun W (k : Below B w1 W) => atoi_any ⟨((Lib.cut t [44]).1).toArray⟩ (by show ((Lib.cut t [44]).1).toArray.size ≤ 1000000; rw [List.size_toArray]; omega) B W (hE1.on k)
  rw [show (⟨((Lib.cut t [44]).1).toArray⟩ : ByteArray).data.toList = (Lib.cut t [44]).1 from rfl] at HA
  unfold AtoiPost at HA
  rw [hn] at HA
  have HK1 := Lib.hid (And.intro hk1 hg1)
  have HR1 := Lib.hid h1
  have hBw : B ≤ w1.heap.size := by omega
  clear h h1 hk1 hg1 hb1 hE hE1 hm
  generalize (⟨((Lib.cut t [44]).1).toArray⟩ : ByteArray) = dg at HC HA
  generalize hbt : bs t = y at hc0 HC
  clear hq hl hn hbt
  generalize (⟨(Lib.cut t [44]).2.1.toArray⟩ : ByteArray) = ds at HC
  generalize (Lib.cut t [44]).2.2 = db at HC
  go_enter Tryd.func34, Tryd.ntmps34
  go_wp2_with fail
  refine HC.out.mono ?_
  rintro e w2 ⟨rfl, kk, hw2⟩
  have kb : Below w1.heap.size w1 w2 := by rw [hw2]; exact ⟨rfl, rfl, rfl, Nat.le_refl _, fun _ _ => rfl⟩
  have HK2 := Lib.hid (And.intro (HK1.out.1.belowV kb HK1.out.1.lt) (HK1.out.2.and (grew_below R kb)))
  have HR2 := Lib.hid (HR1.out.belowV kb)
  have HA2 := Lib.hid (HA.out w2 (kb.mono hBw))
  have hs2 : w1.heap.size ≤ w2.heap.size := kb.size
  clear hw2 kb HC HA HK1 HR1
  go_wp2_with fail
  refine HA2.out.mono ?_
  rintro e w3 ⟨v, rr, rfl, ⟨h3, _⟩ | ⟨_, te, pe, rfl⟩, k3⟩
  · cases h3
  have hk3 := HK2.out.1.belowV k3 HK2.out.1.lt
  have HG := Lib.hid (HK2.out.2.and (grew_below R k3))
  have HK := Lib.hid hk3
  have hr3 := HR2.out.belowV k3
  have HR := Lib.hid hr3
  have c0 := hk3.cell 0
  have c1 := hk3.cell 1
  have c2 := hk3.cell 2
  have f0 := hk3.froz 0
  have f1 := hk3.froz 1
  have f2 := hk3.froz 2
  simp only [List.getElem?_toArray, List.getElem?_cons_zero, List.getElem?_cons_succ] at c0 c1 c2
  clear hk3 hr3 k3 HA2 HK2 HR2
  have HF := Lib.hid (show Rdr (((w3.setCell ⟨w.heap.size, 0, none⟩ (.int .i64 0)).setCell ⟨w.heap.size, 1, none⟩ (.int .i64 0)).setCell ⟨w.heap.size, 2, none⟩ (.string ⟨#[]⟩)) R t ∧ Grew w R (((w3.setCell ⟨w.heap.size, 0, none⟩ (.int .i64 0)).setCell ⟨w.heap.size, 1, none⟩ (.int .i64 0)).setCell ⟨w.heap.size, 2, none⟩ (.string ⟨#[]⟩)) ∧ Blk (((w3.setCell ⟨w.heap.size, 0, none⟩ (.int .i64 0)).setCell ⟨w.heap.size, 1, none⟩ (.int .i64 0)).setCell ⟨w.heap.size, 2, none⟩ (.string ⟨#[]⟩)) w.heap.size 37 #[.int .i64 0, .int .i64 0, .string ⟨#[]⟩] from
    ⟨Blk.setOther (Blk.setOther (Blk.setOther HR.out (by omega) _) (by omega) _) (by omega) _, grew_low HG.out (((Below.refl w.heap.size w3).setCell (p := ⟨w.heap.size, 0, none⟩) (Nat.le_refl _) _).setCell (p := ⟨w.heap.size, 1, none⟩) (Nat.le_refl _) _ |>.setCell (p := ⟨w.heap.size, 2, none⟩) (Nat.le_refl _) _) (Nat.le_refl _), ((HK.out.setG 0 _).setG 1 _).setG 2 _⟩)
  go_wp2_with fail
  have r0 := HF.out.2.2.cell 0
  have r1 := HF.out.2.2.cell 1
  have r2 := HF.out.2.2.cell 2
  simp only [List.getElem?_toArray, List.getElem?_cons_zero, List.getElem?_cons_succ] at r0 r1 r2
  refine bodyPost_ret (v := .tuple #[.agg #[.int .i64 0, .int .i64 0, .string ⟨#[]⟩], .bool false]) (by simp [results, Tryd.f34, go_sem, r0, r1, r2]) rfl ?_
  exact ⟨rfl, HF.out.1, HF.out.2.1⟩

set_option maxRecDepth 100000 in
set_option maxHeartbeats 2000000 in
theorem number_good (R B : Nat) (t : List UInt8) (hl : t.length ≤ 70000) (n : Int) (r : List UInt8) (ht : t = Lib.itoa n ++ r) (hc : (Lib.cut t [44]).1 = Lib.itoa n) (hn : wordNum (Lib.itoa n) = some n) (w : World) (h : Rdr w R t) (hE : Env B w) (hB : B ≤ R) :
    Calls Tryd.prog 34 #[.pointer (some ⟨R, 0, none⟩)] w (RdPost w R (.tuple #[.agg #[.int .i64 1, .int .i64 n, .string ⟨#[]⟩], .bool true]) r) := by
  have hRl : R < w.heap.size := Blk.lt h
  have hb1 : Below w.heap.size w (w.alloc (.cells #[.int .i64 0, .int .i64 0, .string ⟨#[]⟩] 37)) := (Below.refl _ _).alloc (Nat.le_refl _) _
  have h1 := h.belowV hb1
  have hk1 : Blk (w.alloc (.cells #[.int .i64 0, .int .i64 0, .string ⟨#[]⟩] 37)) w.heap.size 37 #[.int .i64 0, .int .i64 0, .string ⟨#[]⟩] := Blk.new _ _ _
  have hs1 : (w.alloc (.cells #[.int .i64 0, .int .i64 0, .string ⟨#[]⟩] 37)).heap.size = w.heap.size + 1 := by simp
  have hg1 := grew_below R hb1
  have hE1 := hE.on (hb1.mono (by omega))
  generalize hw1 : w.alloc (.cells #[.int .i64 0, .int .i64 0, .string ⟨#[]⟩] 37) = w1 at h1 hk1 hs1 hg1 hE1
  have hc0 : w1.cell? ⟨R, 0, none⟩ = some (.string (bs t)) := Blk.cell h1 0
  obtain ⟨m, hm⟩ := hE1.max w1 (Below.refl _ _)
  have HC := Tryd.strings_Cut (bs t) ⟨#[44]⟩ m w1 (by rw [bs_size]; omega) hm
  rw [bs_data, show (⟨#[44]⟩ : ByteArray).data.toList = [44] from rfl] at HC
  rw [hc] at HC
  have hq : (Lib.itoa n).length ≤ t.length := by rw [ht, List.length_append]; omega
  have HC := Lib.hid HC
  have HA := Lib.hid fun W (k : Below B w1 W) => atoi_any ⟨(Lib.itoa n).toArray⟩ (by show (Lib.itoa n).toArray.size ≤ 1000000; rw [List.size_toArray]; omega) B W (hE1.on k)
  rw [show (⟨(Lib.itoa n).toArray⟩ : ByteArray).data.toList = Lib.itoa n from rfl] at HA
  unfold AtoiPost at HA
  rw [hn] at HA
  have hds : (⟨(Lib.itoa n).toArray⟩ : ByteArray).size = (Lib.itoa n).length := bs_size _
  have hts : (bs t).size = t.length := bs_size _
  have hdr : (bs t).extract (Lib.itoa n).length (bs t).size = bs r := by rw [bs_drop, ht, List.drop_left]
  have HK1 := Lib.hid (And.intro hk1 hg1)
  have HR1 := Lib.hid h1
  have hBw : B ≤ w1.heap.size := by omega
  clear h h1 hk1 hg1 hb1 hE hE1 hm hc
  have g1 : (0 : Int) ≤ ((⟨(Lib.itoa n).toArray⟩ : ByteArray).size : Int) := by omega
  have g2 : ((⟨(Lib.itoa n).toArray⟩ : ByteArray).size : Int) ≤ ((bs t).size : Int) := by omega
  have g3 : (⟨(Lib.itoa n).toArray⟩ : ByteArray).size ≤ (bs t).size := by omega
  rw [← hds] at hdr
  generalize (⟨(Lib.itoa n).toArray⟩ : ByteArray) = dg at HC HA hdr g1 g2 g3 hds
  clear hds hts hq ht hl hn
  generalize (⟨(Lib.cut t [44]).2.1.toArray⟩ : ByteArray) = ds at HC
  generalize (Lib.cut t [44]).2.2 = db at HC
  go_enter Tryd.func34, Tryd.ntmps34
  go_wp2_with fail
  refine HC.out.mono ?_
  rintro e w2 ⟨rfl, kk, hw2⟩
  have kb : Below w1.heap.size w1 w2 := by rw [hw2]; exact ⟨rfl, rfl, rfl, Nat.le_refl _, fun _ _ => rfl⟩
  have HK2 := Lib.hid (And.intro (HK1.out.1.belowV kb HK1.out.1.lt) (HK1.out.2.and (grew_below R kb)))
  have HR2 := Lib.hid (HR1.out.belowV kb)
  have HA2 := Lib.hid (HA.out w2 (kb.mono hBw))
  have hs2 : w1.heap.size ≤ w2.heap.size := kb.size
  clear hw2 kb HC HA HK1 HR1
  go_wp2_with fail
  refine HA2.out.mono ?_
  rintro e w3 ⟨v, rr, rfl, h3 | ⟨h3, _⟩, k3⟩
  rotate_left
  · cases h3
  obtain ⟨h3, rfl⟩ := h3
  obtain rfl := Option.some.inj h3
  have hk3 := HK2.out.1.belowV k3 HK2.out.1.lt
  have HG := Lib.hid (HK2.out.2.and (grew_below R k3))
  have HK := Lib.hid hk3
  have hr3 := HR2.out.belowV k3
  have HR := Lib.hid hr3
  have c0 := hk3.cell 0
  have c1 := hk3.cell 1
  have c2 := hk3.cell 2
  have f0 := hk3.froz 0
  have f1 := hk3.froz 1
  have f2 := hk3.froz 2
  simp only [List.getElem?_toArray, List.getElem?_cons_zero, List.getElem?_cons_succ] at c0 c1 c2
  have e0 : w3.cell? ⟨R, 0, none⟩ = some (.string (bs t)) := Blk.cell hr3 0
  have e1 := Blk.froz hr3 0
  clear hk3 hr3 k3 HA2 HK2 HR2 h3
  have HRS := Lib.hid (show Rdr (w3.setCell ⟨R, 0, none⟩ (.string (bs r))) R r ∧ Grew w R (w3.setCell ⟨R, 0, none⟩ (.string (bs r))) ∧ Blk (w3.setCell ⟨R, 0, none⟩ (.string (bs r))) w.heap.size 37 #[.int .i64 0, .int .i64 0, .string ⟨#[]⟩] from ⟨HR.out.set _, HG.out.and (grew_set _ _ _), HK.out.setOther (by omega) _⟩)
  have HF := Lib.hid (show Rdr ((((w3.setCell ⟨R, 0, none⟩ (.string (bs r))).setCell ⟨w.heap.size, 0, none⟩ (.int .i64 1)).setCell ⟨w.heap.size, 1, none⟩ (.int .i64 n)).setCell ⟨w.heap.size, 2, none⟩ (.string ⟨#[]⟩)) R r ∧ Grew w R ((((w3.setCell ⟨R, 0, none⟩ (.string (bs r))).setCell ⟨w.heap.size, 0, none⟩ (.int .i64 1)).setCell ⟨w.heap.size, 1, none⟩ (.int .i64 n)).setCell ⟨w.heap.size, 2, none⟩ (.string ⟨#[]⟩)) ∧ Blk ((((w3.setCell ⟨R, 0, none⟩ (.string (bs r))).setCell ⟨w.heap.size, 0, none⟩ (.int .i64 1)).setCell ⟨w.heap.size, 1, none⟩ (.int .i64 n)).setCell ⟨w.heap.size, 2, none⟩ (.string ⟨#[]⟩)) w.heap.size 37 #[.int .i64 1, .int .i64 n, .string ⟨#[]⟩] from
    ⟨Blk.setOther (Blk.setOther (Blk.setOther HRS.out.1 (by omega) _) (by omega) _) (by omega) _, grew_low HRS.out.2.1 (((Below.refl w.heap.size (w3.setCell ⟨R, 0, none⟩ (.string (bs r)))).setCell (p := ⟨w.heap.size, 0, none⟩) (Nat.le_refl _) _).setCell (p := ⟨w.heap.size, 1, none⟩) (Nat.le_refl _) _ |>.setCell (p := ⟨w.heap.size, 2, none⟩) (Nat.le_refl _) _) (Nat.le_refl _), ((HRS.out.2.2.setG 0 _).setG 1 _).setG 2 _⟩)
  go_wp2_with fail
  have r0 := HF.out.2.2.cell 0
  have r1 := HF.out.2.2.cell 1
  have r2 := HF.out.2.2.cell 2
  simp only [List.getElem?_toArray, List.getElem?_cons_zero, List.getElem?_cons_succ] at r0 r1 r2
  refine bodyPost_ret (v := .tuple #[.agg #[.int .i64 1, .int .i64 n, .string ⟨#[]⟩], .bool true]) (by simp [results, Tryd.f34, go_sem, r0, r1, r2]) rfl ?_
  exact ⟨rfl, HF.out.1, HF.out.2.1⟩
end Go.Proofs.YtmjobnakaamlpaaDoor
