/-
  ParseGauge of package mark, at the text of a gauge and at the empty text, as contracts.
-/
import Derived.Test.YtmnbcofonhlplaaDoorTz
namespace Go.Proofs.YtmnbcofonhlplaaDoor
open Go.RowKit Go.Lib
set_option linter.unusedSimpArgs false

/-- What the library's variables hold, as long as no old block turns. -/
structure Env (B : Nat) (w : World) : Prop where
  tab : Tab B w
  max : ∀ w', Below B w w' → ∃ k, w'.cell? ⟨0, 0, none⟩ = some (.int .i64 k)
  err : ∀ w', Below B w w' → ∃ te pe, w'.cell? ⟨1, 0, none⟩ = some (.iface te pe)
theorem Env.on {B : Nat} {w w1 : World} (h : Env B w) (k : Below B w w1) : Env B w1 := ⟨h.tab.on k, fun w' hb => h.max w' (k.trans hb), fun w' hb => h.err w' (k.trans hb)⟩
theorem Env.up {B : Nat} {w : World} (h : Env B w) (hB : B ≤ w.heap.size) : Env w.heap.size w := ⟨fun w' hb => h.tab w' (hb.mono hB), fun w' hb => h.max w' (hb.mono hB), fun w' hb => h.err w' (hb.mono hB)⟩
theorem cut_any (s sep : ByteArray) (hs : s.size < 4294967281) (B : Nat) (w : World) (hE : Env B w) :
    Calls Tryd.prog 30 #[.string s, .string sep] w fun e w' => e = .returned (.tuple #[.string ⟨(Lib.cut s.data.toList sep.data.toList).1.toArray⟩, .string ⟨(Lib.cut s.data.toList sep.data.toList).2.1.toArray⟩, .bool (Lib.cut s.data.toList sep.data.toList).2.2]) ∧ Below w.heap.size w w' := by
  obtain ⟨k, hk⟩ := hE.max w (Below.refl _ _)
  exact (Tryd.strings_Cut s sep k w hs hk).mono fun e w' ⟨he, n, hw⟩ => ⟨he, hw ▸ below_drewN (Below.refl _ _) n⟩
theorem below_bytes (w : World) (e : TypeId) (s : ByteArray) : Below w.heap.size w (Lib.bytesWorld w e s) := by
  have h1 : Below w.heap.size w (w.drew.alloc (.cells (Lib.bytesCells w e s) e)) := ((Below.refl w.heap.size w).drew).alloc (Nat.le_refl _) _
  unfold Lib.bytesWorld
  exact ⟨h1.os, h1.tape, h1.output, Nat.le_trans h1.size (by simp [World.freeze]), fun i hi => by
    have := h1.block i hi
    rw [← this]
    have hne : i ≠ w.heap.size := by omega
    simp [World.freeze, Array.getElem?_modify, Ne.symm hne]⟩
theorem atoi_any (n : Int) (h0 : -1000000000000000000 < n) (h1 : n < 1000000000000000000) (w : World) :
    Calls Tryd.prog 31 #[.string ⟨(Lib.itoa n).toArray⟩] w fun e w' => e = .returned (.tuple #[.int .i64 n, .nilIface]) ∧ Below w.heap.size w w' := by
  have hl := Lib.itoa_length_le n (by omega) (by omega)
  refine (Tryd.strconv_Atoi_ok ⟨(Lib.itoa n).toArray⟩ (by show (Lib.itoa n).toArray.size ≤ _; simp; omega) n (by simpa using atoi_itoa h0 h1) w).mono ?_
  rintro e w' ⟨he, hw | ⟨t, hw⟩⟩
  · exact ⟨he, hw ▸ Below.refl _ _⟩
  · exact ⟨he, hw ▸ below_bytes _ _ _⟩
theorem atoi_nil (B : Nat) (w : World) (hE : Env B w) :
    Calls Tryd.prog 31 #[.string ⟨#[]⟩] w fun e w' => ∃ v, e = .returned (.tuple #[.int .i64 0, v]) ∧ Below w.heap.size w w' := by
  obtain ⟨te, pe, hv⟩ := hE.err w (Below.refl _ _)
  refine (Tryd.strconv_Atoi_syntax ⟨#[]⟩ (by decide) (by decide +kernel) (.iface te pe) w hv (.inr ⟨te, pe, rfl⟩)).mono ?_
  rintro e w' ⟨N, he, _, _, hb⟩
  exact ⟨_, he, hb⟩
/-- What is read of a text: a gauge of its own. -/
def ReadPost (w : World) (b m : Int) (q : Bool) (e : Ending) (w' : World) : Prop := ∃ B, e = .returned (.tuple #[.pointer (some ⟨B, 0, none⟩), .int .i64 0]) ∧ w.heap.size ≤ B ∧ GaP w' B b m q ∧ Below w.heap.size w w'
theorem sizeL (l : List UInt8) : (⟨l.toArray⟩ : ByteArray).size = l.length := by simp [ByteArray.size]
theorem below_of_two {w w1 w2 w3 : World} {B : Nat} (h1 : Below w.heap.size w w1) (hB : w1.heap.size ≤ B) (h2 : Below w1.heap.size w1 w2) (h3 : Grew w2 B w3) : Below w.heap.size w w3 :=
  (h1.trans (h2.mono h1.size)).trans (h3.toBelow (by have := h1.size; omega) (by have := h1.size; have := h2.size; omega))
set_option maxRecDepth 100000 in
theorem parse_text (b m : Int) (q : Bool) (hb : boundR b) (hm : markR m) (hq : q = true → m = 1000000000001) (hn : q = false → m ≤ 1000000000000 - b + 1) (w : World) (hE : Env w.heap.size w) :
    Calls Tryd.prog 16 #[.string ⟨(gText b m q).toArray⟩] w (ReadPost w b m q) := by
  have hb' := hb
  have hm' := hm
  unfold boundR at hb'
  unfold markR at hm'
  have hlen := text_len (b := b) (m := m) q (by omega) (by omega) (by omega) (by omega)
  have hC := cut_any ⟨(gText b m q).toArray⟩ ⟨#[32]⟩ (by rw [sizeL]; omega) w.heap.size w hE
  rw [show (⟨(gText b m q).toArray⟩ : ByteArray).data.toList = gText b m q from rfl, show (⟨#[32]⟩ : ByteArray).data.toList = [32] from rfl, cut_text] at hC
  have hsz : ((⟨(gText b m q).toArray⟩ : ByteArray).size : Int) ≤ 65536 := by rw [sizeL]; omega
  have HC := Lib.hid hC
  have HA := Lib.hid fun W => atoi_any b (by omega) (by omega) W
  have HN := Lib.hid fun W => mkGa_ok b (inR_iff.2 ⟨by omega, by omega⟩) W
  have HE := Lib.hid hE
  clear hC hE hlen
  generalize hs : (⟨(gText b m q).toArray⟩ : ByteArray) = s at hsz HC
  go_enter Tryd.func16, Tryd.ntmps16
  go_wp2_with fail
  refine HC.out.mono ?_
  rintro e w1 ⟨rfl, k1⟩
  go_wp2_with fail
  refine (HA.out _).mono ?_
  rintro e w2 ⟨rfl, k2⟩
  go_wp2_with fail
  refine (HN.out _).mono ?_
  rintro e w3 ⟨B, rfl, hBe, hG, k3⟩
  have K3 : Below w.heap.size w w3 := (k1.trans (k2.mono k1.size)).trans (k3.mono (k1.trans (k2.mono k1.size)).size)
  have hBs : w.heap.size ≤ B := by have := K3.size; have := k1.size; have := k2.size; omega
  have hBl := hG.lt
  clear HC HA HN hBe k1 k2 k3
  cases q with
  | true =>
    obtain rfl := hq rfl
    have HCl := Lib.hid (gaClose_any B b (-1000000000000) false (by unfold markR; omega) w3 hG)
    have HT := Lib.hid fun (u : World) (g : Grew w3 B u) (k : GaP u B b 1000000000001 true) => gaText_any B b 1000000000001 true hb hm u k ((HE.out.on (K3.trans (g.toBelow hBs K3.size))).up (K3.trans (g.toBelow hBs K3.size)).size).tab
    have HK := Lib.hid K3
    rw [show (⟨(gTail 1000000000001 true).toArray⟩ : ByteArray) = ⟨#[99, 108, 111, 115, 101, 100]⟩ from rfl]
    clear hb hm hq hn hb' hm' hG K3 HE
    go_wp2_with fail
    refine HCl.out.mono ?_
    rintro e w4 ⟨rfl, hG4, g4⟩
    have HG4 := Lib.hid hG4
    have HT4 := Lib.hid (HT.out w4 g4 hG4)
    have HK4 := Lib.hid (HK.out.trans (g4.toBelow hBs HK.out.size))
    clear hG4 g4 HT HK HCl
    go_wp2_with fail
    refine HT4.out.mono ?_
    rintro e w5 ⟨rfl, k5⟩
    rw [hs]
    have HF := Lib.hid (show GaP w5 B b 1000000000001 true ∧ Below w.heap.size w w5 from ⟨HG4.out.belowV k5 HG4.out.lt, HK4.out.trans (k5.mono HK4.out.size)⟩)
    clear k5 HT4 HG4 HK4
    go_wp2_with fail
    go_ret2
    exact ⟨B, rfl, hBs, HF.out.1, HF.out.2⟩
  | false =>
    have hn' := hn rfl
    have HR := Lib.hid (raise_any B 1 (-1000000000000) m (by omega))
    have HA := Lib.hid fun W => atoi_any m (by omega) (by omega) W
    have HT := Lib.hid fun (u : World) (g : Below w.heap.size w u) (k : GaP u B b m false) => gaText_any B b m false hb hm u k ((HE.out.on g).up g.size).tab
    have HK := Lib.hid K3
    have HG := Lib.hid hG
    have hmx : max (-1000000000000) m = m := by omega
    have q1 : IntKind.i64.wrap (1000000000000 - b) = 1000000000000 - b := by rw [IntKind.wrap_i64]; omega
    have q2 : IntKind.i64.wrap (1000000000000 - b + 1) = 1000000000000 - b + 1 := by rw [IntKind.wrap_i64]; omega
    have d1 : decide (m ≤ 1000000000000 - b + 1) = true := decide_eq_true hn'
    have ne1 : ((⟨(gTail m false).toArray⟩ : ByteArray).toList == [99, 108, 111, 115, 101, 100]) = false := by
      rw [ByteArray.toList_eq, beq_eq_false_iff_ne]
      exact itoa_closed m
    have hgt : (⟨(gTail m false).toArray⟩ : ByteArray) = ⟨(Lib.itoa m).toArray⟩ := rfl
    rw [hgt] at ne1 ⊢
    generalize hs2 : (⟨(Lib.itoa m).toArray⟩ : ByteArray) = s2 at ne1 HA ⊢
    clear hb hm hq hn hb' hm' hG K3 HE hgt
    go_wp2_with fail
    refine (HA.out _).mono ?_
    rintro e w4 ⟨rfl, k4⟩
    have HG4 := Lib.hid (show GaP w4 B b (-1000000000000) false from HG.out.belowV k4 HG.out.lt)
    have HK4 := Lib.hid (HK.out.trans (k4.mono HK.out.size))
    clear k4 HG HK HA
    go_wp2_with fail
    refine (HR.out w4 (HG4.out.cell 1) (HG4.out.froz 1)).mono ?_
    rintro e w5 ⟨rfl, rfl⟩
    rw [hmx]
    have HG5 := Lib.hid (show GaP (w4.setCell ⟨B, 1, none⟩ (.int .i64 (m + 1000000000000))) B b m false from HG4.out.setG 1 _)
    have HK5 := Lib.hid (show Below w.heap.size w (w4.setCell ⟨B, 1, none⟩ (.int .i64 (m + 1000000000000))) from HK4.out.setCell (p := ⟨B, 1, none⟩) hBs _)
    have HT5 := Lib.hid (HT.out _ HK5.out HG5.out)
    generalize (w4.setCell ⟨B, 1, none⟩ (.int .i64 (m + 1000000000000))) = w5 at HG5 HK5 HT5 ⊢
    clear HT HG4 HK4 HR
    go_wp2_with fail
    refine HT5.out.mono ?_
    rintro e w6 ⟨rfl, k6⟩
    rw [hs]
    have HF := Lib.hid (show GaP w6 B b m false ∧ Below w.heap.size w w6 from ⟨HG5.out.belowV k6 HG5.out.lt, HK5.out.trans (k6.mono HK5.out.size)⟩)
    clear k6 HT5 HG5 HK5
    go_wp2_with fail
    go_ret2
    exact ⟨B, rfl, hBs, HF.out.1, HF.out.2⟩
set_option maxRecDepth 100000 in
theorem parse_nil (w : World) (hE : Env w.heap.size w) :
    Calls Tryd.prog 16 #[.string ⟨#[]⟩] w fun e w' => e = .returned (.tuple #[.pointer none, .int .i64 2]) ∧ Below w.heap.size w w' := by
  have hC := cut_any ⟨#[]⟩ ⟨#[32]⟩ (by decide) w.heap.size w hE
  rw [show (⟨#[]⟩ : ByteArray).data.toList = [] from rfl, show (⟨#[32]⟩ : ByteArray).data.toList = [32] from rfl, cut_none] at hC
  have HC := Lib.hid hC
  have HA := Lib.hid fun (u : World) (g : Below w.heap.size w u) => atoi_nil w.heap.size u (hE.on g)
  have HN := Lib.hid fun W => mkGa_ok 0 (inR_iff.2 ⟨by omega, by omega⟩) W
  have HE := Lib.hid hE
  clear hC hE
  go_enter Tryd.func16, Tryd.ntmps16
  go_wp2_with fail
  refine HC.out.mono ?_
  rintro e w1 ⟨rfl, k1⟩
  go_wp2_with fail
  refine (HA.out _ k1).mono ?_
  rintro e w2 ⟨v, rfl, k2⟩
  have K2 := k1.trans (k2.mono k1.size)
  clear k1 k2
  go_wp2_with fail
  refine (HN.out _).mono ?_
  rintro e w3 ⟨B, rfl, hBe, hG, k3⟩
  have K3 := K2.trans (k3.mono K2.size)
  have hBs : w.heap.size ≤ B := by have := K2.size; omega
  have HG := Lib.hid hG
  clear hBe hG k3 K2
  go_wp2_with fail
  refine (HA.out _ K3).mono ?_
  rintro e w4 ⟨v2, rfl, k4⟩
  have HG4 := Lib.hid (show GaP w4 B 0 (-1000000000000) false from HG.out.belowV k4 HG.out.lt)
  have HK4 := Lib.hid (K3.trans (k4.mono K3.size))
  clear k4 K3 HG HA HN HC
  go_wp2_with fail
  refine (raise_any B 1 (-1000000000000) 0 (by omega) w4 (HG4.out.cell 1) (HG4.out.froz 1)).mono ?_
  rintro e w5 ⟨rfl, rfl⟩
  have HG5 := Lib.hid (show GaP (w4.setCell ⟨B, 1, none⟩ (.int .i64 (max (-1000000000000) 0 + 1000000000000))) B 0 0 false from HG4.out.setG 1 _)
  have HK5 := Lib.hid (show Below w.heap.size w (w4.setCell ⟨B, 1, none⟩ (.int .i64 (max (-1000000000000) 0 + 1000000000000))) from HK4.out.setCell (p := ⟨B, 1, none⟩) hBs _)
  generalize (w4.setCell ⟨B, 1, none⟩ (.int .i64 (max (-1000000000000) 0 + 1000000000000))) = w5 at HG5 HK5 ⊢
  have HT5 := Lib.hid (gaText_any B 0 0 false (by unfold boundR; omega) (by unfold markR; omega) w5 HG5.out ((HE.out.on HK5.out).up HK5.out.size).tab)
  have hne : (⟨(gText 0 0 false).toArray⟩ : ByteArray).toList.isEmpty = false := by
    rw [ByteArray.toList_eq]
    simp [gText]
  unfold TextPost at HT5
  generalize (⟨(gText 0 0 false).toArray⟩ : ByteArray) = s at hne HT5
  have HK6 := Lib.hid fun (u : World) (k : Below w5.heap.size w5 u) => HK5.out.trans (k.mono HK5.out.size)
  clear HG5 HG4 HK4 HE HK5
  go_wp2_with fail
  refine HT5.out.mono ?_
  rintro e w6 ⟨rfl, k6⟩
  go_wp2_with fail
  go_ret2
  exact ⟨rfl, HK6.out _ k6⟩
end Go.Proofs.YtmnbcofonhlplaaDoor
