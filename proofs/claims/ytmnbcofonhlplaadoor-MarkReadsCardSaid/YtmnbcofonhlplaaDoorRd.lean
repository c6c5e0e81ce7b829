/-
  ParseGauge of package mark at a text that is no gauge's.
-/
import Derived.Test.YtmnbcofonhlplaaDoorPg
import Derived.Lib.AtoiBound
namespace Go.Proofs.YtmnbcofonhlplaaDoor
open Go.RowKit Go.Lib
set_option linter.unusedSimpArgs false

/-- What holds of a gauge that a text tells of. -/
def GJ (b m : Int) (q : Bool) : Prop := markR m ∧ (q = true → m = 1000000000001) ∧ (q = false → m ≤ 1000000000000 - b + 1)
def IsG (l : List UInt8) : Prop := ∃ b m q, boundR b ∧ GJ b m q ∧ l = gText b m q
structure EnvR (B : Nat) (w : World) : Prop where
  env : Env B w
  rng : ∀ w', Below B w w' → ∃ te pe, w'.cell? ⟨2, 0, none⟩ = some (.iface te pe)
theorem EnvR.on {B : Nat} {w w1 : World} (h : EnvR B w) (k : Below B w w1) : EnvR B w1 := ⟨h.env.on k, fun w' hb => h.rng w' (k.trans hb)⟩
theorem EnvR.up {B : Nat} {w : World} (h : EnvR B w) (hB : B ≤ w.heap.size) : EnvR w.heap.size w := ⟨h.env.up hB, fun w' hb => h.rng w' (hb.mono hB)⟩
theorem cut_len (l sep : List UInt8) : (Lib.cut l sep).1.length ≤ l.length ∧ (Lib.cut l sep).2.1.length ≤ l.length := by
  unfold Lib.cut
  split <;> simp <;> omega
def AtoiPost (w : World) (e : Ending) (w' : World) : Prop := ∃ v x, e = .returned (.tuple #[.int .i64 v, x]) ∧ (-9223372036854775808 ≤ v ∧ v ≤ 9223372036854775807) ∧ Below w.heap.size w w'
theorem atoi_some (s : ByteArray) (hs : s.size ≤ 1000000) (B : Nat) (w : World) (hE : EnvR B w) : Calls Tryd.prog 31 #[.string s] w (AtoiPost w) := by
  cases h : Lib.atoiAll s.data.toList with
  | ok v =>
    refine (Tryd.strconv_Atoi_ok s (by omega) v h w).mono ?_
    rintro e w' ⟨he, hw | ⟨t, hw⟩⟩
    · exact ⟨v, _, he, Lib.atoiAll_bounds h, hw ▸ Below.refl _ _⟩
    · exact ⟨v, _, he, Lib.atoiAll_bounds h, hw ▸ below_bytes _ _ _⟩
  | «syntax» =>
    obtain ⟨te, pe, hv⟩ := hE.env.err w (Below.refl _ _)
    refine (Tryd.strconv_Atoi_syntax s (by omega) h (.iface te pe) w hv (.inr ⟨te, pe, rfl⟩)).mono ?_
    rintro e w' ⟨N, he, _, _, hb⟩
    exact ⟨0, _, he, by omega, hb⟩
  | range =>
    obtain ⟨te, pe, hv⟩ := hE.rng w (Below.refl _ _)
    refine (Tryd.strconv_Atoi_range s (by omega) h (.iface te pe) w hv (.inr ⟨te, pe, rfl⟩)).mono ?_
    rintro e w' ⟨N, he, _, _, hb⟩
    exact ⟨_, _, he, Lib.atoiSat_bounds s.data.toList, hb⟩
theorem raise_wide (b j : Nat) (m x : Int) (hx : -9223372036854775808 ≤ x ∧ x ≤ 4000000000000) (w : World) (hc : w.cell? ⟨b, j, none⟩ = some (.int .i64 (m + 1000000000000))) (hf : w.frozen? ⟨b, j, none⟩ = false) :
    Calls Tryd.prog 27 #[.pointer (some ⟨b, j, none⟩), .int .i64 x] w fun e w' => e = .returned (.tuple #[]) ∧ w' = w.setCell ⟨b, j, none⟩ (.int .i64 (max m x + 1000000000000)) := by
  have q : IntKind.i64.wrap (x - -1000000000000) = x + 1000000000000 := by rw [IntKind.wrap_i64] <;> omega
  have q2 : max (m + 1000000000000) (x + 1000000000000) = max m x + 1000000000000 := by omega
  go_enter Tryd.func27, Tryd.ntmps27
  go_wp2
  exact bodyPost_end (results_none rfl _ _ _) rfl ⟨rfl, rfl⟩
theorem text_ne {s : ByteArray} (hn : ¬ IsG s.data.toList) {b m : Int} {q : Bool} (hb : boundR b) (hj : GJ b m q) : ((⟨(gText b m q).toArray⟩ : ByteArray).toList == s.toList) = false := by
  rw [ByteArray.toList_eq, ByteArray.toList_eq, beq_eq_false_iff_ne]
  exact fun h => hn ⟨b, m, q, hb, hj, h.symm⟩
def NotPost (w : World) (e : Ending) (w' : World) : Prop := e = .returned (.tuple #[.pointer none, .int .i64 2]) ∧ Below w.heap.size w w'

set_option maxRecDepth 100000 in
theorem parse_not (s : ByteArray) (hs : s.size ≤ 65536) (hn : ¬ IsG s.data.toList) (w : World) (hE : EnvR w.heap.size w) :
    Calls Tryd.prog 16 #[.string s] w (NotPost w) := by
  have hC := cut_any s ⟨#[32]⟩ (by omega) w.heap.size w hE.env
  obtain ⟨l1, l2⟩ := cut_len s.data.toList (⟨#[32]⟩ : ByteArray).data.toList
  have hsl : s.data.toList.length = s.size := by simp
  have hsz : (s.size : Int) ≤ 65536 := by omega
  generalize (Lib.cut s.data.toList (⟨#[32]⟩ : ByteArray).data.toList).1 = p1 at hC l1
  generalize (Lib.cut s.data.toList (⟨#[32]⟩ : ByteArray).data.toList).2.1 = p2 at hC l2
  generalize (Lib.cut s.data.toList (⟨#[32]⟩ : ByteArray).data.toList).2.2 = p3 at hC
  have z1 : (⟨p1.toArray⟩ : ByteArray).size ≤ 1000000 := by rw [sizeL]; omega
  have z2 : (⟨p2.toArray⟩ : ByteArray).size ≤ 1000000 := by rw [sizeL]; omega
  generalize (⟨p1.toArray⟩ : ByteArray) = f1 at hC z1
  generalize (⟨p2.toArray⟩ : ByteArray) = f2 at hC z2
  have HC := Lib.hid hC
  have HE := Lib.hid hE
  have HA := Lib.hid fun (u : World) (k : Below w.heap.size w u) => atoi_some f1 z1 w.heap.size u (hE.on k)
  have HA2 := Lib.hid fun (u : World) (k : Below w.heap.size w u) => atoi_some f2 z2 w.heap.size u (hE.on k)
  have HNE := Lib.hid fun (b m : Int) (q : Bool) (hb : boundR b) (hj : GJ b m q) => text_ne hn hb hj
  clear hC l1 l2 hsl z1 z2 hE hn hs
  go_enter Tryd.func16, Tryd.ntmps16
  go_wp2_with fail
  refine HC.out.mono ?_
  rintro e w1 ⟨rfl, k1⟩
  go_wp2_with fail
  refine (HA.out _ k1).mono ?_
  rintro e w2 ⟨v, x, rfl, hv, k2⟩
  have K2 := Lib.hid (k1.trans (k2.mono k1.size))
  clear k1 k2 HA HC
  cases hin : inR v 0 1000000000 with
  | false =>
    have HN := Lib.hid (mkGa_bad v hin w2)
    clear hin hv
    go_wp2_with fail
    refine HN.out.mono ?_
    rintro e w3 ⟨rfl, rfl⟩
    go_wp2_with fail
    go_ret2
    exact ⟨rfl, K2.out⟩
  | true =>
    have hb : boundR v := inR_iff.1 hin
    have hb' := hb
    unfold boundR at hb'
    have HN := Lib.hid (mkGa_ok v hin w2)
    clear hin hv
    go_wp2_with fail
    refine HN.out.mono ?_
    rintro e w3 ⟨B, rfl, hBe, hG, k3⟩
    have hK3 := K2.out.trans (k3.mono K2.out.size)
    have hBs : w.heap.size ≤ B := by have := K2.out.size; omega
    have HG := Lib.hid hG
    have HK3 := Lib.hid hK3
    have HT := Lib.hid fun (m : Int) (q : Bool) (hm : markR m) (u : World) (g : Below w.heap.size w u) (k : GaP u B v m q) => gaText_any B v m q hb hm u k ((HE.out.env.on g).up g.size).tab
    clear hBe hG k3 hK3 K2 HN
    cases hcl : (f2.toList == [99, 108, 111, 115, 101, 100]) with
    | true =>
      have HCl := Lib.hid (gaClose_any B v (-1000000000000) false (by unfold markR; omega) w3 HG.out)
      have hne := HNE.out v 1000000000001 true hb ⟨by unfold markR; omega, fun _ => rfl, fun h => by cases h⟩
      clear hb hb'
      go_wp2_with fail
      refine HCl.out.mono ?_
      rintro e w4 ⟨rfl, hG4, g4⟩
      have hK4 := HK3.out.trans (g4.toBelow hBs HK3.out.size)
      have HT4 := Lib.hid (HT.out _ _ (by unfold markR; omega) w4 hK4 hG4)
      have HK4 := Lib.hid fun (u : World) (k : Below w4.heap.size w4 u) => hK4.trans (k.mono hK4.size)
      unfold TextPost at HT4
      clear hG4 g4 hK4 HT HCl HG HK3
      generalize (⟨(gText v 1000000000001 true).toArray⟩ : ByteArray) = t at hne HT4
      go_wp2_with fail
      refine HT4.out.mono ?_
      rintro e w5 ⟨rfl, k5⟩
      go_wp2_with fail
      go_ret2
      exact ⟨rfl, HK4.out _ k5⟩
    | false =>
      have q1 : IntKind.i64.wrap (1000000000000 - v) = 1000000000000 - v := by rw [IntKind.wrap_i64]; omega
      have q2 : IntKind.i64.wrap (1000000000000 - v + 1) = 1000000000000 - v + 1 := by rw [IntKind.wrap_i64]; omega
      have HBR := Lib.hid hb
      clear hb hb'
      go_wp2_with fail
      refine (HA2.out _ HK3.out).mono ?_
      rintro e w4 ⟨k, x2, rfl, hk, k4⟩
      have HG4 := Lib.hid (show GaP w4 B v (-1000000000000) false from HG.out.belowV k4 HG.out.lt)
      have HK4 := Lib.hid (HK3.out.trans (k4.mono HK3.out.size))
      clear k4 HG HK3 HA2
      by_cases hkm : k ≤ 1000000000000 - v + 1
      · have d1 : decide (k ≤ 1000000000000 - v + 1) = true := decide_eq_true hkm
        have hbr := HBR.out
        unfold boundR at hbr
        have hmk : markR (max (-1000000000000) k) := by unfold markR; omega
        have hne := HNE.out v (max (-1000000000000) k) false HBR.out ⟨hmk, fun h => (by cases h), fun _ => by omega⟩
        have HR := Lib.hid (raise_wide B 1 (-1000000000000) k ⟨hk.1, by omega⟩ w4 (HG4.out.cell 1) (HG4.out.froz 1))
        have hG5 : GaP (w4.setCell ⟨B, 1, none⟩ (.int .i64 (max (-1000000000000) k + 1000000000000))) B v (max (-1000000000000) k) false := HG4.out.setG 1 _
        have hK5 : Below w.heap.size w (w4.setCell ⟨B, 1, none⟩ (.int .i64 (max (-1000000000000) k + 1000000000000))) := HK4.out.setCell (p := ⟨B, 1, none⟩) hBs _
        have HT5 := Lib.hid (HT.out _ _ hmk _ hK5 hG5)
        have HK5 := Lib.hid hK5
        unfold TextPost at HT5
        clear hG5 hK5 hmk hbr hkm hk HT HG4 HK4
        generalize (⟨(gText v (max (-1000000000000) k) false).toArray⟩ : ByteArray) = t at hne HT5
        generalize (w4.setCell ⟨B, 1, none⟩ (.int .i64 (max (-1000000000000) k + 1000000000000))) = w5 at HR HT5 HK5
        go_wp2_with fail
        refine HR.out.mono ?_
        rintro e w6 ⟨rfl, rfl⟩
        go_wp2_with fail
        refine HT5.out.mono ?_
        rintro e w7 ⟨rfl, k7⟩
        have HF := Lib.hid (HK5.out.trans (k7.mono HK5.out.size))
        clear k7
        go_wp2_with fail
        go_ret2
        exact ⟨rfl, HF.out⟩
      · have d1 : decide (k ≤ 1000000000000 - v + 1) = false := decide_eq_false hkm
        have hbr := HBR.out
        unfold boundR at hbr
        have hmk : markR (-1000000000000) := by unfold markR; omega
        have hne := HNE.out v (-1000000000000) false HBR.out ⟨hmk, fun h => (by cases h), fun _ => by omega⟩
        have HT5 := Lib.hid (HT.out _ _ hmk _ HK4.out HG4.out)
        unfold TextPost at HT5
        clear hmk hbr hkm hk HT HG4
        generalize (⟨(gText v (-1000000000000) false).toArray⟩ : ByteArray) = t at hne HT5
        go_wp2_with fail
        refine HT5.out.mono ?_
        rintro e w7 ⟨rfl, k7⟩
        have HF := Lib.hid (HK4.out.trans (k7.mono HK4.out.size))
        clear k7
        go_wp2_with fail
        go_ret2
        exact ⟨rfl, HF.out⟩
end Go.Proofs.YtmnbcofonhlplaaDoor
