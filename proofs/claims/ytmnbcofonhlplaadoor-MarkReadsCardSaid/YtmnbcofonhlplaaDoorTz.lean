/-
  Text and Close of gauges that are there, of package mark and of the document's own, as contracts.
-/
import Derived.Test.YtmnbcofonhlplaaDoorTx
namespace Go.Proofs.YtmnbcofonhlplaaDoor
open Go.RowKit Go.Lib
set_option linter.unusedSimpArgs false

theorem text_bytes (b m : Int) (q : Bool) : (⟨(Lib.itoa b).toArray⟩ : ByteArray) ++ ⟨#[32]⟩ ++ ⟨(gTail m q).toArray⟩ = ⟨(gText b m q).toArray⟩ := by
  rw [ByteArray.mk_append_mk, ByteArray.mk_append_mk]
  simp [gText]
theorem text_bytes2 (b m : Int) : (⟨(Lib.itoa b).toArray⟩ : ByteArray) ++ ⟨#[32, 99, 108, 111, 115, 101, 100]⟩ = ⟨(gText b m true).toArray⟩ := by
  rw [ByteArray.mk_append_mk]
  simp [gText, gTail, closedT]
def TextPost (w : World) (b m : Int) (q : Bool) (e : Ending) (w' : World) : Prop := e = .returned (.string ⟨(gText b m q).toArray⟩) ∧ Below w.heap.size w w'
set_option maxRecDepth 100000 in
theorem gaText_any (B : Nat) (b m : Int) (q : Bool) (hb : boundR b) (hm : markR m) (w : World) (h : GaP w B b m q) (hT : Tab w.heap.size w) :
    Calls Tryd.prog 14 #[.pointer (some ⟨B, 0, none⟩)] w (TextPost w b m q) := by
  have c0 := h.cell 0
  have c2 := h.cell 2
  simp only [List.getElem?_toArray, List.getElem?_cons_zero, List.getElem?_cons_succ] at c0 c2
  have hb' := hb
  have hm' := hm
  unfold boundR at hb'
  unfold markR at hm'
  have lb := Lib.itoa_length_le b (by omega) (by omega)
  have lm := Lib.itoa_length_le m (by omega) (by omega)
  have HM := Lib.hid (gaMark_any B b m q hm w h)
  cases q with
  | true =>
    have HI := Lib.hid (itoa_any b (by omega) (by omega) w.heap.size w hT)
    clear h hT hb hm hb' hm'
    go_enter Tryd.func14, Tryd.ntmps14
    go_wp2_with fail
    refine HI.out.mono ?_
    rintro e w1 ⟨rfl, hb1⟩
    have s1 : ((Lib.itoa b).length : Int) ≤ 8388608 := by omega
    go_wp2_with fail
    go_ret
    exact ⟨congrArg (fun s => Ending.returned (.string s)) (text_bytes b m true), hb1⟩
  | false =>
    have HI := Lib.hid (itoa_any m (by omega) (by omega) w.heap.size w hT)
    have HJ := Lib.hid fun (u : World) (k : Below w.heap.size w u) => itoa_any b (by omega) (by omega) w.heap.size u (hT.on k)
    have HC := Lib.hid fun (u : World) (k : Below w.heap.size w u) => (k.cell (p := ⟨B, 0, none⟩) h.lt).trans c0
    clear h hT hb hm hb' hm'
    go_enter Tryd.func14, Tryd.ntmps14
    go_wp2_with fail
    refine HM.out.mono ?_
    rintro e w1 ⟨rfl, rfl⟩
    go_wp2_with fail
    refine HI.out.mono ?_
    rintro e w1 ⟨rfl, hb1⟩
    have c0' := HC.out w1 hb1
    go_wp2_with fail
    refine (HJ.out w1 hb1).mono ?_
    rintro e w2 ⟨rfl, hb2⟩
    have s1 : ((Lib.itoa b).length : Int) ≤ 8388608 := by omega
    have s2 : ((Lib.itoa m).length : Int) ≤ 8388608 := by omega
    have hb3 := hb1.trans (hb2.mono hb1.size)
    clear HC HJ HI HM
    go_wp2_with fail
    go_ret
    exact ⟨congrArg (fun s => Ending.returned (.string s)) (text_bytes b m false), hb3⟩
set_option maxRecDepth 100000 in
theorem grText_any (B : Nat) (b m : Int) (q : Bool) (hb : boundR b) (hm : markR m) (w : World) (h : GaR w B b m q) (hT : Tab w.heap.size w) :
    Calls Tryd.prog 15 #[.pointer (some ⟨B, 0, none⟩)] w (TextPost w b m q) := by
  have c0 := h.cell 0
  have c1 := h.cell 1
  have c2 := h.cell 2
  simp only [List.getElem?_toArray, List.getElem?_cons_zero, List.getElem?_cons_succ] at c0 c1 c2
  unfold boundR at hb
  unfold markR at hm
  have lb := Lib.itoa_length_le b (by omega) (by omega)
  have lm := Lib.itoa_length_le m (by omega) (by omega)
  have s1 : ((Lib.itoa b).length : Int) ≤ 8388608 := by omega
  have s2 : ((Lib.itoa m).length : Int) ≤ 8388608 := by omega
  cases q with
  | true =>
    have HI := Lib.hid (itoa_any b (by omega) (by omega) w.heap.size w hT)
    clear h hT hb hm
    go_enter Tryd.func15, Tryd.ntmps15
    go_wp2_with fail
    refine HI.out.mono ?_
    rintro e w1 ⟨rfl, hb1⟩
    go_wp2_with fail
    go_ret
    exact ⟨congrArg (fun s => Ending.returned (.string s)) (text_bytes2 b m), hb1⟩
  | false =>
    have HI := Lib.hid fun (u : World) (k : Below w.heap.size w u) => itoa_any m (by omega) (by omega) w.heap.size u (hT.on k)
    have HJ := Lib.hid fun (u : World) (k : Below w.heap.size w u) => itoa_any b (by omega) (by omega) w.heap.size u (hT.on k)
    have hS : ∀ u : World, Below w.heap.size w u → (Below w.heap.size w u ∧ u.cell? ⟨B, 0, none⟩ = some (.int .i64 b) ∧ u.cell? ⟨B, 1, none⟩ = some (.int .i64 m)) := fun u k =>
      ⟨k, (k.cell (p := ⟨B, 0, none⟩) h.lt).trans c0, (k.cell (p := ⟨B, 1, none⟩) h.lt).trans c1⟩
    have HS := Lib.hid hS
    have HK := Lib.hid (show ∀ (u v : World), Below w.heap.size w u → Below u.heap.size u v → Below w.heap.size w v from fun u v h1 h2 => h1.trans (h2.mono h1.size))
    have hWr : Below w.heap.size w w := Below.refl _ _
    have k1 : ¬ 9223372036854775807 < (Lib.itoa b).length + 1 := by omega
    have k2 : ¬ 9223372036854775807 < (Lib.itoa b).length + 1 + (Lib.itoa m).length := by omega
    clear h hT hb hm hS c0 c1
    go_enter Tryd.func15, Tryd.ntmps15
    go_wp2_with fail
    go_region_held3 (fun u => Below w.heap.size w u ∧ u.cell? ⟨B, 0, none⟩ = some (.int .i64 b) ∧ u.cell? ⟨B, 1, none⟩ = some (.int .i64 m)) (first | exact HS.out _ (HK.out _ _ (by assumption) (by assumption)) | exact HS.out _ (HK.out _ _ (And.left (by assumption)) (by assumption)) | exact HS.out _ (Below.drew (by assumption)) | exact HS.out _ (Below.drew (And.left (by assumption))) | assumption)
      (first
        | (go_at_call 29; refine (HI.out _ (And.left (by assumption))).mono ?_; rintro e w' ⟨rfl, hb⟩)
        | (go_at_call 29; refine (HJ.out _ (And.left (by assumption))).mono ?_; rintro e w' ⟨rfl, hb⟩))
    all_goals
      have hBv : Below w.heap.size w w' := And.left (by assumption)
      clear HS HK
      go_wp2_with fail
      go_ret
      exact ⟨congrArg (fun s => Ending.returned (.string s)) (text_bytes b m false), hBv⟩
def ClosePost (w : World) (B : Nat) (b : Int) (e : Ending) (w' : World) : Prop := e = .returned (.tuple #[]) ∧ GaP w' B b 1000000000001 true ∧ Grew w B w'
def ClosePostR (w : World) (B : Nat) (b : Int) (e : Ending) (w' : World) : Prop := e = .returned (.tuple #[]) ∧ GaR w' B b 1000000000001 true ∧ Grew w B w'
set_option maxRecDepth 100000 in
theorem gaClose_any (B : Nat) (b m : Int) (q : Bool) (hm : markR m) (w : World) (h : GaP w B b m q) :
    Calls Tryd.prog 12 #[.pointer (some ⟨B, 0, none⟩)] w (ClosePost w B b) := by
  have c2 := h.cell 2
  have f2 := h.froz 2
  simp only [List.getElem?_toArray, List.getElem?_cons_zero, List.getElem?_cons_succ] at c2
  unfold markR at hm
  have h2 : GaP (w.setCell ⟨B, 2, none⟩ (.bool true)) B b m true := h.setG 2 _
  have hmx : max m 1000000000001 = 1000000000001 := by omega
  have HR := raise_any B 1 m 1000000000001 (by omega) _ (h2.cell 1) (h2.froz 1)
  rw [hmx] at HR
  have HR := Lib.hid HR
  have HF := Lib.hid (show GaP ((w.setCell ⟨B, 2, none⟩ (.bool true)).setCell ⟨B, 1, none⟩ (.int .i64 (1000000000001 + 1000000000000))) B b 1000000000001 true ∧ Grew w B ((w.setCell ⟨B, 2, none⟩ (.bool true)).setCell ⟨B, 1, none⟩ (.int .i64 (1000000000001 + 1000000000000))) from ⟨h2.setG 1 _, ((grew_refl w B).set 2 _).set 1 _⟩)
  clear h h2 hmx
  unfold ClosePost
  go_enter Tryd.func12, Tryd.ntmps12
  go_wp2_with fail
  refine HR.out.mono ?_
  rintro e w1 ⟨rfl, rfl⟩
  go_wp2_with fail
  exact bodyPost_end (results_none rfl _ _ _) rfl ⟨rfl, HF.out.1, HF.out.2⟩
set_option maxRecDepth 100000 in
theorem grClose_any (B : Nat) (b m : Int) (q : Bool) (w : World) (h : GaR w B b m q) :
    Calls Tryd.prog 13 #[.pointer (some ⟨B, 0, none⟩)] w (ClosePostR w B b) := by
  have c1 := h.cell 1
  have f1 := h.froz 1
  have c2 := h.cell 2
  have f2 := h.froz 2
  simp only [List.getElem?_toArray, List.getElem?_cons_zero, List.getElem?_cons_succ] at c1 c2
  have HF := Lib.hid (show GaR ((w.setCell ⟨B, 1, none⟩ (.int .i64 1000000000001)).setCell ⟨B, 2, none⟩ (.bool true)) B b 1000000000001 true ∧ Grew w B ((w.setCell ⟨B, 1, none⟩ (.int .i64 1000000000001)).setCell ⟨B, 2, none⟩ (.bool true)) from ⟨(h.setG 1 _).setG 2 _, ((grew_refl w B).set 1 _).set 2 _⟩)
  clear h
  unfold ClosePostR
  go_enter Tryd.func13, Tryd.ntmps13
  go_wp2_with fail
  exact bodyPost_end (results_none rfl _ _ _) rfl ⟨rfl, HF.out.1, HF.out.2⟩
end Go.Proofs.YtmnbcofonhlplaaDoor
