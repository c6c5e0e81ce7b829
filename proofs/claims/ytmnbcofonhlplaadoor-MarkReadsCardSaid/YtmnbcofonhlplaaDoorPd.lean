/-
  ParseGauge of the document's own, at any text.
-/
import Derived.Test.YtmnbcofonhlplaaDoorRd
import Derived.Test.YtmnbcofonhlplaaDoorWo
namespace Go.Proofs.YtmnbcofonhlplaaDoor
open Go.RowKit Go.Lib
set_option linter.unusedSimpArgs false

theorem number_call {x : ByteArray} (hx : x.size ≤ 100) (w : World) : Calls Tryd.prog 33 #[.string x] w fun e w' => e = .returned (.tuple #[.int .i64 (numVal x.data.toList).1, .bool (numVal x.data.toList).2]) ∧ w = w' := number_any x (by omega) w
/-- What is read of a text: a gauge of its own. -/
def ReadPostR (w : World) (b m : Int) (q : Bool) (e : Ending) (w' : World) : Prop := ∃ B, e = .returned (.tuple #[.pointer (some ⟨B, 0, none⟩), .int .i64 0]) ∧ w.heap.size ≤ B ∧ GaR w' B b m q ∧ Below w.heap.size w w'

set_option maxRecDepth 100000 in
set_option maxHeartbeats 2000000 in
theorem refParse_not (s : ByteArray) (hs : s.size ≤ 65536) (hn : ¬ IsG s.data.toList) (w : World) (hE : Env w.heap.size w) :
    Calls Tryd.prog 20 #[.string s] w (NotPost w) := by
  have hsz : (s.size : Int) ≤ 65536 := by omega
  by_cases h100 : 100 < s.size
  · have h100' : (100 : Int) < (s.size : Int) := by omega
    clear h100 hn hE
    go_enter Tryd.func20, Tryd.ntmps20
    go_wp2_with fail
    go_ret2
    exact ⟨rfl, Below.refl _ _⟩
  have h100' : (s.size : Int) ≤ 100 := by omega
  have HW := Lib.hid (words_any s (by omega) w)
  have HE := Lib.hid hE
  have HNE := Lib.hid fun (b m : Int) (q : Bool) (hb : boundR b) (hj : GJ b m q) => text_ne hn hb hj
  clear hn hE h100 hs
  unfold WordsPost at HW
  go_enter Tryd.func20, Tryd.ntmps20
  go_wp2_with fail
  refine HW.out.mono ?_
  rintro e w1 ⟨g, cap, ws, rfl, _, hx, hO, k1⟩
  have HK1 := Lib.hid k1
  have HO := Lib.hid hO
  clear k1 hO HW
  by_cases h2 : ws.length = 2
  · match ws, h2 with
    | [x, y], _ =>
      have hx0 := hx x (by simp)
      have hy0 := hx y (by simp)
      have c0 : w1.cell? ⟨g, 0, none⟩ = some (.string x) := (HO.out.cellAt 0 (by simp)).trans rfl
      have c1 : w1.cell? ⟨g, 1, none⟩ = some (.string y) := (HO.out.cellAt 1 (by simp)).trans rfl
      have HA := Lib.hid fun W => number_call hx0 W
      have HA2 := Lib.hid fun W => number_call hy0 W
      have hgl := own_lt HO.out
      clear hx HO hx0 hy0
      generalize (numVal x.data.toList).1 = n at HA
      generalize (numVal x.data.toList).2 = ok at HA
      generalize (numVal y.data.toList).1 = m at HA2
      generalize (numVal y.data.toList).2 = ok2 at HA2
      have HG2 := Lib.hid (show GaR (w1.alloc (.cells #[.int .i64 n, .int .i64 1000000000001, .bool true] 52)) w1.heap.size n 1000000000001 true from Blk.new _ _ _)
      have HB2 := Lib.hid (HK1.out.trans ((below_new w1 (.cells #[.int .i64 n, .int .i64 1000000000001, .bool true] 52)).mono HK1.out.size))
      go_wp2_with fail
      refine (HA.out _).mono ?_
      rintro e w2 ⟨rfl, rfl⟩
      clear HA
      cases ok with
      | false =>
        clear HA2
        go_wp2_with fail
        go_ret2
        exact ⟨rfl, HB2.out⟩
      | true =>
        cases hcl : (y.toList == [99, 108, 111, 115, 101, 100]) with
        | true =>
          clear HA2
          have e2 := HG2.out.cell 2
          simp only [List.getElem?_toArray, List.getElem?_cons_zero, List.getElem?_cons_succ] at e2
          have HI := Lib.hid fun W => rkWithin_any n 0 1000000000 W
          cases hin : inR n 0 1000000000 with
          | false =>
            rw [hin] at HI
            clear hin
            go_wp2_with fail
            refine (HI.out _).mono ?_
            rintro e w3 ⟨rfl, rfl⟩
            go_wp2_with fail
            go_ret2
            exact ⟨rfl, HB2.out⟩
          | true =>
            have hb : boundR n := inR_iff.1 hin
            rw [hin] at HI
            have HT := Lib.hid (grText_any w1.heap.size n 1000000000001 true hb (by unfold markR; omega) _ HG2.out ((HE.out.on HB2.out).up HB2.out.size).tab)
            have hne := HNE.out n 1000000000001 true hb ⟨by unfold markR; omega, fun _ => rfl, fun h => by cases h⟩
            unfold TextPost at HT
            clear hin hb
            generalize (⟨(gText n 1000000000001 true).toArray⟩ : ByteArray) = t at hne HT
            go_wp2_with fail
            refine (HI.out _).mono ?_
            rintro e w3 ⟨rfl, rfl⟩
            go_wp2_with fail
            refine HT.out.mono ?_
            rintro e w4 ⟨rfl, k4⟩
            have HF := Lib.hid (HB2.out.trans (k4.mono HB2.out.size))
            clear k4
            go_wp2_with fail
            go_ret2
            exact ⟨rfl, HF.out⟩
        | false =>
          have HG4 := Lib.hid (show GaR (w1.alloc (.cells #[.int .i64 n, .int .i64 m, .bool false] 52)) w1.heap.size n m false from Blk.new _ _ _)
          have HB4 := Lib.hid (show Below w.heap.size w (w1.alloc (.cells #[.int .i64 n, .int .i64 m, .bool false] 52)) from HK1.out.trans ((below_new w1 (.cells #[.int .i64 n, .int .i64 m, .bool false] 52)).mono HK1.out.size))
          cases ok2 with
          | false =>
            go_wp2_with fail
            refine (HA2.out _).mono ?_
            rintro e w2 ⟨rfl, rfl⟩
            go_wp2_with fail
            go_ret2
            exact ⟨rfl, HB4.out⟩
          | true =>
            have HI := Lib.hid fun W => rkWithin_any n 0 1000000000 W
            cases hin : inR n 0 1000000000 with
            | false =>
              rw [hin] at HI
              clear hin
              go_wp2_with fail
              refine (HA2.out _).mono ?_
              rintro e w2 ⟨rfl, rfl⟩
              go_wp2_with fail
              refine (HI.out _).mono ?_
              rintro e w3 ⟨rfl, rfl⟩
              go_wp2_with fail
              go_ret2
              exact ⟨rfl, HB4.out⟩
            | true =>
              have hb : boundR n := inR_iff.1 hin
              have hb' := hb
              unfold boundR at hb'
              rw [hin] at HI
              have q1 : IntKind.i64.wrap (1000000000000 - n) = 1000000000000 - n := by rw [IntKind.wrap_i64]; omega
              have q2 : IntKind.i64.wrap (1000000000000 - n + 1) = 1000000000000 - n + 1 := by rw [IntKind.wrap_i64]; omega
              have HJ := Lib.hid fun W => rkWithin_any m (-1000000000000) (1000000000000 - n + 1) W
              cases hjn : inR m (-1000000000000) (1000000000000 - n + 1) with
              | false =>
                rw [hjn] at HJ
                clear hin hjn hb hb'
                go_wp2_with fail
                refine (HA2.out _).mono ?_
                rintro e w2 ⟨rfl, rfl⟩
                go_wp2_with fail
                refine (HI.out _).mono ?_
                rintro e w3 ⟨rfl, rfl⟩
                go_wp2_with fail
                refine (HJ.out _).mono ?_
                rintro e w3 ⟨rfl, rfl⟩
                go_wp2_with fail
                go_ret2
                exact ⟨rfl, HB4.out⟩
              | true =>
                have hj := inR_iff.1 hjn
                rw [hjn] at HJ
                have hm : markR m := by unfold markR; omega
                have HT := Lib.hid (grText_any w1.heap.size n m false hb hm _ HG4.out ((HE.out.on HB4.out).up HB4.out.size).tab)
                have hne := HNE.out n m false hb ⟨hm, fun h => (by cases h), fun _ => hj.2⟩
                unfold TextPost at HT
                clear hin hjn hb hj hm hb'
                generalize (⟨(gText n m false).toArray⟩ : ByteArray) = t at hne HT
                go_wp2_with fail
                refine (HA2.out _).mono ?_
                rintro e w2 ⟨rfl, rfl⟩
                go_wp2_with fail
                refine (HI.out _).mono ?_
                rintro e w3 ⟨rfl, rfl⟩
                go_wp2_with fail
                refine (HJ.out _).mono ?_
                rintro e w3 ⟨rfl, rfl⟩
                go_wp2_with fail
                refine HT.out.mono ?_
                rintro e w4 ⟨rfl, k4⟩
                have HF := Lib.hid (HB4.out.trans (k4.mono HB4.out.size))
                clear k4
                go_wp2_with fail
                go_ret2
                exact ⟨rfl, HF.out⟩
  · have d2 : ((ws.length : Int) != 2) = true := by rw [bne_iff_ne]; omega
    clear hx HO h2
    go_wp2_with fail
    go_ret2
    exact ⟨rfl, HK1.out⟩

set_option maxRecDepth 100000 in
set_option maxHeartbeats 2000000 in
theorem refParse_text (b m : Int) (q : Bool) (hb : boundR b) (hj : GJ b m q) (w : World) (hE : Env w.heap.size w) :
    Calls Tryd.prog 20 #[.string ⟨(gText b m q).toArray⟩] w (ReadPostR w b m q) := by
  have hm := hj.1
  have hb' := hb
  have hm' := hm
  unfold boundR at hb'
  unfold markR at hm'
  have hlen := text_len (b := b) (m := m) q (by omega) (by omega) (by omega) (by omega)
  have hz : (⟨(gText b m q).toArray⟩ : ByteArray).size ≤ 100 := by rw [sizeL]; omega
  have hsz : ((⟨(gText b m q).toArray⟩ : ByteArray).size : Int) ≤ 100 := by omega
  have hW := words_any ⟨(gText b m q).toArray⟩ hz w
  rw [show (⟨(gText b m q).toArray⟩ : ByteArray).data.toList = gText b m q from rfl, words_text] at hW
  unfold WordsPost at hW
  have HW := Lib.hid hW
  have HE := Lib.hid hE
  have nb := num_itoa (n := b) (by omega) (by omega)
  have nm := num_itoa (n := m) (by omega) (by omega)
  have HI := Lib.hid fun W => rkWithin_any b 0 1000000000 W
  rw [inR_iff.2 ⟨hb'.1, hb'.2⟩] at HI
  have hsz2 : ((⟨(gText b m q).toArray⟩ : ByteArray).size : Int) ≤ 65536 := by omega
  clear hW hE hlen hz
  generalize hs : (⟨(gText b m q).toArray⟩ : ByteArray) = s at hsz hsz2 HW
  go_enter Tryd.func20, Tryd.ntmps20
  go_wp2_with fail
  refine HW.out.mono ?_
  rintro e w1 ⟨g, cap, ws, rfl, hws, hx, hO, k1⟩
  have HK1 := Lib.hid k1
  have HO := Lib.hid hO
  clear k1 hO HW
  have h2 : ws.length = 2 := by
    have := congrArg List.length hws
    simpa [bytesOf] using this
  match ws, h2 with
  | [x, y], _ =>
    simp only [bytesOf, List.map_cons, List.map_nil, List.cons.injEq, and_true] at hws
    obtain ⟨hx1, hy1⟩ := hws
    have hx0 := hx x (by simp)
    have hy0 := hx y (by simp)
    have c0 : w1.cell? ⟨g, 0, none⟩ = some (.string x) := (HO.out.cellAt 0 (by simp)).trans rfl
    have c1 : w1.cell? ⟨g, 1, none⟩ = some (.string y) := (HO.out.cellAt 1 (by simp)).trans rfl
    have hA := fun W => number_call hx0 W
    rw [hx1, nb] at hA
    have HA := Lib.hid hA
    have hgl := own_lt HO.out
    clear hx HO hx0 hA hx1 nb
    cases q with
    | true =>
      obtain rfl := hj.2.1 rfl
      have hcl : (y.toList == [99, 108, 111, 115, 101, 100]) = true := by
        rw [ByteArray.toList_eq, hy1]; rfl
      have HG2 := Lib.hid (show GaR (w1.alloc (.cells #[.int .i64 b, .int .i64 1000000000001, .bool true] 52)) w1.heap.size b 1000000000001 true from Blk.new _ _ _)
      have HB2 := Lib.hid (HK1.out.trans ((below_new w1 (.cells #[.int .i64 b, .int .i64 1000000000001, .bool true] 52)).mono HK1.out.size))
      have HS := Lib.hid (show w.heap.size ≤ w1.heap.size from HK1.out.size)
      have HT := Lib.hid (grText_any w1.heap.size b 1000000000001 true hb hm _ HG2.out ((HE.out.on HB2.out).up HB2.out.size).tab)
      unfold TextPost at HT
      rw [hs] at HT
      clear hy1 nm hy0 hb hm hb' hm' hj hs
      go_wp2_with fail
      refine (HA.out _).mono ?_
      rintro e w2 ⟨rfl, rfl⟩
      go_wp2_with fail
      refine (HI.out _).mono ?_
      rintro e w3 ⟨rfl, rfl⟩
      go_wp2_with fail
      refine HT.out.mono ?_
      rintro e w4 ⟨rfl, k4⟩
      have HF := Lib.hid (show GaR w4 w1.heap.size b 1000000000001 true ∧ Below w.heap.size w w4 from ⟨HG2.out.belowV k4 HG2.out.lt, HB2.out.trans (k4.mono HB2.out.size)⟩)
      clear k4
      go_wp2_with fail
      go_ret2
      exact ⟨_, rfl, HS.out, HF.out.1, HF.out.2⟩
    | false =>
      have hcl : (y.toList == [99, 108, 111, 115, 101, 100]) = false := by
        rw [ByteArray.toList_eq, hy1, beq_eq_false_iff_ne]; exact itoa_closed m
      have hA := fun W => number_call hy0 W
      rw [hy1, show gTail m false = Lib.itoa m from rfl, nm] at hA
      have HA2 := Lib.hid hA
      have HJ := Lib.hid fun W => rkWithin_any m (-1000000000000) (1000000000000 - b + 1) W
      rw [inR_iff.2 ⟨hm'.1, hj.2.2 rfl⟩] at HJ
      have q1 : IntKind.i64.wrap (1000000000000 - b) = 1000000000000 - b := by rw [IntKind.wrap_i64]; omega
      have q2 : IntKind.i64.wrap (1000000000000 - b + 1) = 1000000000000 - b + 1 := by rw [IntKind.wrap_i64]; omega
      have HG4 := Lib.hid (show GaR (w1.alloc (.cells #[.int .i64 b, .int .i64 m, .bool false] 52)) w1.heap.size b m false from Blk.new _ _ _)
      have HB4 := Lib.hid (show Below w.heap.size w (w1.alloc (.cells #[.int .i64 b, .int .i64 m, .bool false] 52)) from HK1.out.trans ((below_new w1 (.cells #[.int .i64 b, .int .i64 m, .bool false] 52)).mono HK1.out.size))
      have HS := Lib.hid (show w.heap.size ≤ w1.heap.size from HK1.out.size)
      have HT := Lib.hid (grText_any w1.heap.size b m false hb hm _ HG4.out ((HE.out.on HB4.out).up HB4.out.size).tab)
      unfold TextPost at HT
      rw [hs] at HT
      clear hy1 nm hy0 hA hb hm hb' hm' hj hs
      go_wp2_with fail
      refine (HA.out _).mono ?_
      rintro e w2 ⟨rfl, rfl⟩
      go_wp2_with fail
      refine (HA2.out _).mono ?_
      rintro e w2 ⟨rfl, rfl⟩
      go_wp2_with fail
      refine (HI.out _).mono ?_
      rintro e w3 ⟨rfl, rfl⟩
      go_wp2_with fail
      refine (HJ.out _).mono ?_
      rintro e w3 ⟨rfl, rfl⟩
      go_wp2_with fail
      refine HT.out.mono ?_
      rintro e w4 ⟨rfl, k4⟩
      have HF := Lib.hid (show GaR w4 w1.heap.size b m false ∧ Below w.heap.size w w4 from ⟨HG4.out.belowV k4 HG4.out.lt, HB4.out.trans (k4.mono HB4.out.size)⟩)
      clear k4
      go_wp2_with fail
      go_ret2
      exact ⟨_, rfl, HS.out, HF.out.1, HF.out.2⟩
end Go.Proofs.YtmnbcofonhlplaaDoor
