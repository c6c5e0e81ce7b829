/-
  ClockTexts: what its own walk leaves.
-/
import Derived.Test.YtakekegghpgeaaaDoorRd
import Derived.Test.YtakekegghpgeaaaDoorAwake
namespace Go.Proofs.YtakekegghpgeaaaDoor.clockTexts
open Go.ChangeShapes Go.WideShapes Go.ChangeAt Go.RowKit Go.Lib
set_option linter.unusedSimpArgs false
set_option linter.unusedVariables false

theorem size_small {t : ByteArray} {cs : List Int} (h : parseOK t.data.toList cs) : t.size ≤ 100 := by
  obtain ⟨k, sz, st, g, sh, _, hok, ht⟩ := h
  have hl : t.size = (specT k sz st g sh).length := by rw [ht]; simp
  rw [hl]
  have hn := nums_range hok
  have hi : ∀ n ∈ numsT k sz st g sh, (itoa n).length ≤ 21 := fun n hm => by
    have := hn n hm
    exact Lib.itoa_length_le n (by omega) (by omega)
  have h8 := name_len k
  unfold specT
  rw [List.length_append]
  have h3 : (numsT k sz st g sh).length ≤ 3 := by rw [offs_len]; exact offs_len3 k
  have hj : ∀ (l : List Int), (∀ n ∈ l, (itoa n).length ≤ 21) → (joinT l).length ≤ 22 * l.length := by
    intro l
    induction l with
    | nil => intro _; exact Nat.le_refl _
    | cons a r ih =>
      intro h
      have h1 := h a (by simp)
      have h2 := ih (fun n hn => h n (by simp [hn]))
      simp only [joinT, List.length_cons, List.length_append]
      omega
  have := hj _ hi
  omega
set_option maxRecDepth 100000 in
set_option maxHeartbeats 2000000 in
theorem walk_ok (k sz st g sh : Int) (a t : ByteArray) (ht : t.size ≤ 131072) (ca cb cc cd ce er : Int) (w : World) (hv : specOK k sz st g sh = true)
    (h1 : ∀ W, Below w.heap.size w W → Calls Tryd.prog 5 #[.agg #[.int .i64 k, .int .i64 sz, .int .i64 st, .int .i64 g, .int .i64 sh]] W fun e w' => e = .returned (.string a) ∧ Below W.heap.size W w')
    (h2 : ∀ W, Below w.heap.size w W → Calls Tryd.prog 6 #[.agg #[.int .i64 k, .int .i64 sz, .int .i64 st, .int .i64 g, .int .i64 sh]] W fun e w' => e = .returned (.string a) ∧ Below W.heap.size W w')
    (h3 : ∀ W, Below w.heap.size w W → Calls Tryd.prog 7 #[.string a] W (ParsePost W [k, sz, st, g, sh] 0))
    (h4 : ∀ W, Below w.heap.size w W → Calls Tryd.prog 7 #[.string t] W (ParsePost W [ca, cb, cc, cd, ce] er))
    (h5 : ∀ W, Below w.heap.size w W → Calls Tryd.prog 9 #[.string t] W (ParsePost W [ca, cb, cc, cd, ce] er)) :
    Calls Tryd.prog 3 #[.agg #[.int .i64 k, .int .i64 sz, .int .i64 st, .int .i64 g, .int .i64 sh], .string t] w fun e w' => e = .returned (.bool true) ∧ Below w.heap.size w w' := by
  have hsz : (t.size : Int) ≤ 131072 := by omega
  have H1 := Lib.hid h1
  have H2 := Lib.hid h2
  have H3 := Lib.hid h3
  have H4 := Lib.hid h4
  have H5 := Lib.hid h5
  have HV := Lib.hid fun W => ValidSpec_any k sz st g sh W
  rw [hv] at HV
  unfold specV at HV
  unfold ParsePost aggL at H3 H4 H5
  simp only [List.map_cons, List.map_nil] at H3 H4 H5
  have hm := guardSpec
  have he := fun W => eqSpec k sz st g sh k sz st g sh W
  have he2 := fun W => eqSpec ca cb cc cd ce ca cb cc cd ce W
  simp only [beq_self_eq_true, Bool.and_self] at he he2
  have HA1 := Lib.hid (show SpL (w.alloc (.cells #[.int .i64 k, .int .i64 sz, .int .i64 st, .int .i64 g, .int .i64 sh] 23)) w.heap.size [k, sz, st, g, sh] from heap_alloc_new w _)
  have HB1 := Lib.hid (below_new w (.cells #[.int .i64 k, .int .i64 sz, .int .i64 st, .int .i64 g, .int .i64 sh] 23))
  clear h1 h2 h3 h4 h5 ht hv
  generalize hw1 : w.alloc (.cells #[.int .i64 k, .int .i64 sz, .int .i64 st, .int .i64 g, .int .i64 sh] 23) = w1 at HA1 HB1
  have s0 := HA1.out.cell (j := 0) (by simp)
  have s1 := HA1.out.cell (j := 1) (by simp)
  have s2 := HA1.out.cell (j := 2) (by simp)
  have s3 := HA1.out.cell (j := 3) (by simp)
  have s4 := HA1.out.cell (j := 4) (by simp)
  simp only [List.getElem?_cons_zero, List.getElem?_cons_succ, Option.getD_some] at s0 s1 s2 s3 s4
  go_enter Tryd.func3, Tryd.ntmps3
  go_wp2_with fail
  refine (H1.out _ HB1.out).mono ?_
  rintro e w2 ⟨rfl, k2⟩
  have HA2 := Lib.hid (HA1.out.belowV k2 HA1.out.lt)
  have HB2 := Lib.hid (HB1.out.trans (k2.mono HB1.out.size))
  clear k2 s0 s1 s2 s3 s4
  have s0 := HA2.out.cell (j := 0) (by simp)
  have s1 := HA2.out.cell (j := 1) (by simp)
  have s2 := HA2.out.cell (j := 2) (by simp)
  have s3 := HA2.out.cell (j := 3) (by simp)
  have s4 := HA2.out.cell (j := 4) (by simp)
  simp only [List.getElem?_cons_zero, List.getElem?_cons_succ, Option.getD_some] at s0 s1 s2 s3 s4
  go_wp2_with fail
  refine (H2.out _ HB2.out).mono ?_
  rintro e w3 ⟨rfl, k3⟩
  have HA3 := Lib.hid (HA2.out.belowV k3 HA2.out.lt)
  have HB3 := Lib.hid (HB2.out.trans (k3.mono HB2.out.size))
  clear k3 s0 s1 s2 s3 s4
  have s0 := HA3.out.cell (j := 0) (by simp)
  have s1 := HA3.out.cell (j := 1) (by simp)
  have s2 := HA3.out.cell (j := 2) (by simp)
  have s3 := HA3.out.cell (j := 3) (by simp)
  have s4 := HA3.out.cell (j := 4) (by simp)
  simp only [List.getElem?_cons_zero, List.getElem?_cons_succ, Option.getD_some] at s0 s1 s2 s3 s4
  go_wp2_with fail
  refine (H3.out _ HB3.out).mono ?_
  rintro e w4 ⟨rfl, k4⟩
  have hA4 := HA3.out.belowV k4 HA3.out.lt
  have hB4 := HB3.out.trans (k4.mono HB3.out.size)
  have hN := below_new w4 (.cells #[.int .i64 k, .int .i64 sz, .int .i64 st, .int .i64 g, .int .i64 sh] 23)
  have HD5 := Lib.hid (show SpL (w4.alloc (.cells #[.int .i64 k, .int .i64 sz, .int .i64 st, .int .i64 g, .int .i64 sh] 23)) w4.heap.size [k, sz, st, g, sh] from heap_alloc_new w4 _)
  have HA5 := Lib.hid (hA4.belowV hN hA4.lt)
  have HB5 := Lib.hid (hB4.trans (hN.mono hB4.size))
  have HL4 := Lib.hid hB4.size
  clear k4 s0 s1 s2 s3 s4 hA4 hB4 hN
  generalize hw5 : w4.alloc (.cells #[.int .i64 k, .int .i64 sz, .int .i64 st, .int .i64 g, .int .i64 sh] 23) = w5 at HD5 HA5 HB5
  have s0 := HA5.out.cell (j := 0) (by simp)
  have s1 := HA5.out.cell (j := 1) (by simp)
  have s2 := HA5.out.cell (j := 2) (by simp)
  have s3 := HA5.out.cell (j := 3) (by simp)
  have s4 := HA5.out.cell (j := 4) (by simp)
  simp only [List.getElem?_cons_zero, List.getElem?_cons_succ, Option.getD_some] at s0 s1 s2 s3 s4
  have d0 := HD5.out.cell (j := 0) (by simp)
  have d1 := HD5.out.cell (j := 1) (by simp)
  have d2 := HD5.out.cell (j := 2) (by simp)
  have d3 := HD5.out.cell (j := 3) (by simp)
  have d4 := HD5.out.cell (j := 4) (by simp)
  simp only [List.getElem?_cons_zero, List.getElem?_cons_succ, Option.getD_some] at d0 d1 d2 d3 d4
  go_wp2_with fail
  refine (HV.out _).mono ?_
  rintro e w6 ⟨rfl, hw6⟩
  have hN6 : Below (w5).heap.size (w5) w6 := by rw [hw6]; exact below_new _ _
  have HA6 := Lib.hid (HA5.out.belowV hN6 HA5.out.lt)
  have HB6 := Lib.hid (HB5.out.trans (hN6.mono HB5.out.size))
  have HD6 := Lib.hid (HD5.out.belowV hN6 HD5.out.lt)
  clear hw6 hN6 s0 s1 s2 s3 s4 d0 d1 d2 d3 d4
  have s0 := HA6.out.cell (j := 0) (by simp)
  have s1 := HA6.out.cell (j := 1) (by simp)
  have s2 := HA6.out.cell (j := 2) (by simp)
  have s3 := HA6.out.cell (j := 3) (by simp)
  have s4 := HA6.out.cell (j := 4) (by simp)
  simp only [List.getElem?_cons_zero, List.getElem?_cons_succ, Option.getD_some] at s0 s1 s2 s3 s4
  have d0 := HD6.out.cell (j := 0) (by simp)
  have d1 := HD6.out.cell (j := 1) (by simp)
  have d2 := HD6.out.cell (j := 2) (by simp)
  have d3 := HD6.out.cell (j := 3) (by simp)
  have d4 := HD6.out.cell (j := 4) (by simp)
  simp only [List.getElem?_cons_zero, List.getElem?_cons_succ, Option.getD_some] at d0 d1 d2 d3 d4
  have b0 := HD6.out.froz 0
  have b1 := HD6.out.froz 1
  have b2 := HD6.out.froz 2
  have b3 := HD6.out.froz 3
  have b4 := HD6.out.froz 4
  go_wp2_with fail
  refine (H4.out _ HB6.out).mono ?_
  rintro e w7 ⟨rfl, k7⟩
  have hD7 := HD6.out.belowV k7 HD6.out.lt
  have hB7 := HB6.out.trans (k7.mono HB6.out.size)
  clear k7 s0 s1 s2 s3 s4 d0 d1 d2 d3 d4 b0 b1 b2 b3 b4
  have d0 := hD7.cell (j := 0) (by simp)
  have d1 := hD7.cell (j := 1) (by simp)
  have d2 := hD7.cell (j := 2) (by simp)
  have d3 := hD7.cell (j := 3) (by simp)
  have d4 := hD7.cell (j := 4) (by simp)
  simp only [List.getElem?_cons_zero, List.getElem?_cons_succ, Option.getD_some] at d0 d1 d2 d3 d4
  have b0 := hD7.froz 0
  have b1 := hD7.froz 1
  have b2 := hD7.froz 2
  have b3 := hD7.froz 3
  have b4 := hD7.froz 4
  have HD8 := Lib.hid (show SpL (((((w7.setCell ⟨w4.heap.size, 0, none⟩ (.int .i64 ca)).setCell ⟨w4.heap.size, 1, none⟩ (.int .i64 cb)).setCell ⟨w4.heap.size, 2, none⟩ (.int .i64 cc)).setCell ⟨w4.heap.size, 3, none⟩ (.int .i64 cd)).setCell ⟨w4.heap.size, 4, none⟩ (.int .i64 ce)) w4.heap.size [ca, cb, cc, cd, ce] ∧ Below w.heap.size w (((((w7.setCell ⟨w4.heap.size, 0, none⟩ (.int .i64 ca)).setCell ⟨w4.heap.size, 1, none⟩ (.int .i64 cb)).setCell ⟨w4.heap.size, 2, none⟩ (.int .i64 cc)).setCell ⟨w4.heap.size, 3, none⟩ (.int .i64 cd)).setCell ⟨w4.heap.size, 4, none⟩ (.int .i64 ce)) from ⟨(((((hD7.setG 0 ca).setG 1 cb).setG 2 cc).setG 3 cd).setG 4 ce), (((((hB7.setCell (p := ⟨w4.heap.size, 0, none⟩) HL4.out (.int .i64 ca)).setCell (p := ⟨w4.heap.size, 1, none⟩) HL4.out (.int .i64 cb)).setCell (p := ⟨w4.heap.size, 2, none⟩) HL4.out (.int .i64 cc)).setCell (p := ⟨w4.heap.size, 3, none⟩) HL4.out (.int .i64 cd)).setCell (p := ⟨w4.heap.size, 4, none⟩) HL4.out (.int .i64 ce))⟩)
  clear hD7 hB7
  go_wp2_with fail
  generalize (((((w7.setCell ⟨w4.heap.size, 0, none⟩ (.int .i64 ca)).setCell ⟨w4.heap.size, 1, none⟩ (.int .i64 cb)).setCell ⟨w4.heap.size, 2, none⟩ (.int .i64 cc)).setCell ⟨w4.heap.size, 3, none⟩ (.int .i64 cd)).setCell ⟨w4.heap.size, 4, none⟩ (.int .i64 ce)) = w8 at HD8 ⊢
  clear d0 d1 d2 d3 d4 b0 b1 b2 b3 b4
  refine (H5.out _ HD8.out.2).mono ?_
  rintro e w9 ⟨rfl, k9⟩
  have hD9 := HD8.out.1.belowV k9 HD8.out.1.lt
  have hB9 := HD8.out.2.trans (k9.mono HD8.out.2.size)
  have hN := below_new w9 (.cells #[.int .i64 ca, .int .i64 cb, .int .i64 cc, .int .i64 cd, .int .i64 ce] 23)
  have HC10 := Lib.hid (show SpL (w9.alloc (.cells #[.int .i64 ca, .int .i64 cb, .int .i64 cc, .int .i64 cd, .int .i64 ce] 23)) w9.heap.size [ca, cb, cc, cd, ce] from heap_alloc_new w9 _)
  have HD10 := Lib.hid (hD9.belowV hN hD9.lt)
  have HB10 := Lib.hid (hB9.trans (hN.mono hB9.size))
  clear k9 hD9 hB9 hN
  generalize hw10 : w9.alloc (.cells #[.int .i64 ca, .int .i64 cb, .int .i64 cc, .int .i64 cd, .int .i64 ce] 23) = w10 at HC10 HD10 HB10
  have c0 := HC10.out.cell (j := 0) (by simp)
  have c1 := HC10.out.cell (j := 1) (by simp)
  have c2 := HC10.out.cell (j := 2) (by simp)
  have c3 := HC10.out.cell (j := 3) (by simp)
  have c4 := HC10.out.cell (j := 4) (by simp)
  simp only [List.getElem?_cons_zero, List.getElem?_cons_succ, Option.getD_some] at c0 c1 c2 c3 c4
  have d0 := HD10.out.cell (j := 0) (by simp)
  have d1 := HD10.out.cell (j := 1) (by simp)
  have d2 := HD10.out.cell (j := 2) (by simp)
  have d3 := HD10.out.cell (j := 3) (by simp)
  have d4 := HD10.out.cell (j := 4) (by simp)
  simp only [List.getElem?_cons_zero, List.getElem?_cons_succ, Option.getD_some] at d0 d1 d2 d3 d4
  go_wp2_with fail
  refine (awake_any _).mono ?_
  rintro e w11 ⟨rfl, k11⟩
  have HF := Lib.hid (HB10.out.trans (k11.mono HB10.out.size))
  clear k11
  go_wp2_with fail
  go_ret
  exact ⟨rfl, HF.out⟩
set_option maxRecDepth 100000 in
set_option maxHeartbeats 2000000 in
theorem walk_no (k sz st g sh : Int) (a t : ByteArray) (ht : t.size ≤ 131072) (ca cb cc cd ce er : Int) (w : World) (hv : specOK k sz st g sh = false)
    (h1 : ∀ W, Below w.heap.size w W → Calls Tryd.prog 5 #[.agg #[.int .i64 k, .int .i64 sz, .int .i64 st, .int .i64 g, .int .i64 sh]] W fun e w' => e = .returned (.string a) ∧ Below W.heap.size W w')
    (h2 : ∀ W, Below w.heap.size w W → Calls Tryd.prog 6 #[.agg #[.int .i64 k, .int .i64 sz, .int .i64 st, .int .i64 g, .int .i64 sh]] W fun e w' => e = .returned (.string a) ∧ Below W.heap.size W w')
    (h3 : ∀ W, Below w.heap.size w W → Calls Tryd.prog 7 #[.string a] W (ParsePost W [0, 0, 0, 0, 0] 2))
    (h4 : ∀ W, Below w.heap.size w W → Calls Tryd.prog 7 #[.string t] W (ParsePost W [ca, cb, cc, cd, ce] er))
    (h5 : ∀ W, Below w.heap.size w W → Calls Tryd.prog 9 #[.string t] W (ParsePost W [ca, cb, cc, cd, ce] er)) :
    Calls Tryd.prog 3 #[.agg #[.int .i64 k, .int .i64 sz, .int .i64 st, .int .i64 g, .int .i64 sh], .string t] w fun e w' => e = .returned (.bool true) ∧ Below w.heap.size w w' := by
  have hsz : (t.size : Int) ≤ 131072 := by omega
  have H1 := Lib.hid h1
  have H2 := Lib.hid h2
  have H3 := Lib.hid h3
  have H4 := Lib.hid h4
  have H5 := Lib.hid h5
  have HV := Lib.hid fun W => ValidSpec_any k sz st g sh W
  rw [hv] at HV
  unfold specV at HV
  unfold ParsePost aggL at H3 H4 H5
  simp only [List.map_cons, List.map_nil] at H3 H4 H5
  have hm := guardSpec
  have he := fun W => eqSpec k sz st g sh k sz st g sh W
  have he2 := fun W => eqSpec ca cb cc cd ce ca cb cc cd ce W
  simp only [beq_self_eq_true, Bool.and_self] at he he2
  have HA1 := Lib.hid (show SpL (w.alloc (.cells #[.int .i64 k, .int .i64 sz, .int .i64 st, .int .i64 g, .int .i64 sh] 23)) w.heap.size [k, sz, st, g, sh] from heap_alloc_new w _)
  have HB1 := Lib.hid (below_new w (.cells #[.int .i64 k, .int .i64 sz, .int .i64 st, .int .i64 g, .int .i64 sh] 23))
  clear h1 h2 h3 h4 h5 ht hv
  generalize hw1 : w.alloc (.cells #[.int .i64 k, .int .i64 sz, .int .i64 st, .int .i64 g, .int .i64 sh] 23) = w1 at HA1 HB1
  have s0 := HA1.out.cell (j := 0) (by simp)
  have s1 := HA1.out.cell (j := 1) (by simp)
  have s2 := HA1.out.cell (j := 2) (by simp)
  have s3 := HA1.out.cell (j := 3) (by simp)
  have s4 := HA1.out.cell (j := 4) (by simp)
  simp only [List.getElem?_cons_zero, List.getElem?_cons_succ, Option.getD_some] at s0 s1 s2 s3 s4
  go_enter Tryd.func3, Tryd.ntmps3
  go_wp2_with fail
  refine (H1.out _ HB1.out).mono ?_
  rintro e w2 ⟨rfl, k2⟩
  have HA2 := Lib.hid (HA1.out.belowV k2 HA1.out.lt)
  have HB2 := Lib.hid (HB1.out.trans (k2.mono HB1.out.size))
  clear k2 s0 s1 s2 s3 s4
  have s0 := HA2.out.cell (j := 0) (by simp)
  have s1 := HA2.out.cell (j := 1) (by simp)
  have s2 := HA2.out.cell (j := 2) (by simp)
  have s3 := HA2.out.cell (j := 3) (by simp)
  have s4 := HA2.out.cell (j := 4) (by simp)
  simp only [List.getElem?_cons_zero, List.getElem?_cons_succ, Option.getD_some] at s0 s1 s2 s3 s4
  go_wp2_with fail
  refine (H2.out _ HB2.out).mono ?_
  rintro e w3 ⟨rfl, k3⟩
  have HA3 := Lib.hid (HA2.out.belowV k3 HA2.out.lt)
  have HB3 := Lib.hid (HB2.out.trans (k3.mono HB2.out.size))
  clear k3 s0 s1 s2 s3 s4
  have s0 := HA3.out.cell (j := 0) (by simp)
  have s1 := HA3.out.cell (j := 1) (by simp)
  have s2 := HA3.out.cell (j := 2) (by simp)
  have s3 := HA3.out.cell (j := 3) (by simp)
  have s4 := HA3.out.cell (j := 4) (by simp)
  simp only [List.getElem?_cons_zero, List.getElem?_cons_succ, Option.getD_some] at s0 s1 s2 s3 s4
  go_wp2_with fail
  refine (H3.out _ HB3.out).mono ?_
  rintro e w4 ⟨rfl, k4⟩
  have hA4 := HA3.out.belowV k4 HA3.out.lt
  have hB4 := HB3.out.trans (k4.mono HB3.out.size)
  have hN := below_new w4 (.cells #[.int .i64 0, .int .i64 0, .int .i64 0, .int .i64 0, .int .i64 0] 23)
  have HD5 := Lib.hid (SpL.ofNew w4 0)
  have HA5 := Lib.hid (hA4.belowV hN hA4.lt)
  have HB5 := Lib.hid (hB4.trans (hN.mono hB4.size))
  have HL4 := Lib.hid hB4.size
  clear k4 s0 s1 s2 s3 s4 hA4 hB4 hN
  skip
  have s0 := HA5.out.cell (j := 0) (by simp)
  have s1 := HA5.out.cell (j := 1) (by simp)
  have s2 := HA5.out.cell (j := 2) (by simp)
  have s3 := HA5.out.cell (j := 3) (by simp)
  have s4 := HA5.out.cell (j := 4) (by simp)
  simp only [List.getElem?_cons_zero, List.getElem?_cons_succ, Option.getD_some] at s0 s1 s2 s3 s4
  have d0 := HD5.out.cell (j := 0) (by simp)
  have d1 := HD5.out.cell (j := 1) (by simp)
  have d2 := HD5.out.cell (j := 2) (by simp)
  have d3 := HD5.out.cell (j := 3) (by simp)
  have d4 := HD5.out.cell (j := 4) (by simp)
  simp only [List.getElem?_cons_zero, List.getElem?_cons_succ, Option.getD_some] at d0 d1 d2 d3 d4
  go_wp2_with fail
  refine (HV.out _).mono ?_
  rintro e w6 ⟨rfl, hw6⟩
  have hN6 : Below (w4.alloc (.cells #[.int .i64 0, .int .i64 0, .int .i64 0, .int .i64 0, .int .i64 0] 23)).heap.size (w4.alloc (.cells #[.int .i64 0, .int .i64 0, .int .i64 0, .int .i64 0, .int .i64 0] 23)) w6 := by rw [hw6]; exact below_new _ _
  have HA6 := Lib.hid (HA5.out.belowV hN6 HA5.out.lt)
  have HB6 := Lib.hid (HB5.out.trans (hN6.mono HB5.out.size))
  have HD6 := Lib.hid (HD5.out.belowV hN6 HD5.out.lt)
  clear hw6 hN6 s0 s1 s2 s3 s4 d0 d1 d2 d3 d4
  have s0 := HA6.out.cell (j := 0) (by simp)
  have s1 := HA6.out.cell (j := 1) (by simp)
  have s2 := HA6.out.cell (j := 2) (by simp)
  have s3 := HA6.out.cell (j := 3) (by simp)
  have s4 := HA6.out.cell (j := 4) (by simp)
  simp only [List.getElem?_cons_zero, List.getElem?_cons_succ, Option.getD_some] at s0 s1 s2 s3 s4
  have d0 := HD6.out.cell (j := 0) (by simp)
  have d1 := HD6.out.cell (j := 1) (by simp)
  have d2 := HD6.out.cell (j := 2) (by simp)
  have d3 := HD6.out.cell (j := 3) (by simp)
  have d4 := HD6.out.cell (j := 4) (by simp)
  simp only [List.getElem?_cons_zero, List.getElem?_cons_succ, Option.getD_some] at d0 d1 d2 d3 d4
  have b0 := HD6.out.froz 0
  have b1 := HD6.out.froz 1
  have b2 := HD6.out.froz 2
  have b3 := HD6.out.froz 3
  have b4 := HD6.out.froz 4
  go_wp2_with fail
  refine (H4.out _ HB6.out).mono ?_
  rintro e w7 ⟨rfl, k7⟩
  have hD7 := HD6.out.belowV k7 HD6.out.lt
  have hB7 := HB6.out.trans (k7.mono HB6.out.size)
  clear k7 s0 s1 s2 s3 s4 d0 d1 d2 d3 d4 b0 b1 b2 b3 b4
  have d0 := hD7.cell (j := 0) (by simp)
  have d1 := hD7.cell (j := 1) (by simp)
  have d2 := hD7.cell (j := 2) (by simp)
  have d3 := hD7.cell (j := 3) (by simp)
  have d4 := hD7.cell (j := 4) (by simp)
  simp only [List.getElem?_cons_zero, List.getElem?_cons_succ, Option.getD_some] at d0 d1 d2 d3 d4
  have b0 := hD7.froz 0
  have b1 := hD7.froz 1
  have b2 := hD7.froz 2
  have b3 := hD7.froz 3
  have b4 := hD7.froz 4
  have HD8 := Lib.hid (show SpL (((((w7.setCell ⟨w4.heap.size, 0, none⟩ (.int .i64 ca)).setCell ⟨w4.heap.size, 1, none⟩ (.int .i64 cb)).setCell ⟨w4.heap.size, 2, none⟩ (.int .i64 cc)).setCell ⟨w4.heap.size, 3, none⟩ (.int .i64 cd)).setCell ⟨w4.heap.size, 4, none⟩ (.int .i64 ce)) w4.heap.size [ca, cb, cc, cd, ce] ∧ Below w.heap.size w (((((w7.setCell ⟨w4.heap.size, 0, none⟩ (.int .i64 ca)).setCell ⟨w4.heap.size, 1, none⟩ (.int .i64 cb)).setCell ⟨w4.heap.size, 2, none⟩ (.int .i64 cc)).setCell ⟨w4.heap.size, 3, none⟩ (.int .i64 cd)).setCell ⟨w4.heap.size, 4, none⟩ (.int .i64 ce)) from ⟨(((((hD7.setG 0 ca).setG 1 cb).setG 2 cc).setG 3 cd).setG 4 ce), (((((hB7.setCell (p := ⟨w4.heap.size, 0, none⟩) HL4.out (.int .i64 ca)).setCell (p := ⟨w4.heap.size, 1, none⟩) HL4.out (.int .i64 cb)).setCell (p := ⟨w4.heap.size, 2, none⟩) HL4.out (.int .i64 cc)).setCell (p := ⟨w4.heap.size, 3, none⟩) HL4.out (.int .i64 cd)).setCell (p := ⟨w4.heap.size, 4, none⟩) HL4.out (.int .i64 ce))⟩)
  clear hD7 hB7
  go_wp2_with fail
  generalize (((((w7.setCell ⟨w4.heap.size, 0, none⟩ (.int .i64 ca)).setCell ⟨w4.heap.size, 1, none⟩ (.int .i64 cb)).setCell ⟨w4.heap.size, 2, none⟩ (.int .i64 cc)).setCell ⟨w4.heap.size, 3, none⟩ (.int .i64 cd)).setCell ⟨w4.heap.size, 4, none⟩ (.int .i64 ce)) = w8 at HD8 ⊢
  clear d0 d1 d2 d3 d4 b0 b1 b2 b3 b4
  refine (H5.out _ HD8.out.2).mono ?_
  rintro e w9 ⟨rfl, k9⟩
  have hD9 := HD8.out.1.belowV k9 HD8.out.1.lt
  have hB9 := HD8.out.2.trans (k9.mono HD8.out.2.size)
  have hN := below_new w9 (.cells #[.int .i64 ca, .int .i64 cb, .int .i64 cc, .int .i64 cd, .int .i64 ce] 23)
  have HC10 := Lib.hid (show SpL (w9.alloc (.cells #[.int .i64 ca, .int .i64 cb, .int .i64 cc, .int .i64 cd, .int .i64 ce] 23)) w9.heap.size [ca, cb, cc, cd, ce] from heap_alloc_new w9 _)
  have HD10 := Lib.hid (hD9.belowV hN hD9.lt)
  have HB10 := Lib.hid (hB9.trans (hN.mono hB9.size))
  clear k9 hD9 hB9 hN
  generalize hw10 : w9.alloc (.cells #[.int .i64 ca, .int .i64 cb, .int .i64 cc, .int .i64 cd, .int .i64 ce] 23) = w10 at HC10 HD10 HB10
  have c0 := HC10.out.cell (j := 0) (by simp)
  have c1 := HC10.out.cell (j := 1) (by simp)
  have c2 := HC10.out.cell (j := 2) (by simp)
  have c3 := HC10.out.cell (j := 3) (by simp)
  have c4 := HC10.out.cell (j := 4) (by simp)
  simp only [List.getElem?_cons_zero, List.getElem?_cons_succ, Option.getD_some] at c0 c1 c2 c3 c4
  have d0 := HD10.out.cell (j := 0) (by simp)
  have d1 := HD10.out.cell (j := 1) (by simp)
  have d2 := HD10.out.cell (j := 2) (by simp)
  have d3 := HD10.out.cell (j := 3) (by simp)
  have d4 := HD10.out.cell (j := 4) (by simp)
  simp only [List.getElem?_cons_zero, List.getElem?_cons_succ, Option.getD_some] at d0 d1 d2 d3 d4
  go_wp2_with fail
  refine (awake_any _).mono ?_
  rintro e w11 ⟨rfl, k11⟩
  have HF := Lib.hid (HB10.out.trans (k11.mono HB10.out.size))
  clear k11
  go_wp2_with fail
  go_ret
  exact ⟨rfl, HF.out⟩
set_option maxRecDepth 100000 in
theorem walk_long_agg (k sz st g sh : Int) (t : ByteArray) (h : 131072 < t.size) (w : World) :
    Calls Tryd.prog 3 #[.agg #[.int .i64 k, .int .i64 sz, .int .i64 st, .int .i64 g, .int .i64 sh], .string t] w fun e w' => e = .returned (.bool true) ∧ Below w.heap.size w w' := by
  have hsz : (131072 : Int) < (t.size : Int) := by omega
  have HB1 := Lib.hid (below_new w (.cells #[.int .i64 k, .int .i64 sz, .int .i64 st, .int .i64 g, .int .i64 sh] 23))
  generalize hw1 : w.alloc (.cells #[.int .i64 k, .int .i64 sz, .int .i64 st, .int .i64 g, .int .i64 sh] 23) = w1 at HB1
  clear h
  go_enter Tryd.func3, Tryd.ntmps3
  go_wp2_with fail
  refine (awake_any _).mono ?_
  rintro e w2 ⟨rfl, k2⟩
  have HF := Lib.hid (HB1.out.trans (k2.mono HB1.out.size))
  clear k2
  go_wp2_with fail
  go_ret
  exact ⟨rfl, HF.out⟩
theorem fmt_data (k sz st g sh : Int) : (⟨(fmtT k sz st g sh).toArray⟩ : ByteArray).data.toList = fmtT k sz st g sh := rfl
theorem walk_all (k sz st g sh : Int) (t : ByteArray) (w : World) (hE : Env w.heap.size w) :
    Calls Tryd.prog 3 #[.agg #[.int .i64 k, .int .i64 sz, .int .i64 st, .int .i64 g, .int .i64 sh], .string t] w fun e w' => e = .returned (.bool true) ∧ Below w.heap.size w w' := by
  by_cases hlong : 131072 < t.size
  · exact walk_long_agg k sz st g sh t hlong w
  have hEB : ∀ W, Below w.heap.size w W → Env W.heap.size W := fun W hb => (hE.on hb).up hb.size
  have hP : ∃ ca cb cc cd ce er, (∀ W, Below w.heap.size w W → Calls Tryd.prog 7 #[.string t] W (ParsePost W [ca, cb, cc, cd, ce] er)) ∧ (∀ W, Below w.heap.size w W → Calls Tryd.prog 9 #[.string t] W (ParsePost W [ca, cb, cc, cd, ce] er)) := by
    by_cases h6 : 65536 < t.size
    · exact ⟨0, 0, 0, 0, 0, 3, fun W _ => clkParse_vlong t h6 W, fun W _ => refParse_vlong t h6 W⟩
    by_cases hp : ∃ cs, parseOK t.data.toList cs
    · obtain ⟨cs, hp⟩ := hp
      have hs := size_small hp
      have hp' := hp
      obtain ⟨k, sz, st, g, sh, rfl, _, _⟩ := hp'
      exact ⟨_, _, _, _, _, 0, fun W hb => clkParse_good t (by omega) W (hEB W hb) _ hp, fun W hb => refParse_good t hs W (hEB W hb) _ hp⟩
    · have hn : ∀ cs, ¬ parseOK t.data.toList cs := fun cs h => hp ⟨cs, h⟩
      refine ⟨0, 0, 0, 0, 0, 2, fun W hb => clkParse_not t (by omega) W (hEB W hb) hn, fun W hb => ?_⟩
      by_cases h1 : t.size ≤ 100
      · exact refParse_not t h1 W (hEB W hb) hn
      · exact refParse_long t (by omega) (by omega) W
  obtain ⟨ca, cb, cc, cd, ce, er, h4, h5⟩ := hP
  cases hv : specOK k sz st g sh with
  | true =>
    have hp : parseOK (⟨(fmtT k sz st g sh).toArray⟩ : ByteArray).data.toList [k, sz, st, g, sh] := ⟨k, sz, st, g, sh, rfl, hv, by rw [fmt_data]; unfold fmtT; rw [if_pos hv]⟩
    exact walk_ok k sz st g sh _ t (by omega) ca cb cc cd ce er w hv (fun W hb => format_any k sz st g sh W (hEB W hb).tab) (fun W hb => refFormat_any k sz st g sh W (hEB W hb).tab) (fun W hb => clkParse_good _ (by have := size_small hp; omega) W (hEB W hb) _ hp) h4 h5
  | false =>
    have he : fmtT k sz st g sh = [] := by unfold fmtT; rw [hv]; rfl
    have hn : ∀ cs, ¬ parseOK (⟨(fmtT k sz st g sh).toArray⟩ : ByteArray).data.toList cs := by
      rw [fmt_data, he]
      rintro cs ⟨k', sz', st', g', sh', _, hok, ht⟩
      exact specT_ne hok ht
    exact walk_no k sz st g sh _ t (by omega) ca cb cc cd ce er w hv (fun W hb => format_any k sz st g sh W (hEB W hb).tab) (fun W hb => refFormat_any k sz st g sh W (hEB W hb).tab) (fun W hb => clkParse_not _ (by rw [he]; decide) W (hEB W hb) hn) h4 h5
end Go.Proofs.YtakekegghpgeaaaDoor.clockTexts
