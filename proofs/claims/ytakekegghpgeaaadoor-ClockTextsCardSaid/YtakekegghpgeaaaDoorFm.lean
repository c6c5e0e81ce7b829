/-
  Format of package clock, as a contract.
-/
import Derived.Test.YtakekegghpgeaaaDoorFo
namespace Go.Proofs.YtakekegghpgeaaaDoor
open Go.RowKit Go.Lib
set_option linter.unusedSimpArgs false

theorem joinT_snoc (l : List Int) (n : Int) : joinT (l ++ [n]) = joinT l ++ 32 :: itoa n := by
  induction l with
  | nil => simp [joinT]
  | cons x r ih => simp [joinT, ih]
theorem offs_len (k sz st g sh : Int) : (numsT k sz st g sh).length = (offsT k).length := by
  unfold numsT offsT
  repeat' split
  all_goals rfl
theorem offs_len3 (k : Int) : (offsT k).length ≤ 3 := by
  unfold offsT
  repeat' split
  all_goals simp
theorem offs_cell {w : World} {S : Nat} {k sz st g sh : Int} (h : SpB w S k sz st g sh) : ∀ i, i < (offsT k).length → w.cell? ⟨S, (offsT k)[i]?.getD 0, none⟩ = some (.int .i64 ((numsT k sz st g sh)[i]?.getD 0)) := by
  have c1 := h.cell 1
  have c2 := h.cell 2
  have c3 := h.cell 3
  have c4 := h.cell 4
  simp only [List.getElem?_toArray, List.getElem?_cons_zero, List.getElem?_cons_succ] at c1 c2 c3 c4
  intro i
  unfold offsT numsT
  by_cases h1 : k = 1
  · rw [if_pos h1, if_pos h1]
    intro hi
    match i, hi with
    | 0, _ => exact c1
    | 1, _ => exact c4
  rw [if_neg h1, if_neg h1]
  by_cases h2 : k = 2
  · rw [if_pos h2, if_pos h2]
    intro hi
    match i, hi with
    | 0, _ => exact c1
    | 1, _ => exact c2
    | 2, _ => exact c4
  rw [if_neg h2, if_neg h2]
  by_cases h3 : k = 3
  · rw [if_pos h3, if_pos h3]
    intro hi
    match i, hi with
    | 0, _ => exact c3
  rw [if_neg h3]
  intro hi
  exact absurd hi (by simp)
theorem nums_range {k sz st g sh : Int} (h : specOK k sz st g sh = true) : ∀ n ∈ numsT k sz st g sh, 0 ≤ n ∧ n ≤ 1000000000 := by
  have hp := (specOK_iff k sz st g sh).1 h
  unfold specP at hp
  intro n hn
  unfold numsT at hn
  repeat' split at hn
  all_goals simp only [List.mem_cons, List.not_mem_nil, or_false] at hn
  all_goals omega
def fmtT (k sz st g sh : Int) : List UInt8 := if specOK k sz st g sh = true then specT k sz st g sh else []
def FmtPost (w : World) (l : List UInt8) (e : Ending) (w' : World) : Prop := e = .returned (.string ⟨l.toArray⟩) ∧ Below w.heap.size w w'
theorem name_len (k : Int) : (nameT k).length ≤ 8 := by
  unfold nameT
  repeat' split
  all_goals decide
theorem bytes_of {t : ByteArray} {l : List UInt8} (h : t.data.toList = l) : t = ⟨l.toArray⟩ := by
  subst h; rfl

set_option maxRecDepth 100000 in
set_option maxHeartbeats 2000000 in
theorem format_any (k sz st g sh : Int) (w : World) (hT : Tab w.heap.size w) :
    Calls Tryd.prog 5 #[.agg #[.int .i64 k, .int .i64 sz, .int .i64 st, .int .i64 g, .int .i64 sh]] w (FmtPost w (fmtT k sz st g sh)) := by
  have HV := Lib.hid fun W => ValidSpec_any k sz st g sh W
  have hS : SpB (w.alloc (.cells #[.int .i64 k, .int .i64 sz, .int .i64 st, .int .i64 g, .int .i64 sh] 23)) w.heap.size k sz st g sh := heap_alloc_new w _
  have hB := below_new w (.cells #[.int .i64 k, .int .i64 sz, .int .i64 st, .int .i64 g, .int .i64 sh] 23)
  have HS := Lib.hid hS
  have HB := Lib.hid hB
  have HT := Lib.hid hT
  unfold fmtT
  cases hok : specOK k sz st g sh with
  | false =>
    rw [hok] at HV
    rw [if_neg (by decide)]
    clear hS hB hT hok
    go_enter Tryd.func5, Tryd.ntmps5
    go_wp2_with fail
    refine (HV.out _).mono ?_
    rintro e w1 ⟨rfl, hw1⟩
    have HB1 := Lib.hid (show Below w.heap.size w w1 by rw [hw1]; exact HB.out.alloc HB.out.size _)
    clear hw1
    go_wp2_with fail
    go_ret
    exact ⟨rfl, HB1.out⟩
  | true =>
    have hR := nums_range hok
    rw [hok] at HV
    rw [if_pos rfl]
    unfold specT
    have hL := offs_len k sz st g sh
    have hC := fun (u : World) (h : SpB u w.heap.size k sz st g sh) => offs_cell h
    have h3 := offs_len3 k
    have HF := Lib.hid fun (u : World) (h : SpB u w.heap.size k sz st g sh) => form_any w.heap.size k sz st g sh u h
    unfold FormPost at HF
    generalize numsT k sz st g sh = ns at hR hL hC ⊢
    generalize offsT k = os at hL hC h3 HF
    have HR := Lib.hid hR
    have HL := Lib.hid hL
    have HCC := Lib.hid hC
    clear hS hB hT hok hR hL hC
    go_enter Tryd.func5, Tryd.ntmps5
    go_wp2_with fail
    refine (HV.out _).mono ?_
    rintro e w1 ⟨rfl, hw1⟩
    have HB1 := Lib.hid (show Below w.heap.size w w1 by rw [hw1]; exact HB.out.alloc HB.out.size _)
    have HS1 := Lib.hid (show SpB w1 w.heap.size k sz st g sh by rw [hw1]; exact HS.out.belowV (below_new _ _) HS.out.lt)
    clear hw1 HB HV HS
    go_wp2_with fail
    refine (HF.out w1 HS1.out).mono ?_
    rintro e w2 ⟨v, rfl, ⟨p, c, rfl, hlc, hpr⟩, k2⟩
    have HB2 := Lib.hid (HB1.out.trans (k2.mono HB1.out.size))
    have HS2 := Lib.hid (HS1.out.belowV k2 HS1.out.lt)
    have HC := Lib.hid (HCC.out w2 HS2.out)
    have HP := Lib.hid hpr
    clear k2 hpr HF HB1 HS1 HCC
    go_wp2_with fail
    go_loopw [3, 16] (fun x s wr => ∃ (i : Nat) (T : ByteArray), x = .string T ∧ s = .int .i64 i ∧ i ≤ os.length ∧ Hid (T.data.toList = nameT k ++ joinT (ns.take i)) ∧ Hid (T.size ≤ 8 + 22 * i) ∧ Hid (Below w2.heap.size w2 wr)) (fun _ s _ => os.length - (RowKit.intOf s).toNat)
    case atStart =>
      exact ⟨0, _, rfl, rfl, Nat.zero_le _, (show (⟨(nameT k).toArray⟩ : ByteArray).data.toList = nameT k ++ joinT (ns.take 0) by simp [joinT]), (by have := name_len k; show (nameT k).toArray.size ≤ _; simp; omega), Below.refl _ _⟩
    case round =>
      obtain ⟨i, T, rfl, rfl, hin, HTx, HZ, HK⟩ := hrel
      by_cases hlt : i < os.length
      · obtain ⟨g0, rfl, hg0, hpr⟩ := HP.out (by omega)
        have cp := (HK.out.cell (p := ⟨g0, i, none⟩) hg0).trans (hpr i hlt)
        have cn := (HK.out.cell (p := ⟨w.heap.size, os[i]?.getD 0, none⟩) HS2.out.lt).trans (HC.out i hlt)
        have hi0 : (0 : Int) ≤ (i : Int) := by omega
        have hi1 : (i : Int) < (os.length : Int) := by omega
        have hin2 : i < ns.length := by rw [HL.out]; exact hlt
        have hr := HR.out (ns[i]?.getD 0) (by rw [List.getElem?_eq_getElem hin2]; exact List.getElem_mem hin2)
        have htk : ns.take (i + 1) = ns.take i ++ [ns[i]?.getD 0] := by
          rw [List.take_succ_eq_append_getElem hin2, List.getElem?_eq_getElem hin2]; rfl
        have HNX := Lib.hid (show nameT k ++ joinT (ns.take (i + 1)) = (nameT k ++ joinT (ns.take i)) ++ 32 :: Lib.itoa (ns[i]?.getD 0) by rw [htk, joinT_snoc, List.append_assoc])
        generalize ns[i]?.getD 0 = n at cn hr HNX
        generalize os[i]?.getD 0 = o at cp cn
        have hil := Lib.itoa_length_le n (by omega) (by omega)
        have HI := Lib.hid (itoa_any n (by omega) (by omega) w.heap.size wr (HT.out.on (HB2.out.trans (HK.out.mono HB2.out.size))))
        have hz := HZ.out
        obtain ⟨I, hI⟩ : ∃ I : ByteArray, I = ⟨(Lib.itoa n).toArray⟩ := ⟨_, rfl⟩
        have hIs : I.size ≤ 21 := by rw [hI]; show (Lib.itoa n).toArray.size ≤ 21; simpa using hil
        have hId : I.data.toList = Lib.itoa n := by rw [hI]
        rw [← hI] at HI
        have hgl : (T ++ (⟨#[32]⟩ ++ I)).data.toList = (nameT k ++ joinT (ns.take i)) ++ 32 :: Lib.itoa n := by
          rw [ByteArray.data_append, ByteArray.data_append, Array.toList_append, Array.toList_append, HTx.out, hId]
          rfl
        have hgz : (T ++ (⟨#[32]⟩ ++ I)).size ≤ 8 + 22 * (i + 1) := by
          have e := congrArg List.length hgl
          rw [← HTx.out, ← hId] at e
          simp only [List.length_append, List.length_cons, Array.length_toList] at e
          have e1 : T.data.size = T.size := rfl
          have e2 : I.data.size = I.size := rfl
          have e3 : (T ++ (⟨#[32]⟩ ++ I)).data.size = (T ++ (⟨#[32]⟩ ++ I)).size := rfl
          omega
        have HGL := Lib.hid (show (T ++ (⟨#[32]⟩ ++ I)).data.toList = nameT k ++ joinT (ns.take (i + 1)) by rw [hgl, HNX.out])
        have HGZ := Lib.hid hgz
        have m1 : ¬ 9223372036854775807 < 1 + I.size := by omega
        have m2 : ¬ 9223372036854775807 < T.size + (1 + I.size) := by omega
        clear hr hil hpr hgl hgz hId hI htk HTx HZ HNX
        go_wp2_with fail
        refine HI.out.mono ?_
        rintro e w3 ⟨rfl, k3⟩
        have HK3 := Lib.hid (HK.out.trans (k3.mono HK.out.size))
        clear k3 HI cp cn
        go_wp2_with fail
        go_roundw
        case rel => exact ⟨i + 1, _, rfl, by go_num, by omega, HGL.out, HGZ.out, HK3.out⟩
        case measure => simp [RowKit.intOf]; omega
      · have hie : i = ns.length := by have := HL.out; omega
        have hx := HTx.out
        rw [hie, List.take_length] at hx
        have HX := Lib.hid (bytes_of hx)
        have HF := Lib.hid (HB2.out.trans (HK.out.mono HB2.out.size))
        clear hie hx HTx HZ HK
        go_wp2_with fail
        go_ret
        exact ⟨by rw [← HX.out]; rfl, HF.out⟩
end Go.Proofs.YtakekegghpgeaaaDoor
