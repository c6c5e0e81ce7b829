/-
  Joined: the document's own.
-/
import Derived.Test.YtfkkdoodngldhaaDoorJoined
import Derived.Deep.RegionLaw
import Derived.Deep.AppendLies
import Derived.IntWalk
namespace Go.Proofs.YtfkkdoodngldhaaDoor
open Go.RowKit
set_option linter.unusedVariables false

theorem joinC_len (a b : List Col) (pf : ByteArray) : (joinC a b pf).length = a.length + b.length := by rw [← mixC_all, mixC_len]
theorem joinC_a {a b : List Col} {pf : ByteArray} {j : Nat} (h : j < a.length) : colAt (joinC a b pf) j = colAt a j := by
  unfold colAt joinC; rw [List.getElem?_append_left h]
theorem joinC_b {a b : List Col} {pf : ByteArray} {j : Nat} (h : j < b.length) : colAt (joinC a b pf) (a.length + j) = preC pf (colAt b j) := by
  unfold colAt joinC
  rw [List.getElem?_append_right (by omega), show a.length + j - a.length = j by omega, List.getElem?_map, List.getElem?_eq_getElem h]
  rfl
theorem joinC_ok {a b : List Col} {pf : ByteArray} (ha : schemaOK a = true) (hb : schemaOK b = true) (hp : nameOK pf = true) (h8 : a.length + b.length ≤ 8) (hs : shortP b pf) : schemaOK (joinC a b pf) = distinctB (joinC a b pf) := by
  have h1 := schemaOK_is ha
  have h2 := schemaOK_is hb
  have hl := joinC_len a b pf
  have hf : ∀ i, i < (joinC a b pf).length → fineAt (joinC a b pf) i := fun i hi => by
    unfold fineAt
    by_cases c : i < a.length
    · rw [joinC_a c]; exact (h1.2.2 i c).1
    · obtain ⟨j, rfl⟩ : ∃ j, i = a.length + j := ⟨i - a.length, by omega⟩
      have hj : j < b.length := by omega
      rw [joinC_b hj]
      exact ⟨nameP_ok hp (h2.2.2 j hj).1.1 (hs j hj), (h2.2.2 j hj).1.2⟩
  cases hd : distinctB (joinC a b pf) with
  | true => exact schemaOK_yes (by have := h1.1; omega) (by omega) (fun i hi => ⟨hf i hi, distinct_iff.1 (distinctB_iff.1 hd) i hi⟩)
  | false =>
    rw [Bool.eq_false_iff]
    intro h
    have h3 := schemaOK_is h
    have := distinctB_yes fun i hi => (h3.2.2 i hi).2
    rw [hd] at this; cases this
theorem joinC_next {a b : List Col} {pf : ByteArray} {k : Nat} (h : k < b.length) : joinC a (b.take (k + 1)) pf = joinC a (b.take k) pf ++ [preC pf (colAt b k)] := by
  have hb : colAt b k = b[k] := by simp [colAt, h]
  unfold joinC
  rw [List.take_succ_eq_append_getElem h, List.map_append, hb]
  simp
theorem cells_two_newC (w : World) (c : Col) (n : Nat) (t : TypeId) : ∀ (j : Nat) (u : Value), (cellsC c)[j]? = some u → (w.alloc (.cells #[.string c.1, .int .i64 c.2] t)).cell? ((⟨w.heap.size, 0, none⟩ : Addr).add j) = some u := fun j u h =>
  cells_new w #[.string c.1, .int .i64 c.2] t j u h

set_option maxRecDepth 100000 in
set_option maxHeartbeats 4000000 in
theorem refJoined_any (p q : Option Addr) (a b : List Col) (pf : ByteArray) (c d : Nat) (hca : a.length ≤ c) (hcc : c ≤ 9223372036854775807) (hcb : b.length ≤ d) (hdd : d ≤ 9223372036854775807) (hz : p = none → c = 0) (hma : a.length ≤ 9223372036854775807) (hmb : b.length ≤ 9223372036854775807) (hpf : pf.size ≤ 9223372036854775807) (hsa : ∀ j, (colAt a j).1.size ≤ maxLen) (hsb : ∀ j, (colAt b j).1.size ≤ maxLen) (w : World) (hX : ColsIn w p a) (hY : ColsIn w q b) :
    Calls Tryd.prog 47 #[.slice p a.length c, .slice q b.length d, .string pf] w (TwoPostC w (joinedVal a b pf) (joinedErr a b pf)) := by
  have h1 := refSchema_any p a c hca hma hcc hsa w hX
  have h2 := fun W (h : Below w.heap.size w W) => refSchema_any q b d hcb hmb hdd hsb W (hY.belowV h)
  have h3 := fun W => refName_any pf hpf W
  cases qa : schemaOK a with
  | false =>
    have he : joinedErr a b pf = 1 := by unfold joinedErr; rw [qa]; rfl
    have hv : joinedVal a b pf = [] := by unfold joinedVal; rw [he]; rfl
    rw [he, hv]
    rw [qa] at h1
    have HV := Lib.hid h1
    clear h1 h2 h3 he hv hX hY qa hz hsa hsb
    go_enter Tryd.func47, Tryd.ntmps47
    go_wp2_with fail
    refine HV.out.mono ?_
    rintro e w1 ⟨rfl, hb1⟩
    go_wp2_with fail
    go_ret2
    exact ⟨_, rfl, World.ownsRow_nil _ _ _ _, hb1⟩
  | true =>
    rw [qa] at h1
    cases qb : schemaOK b with
    | false =>
      have he : joinedErr a b pf = 1 := by unfold joinedErr; rw [qa, qb]; rfl
      have hv : joinedVal a b pf = [] := by unfold joinedVal; rw [he]; rfl
      rw [he, hv]
      rw [qb] at h2
      have HV := Lib.hid h1
      have HV2 := Lib.hid h2
      clear h1 h2 h3 he hv hX hY qa qb hz hsa hsb
      go_enter Tryd.func47, Tryd.ntmps47
      go_wp2_with fail
      refine HV.out.mono ?_
      rintro e w1 ⟨rfl, hb1⟩
      go_wp2_with fail
      refine (HV2.out _ hb1).mono ?_
      rintro e w2 ⟨rfl, hb2⟩
      go_wp2_with fail
      go_ret2
      exact ⟨_, rfl, World.ownsRow_nil _ _ _ _, hb1.trans (hb2.mono hb1.size)⟩
    | true =>
      rw [qb] at h2
      cases qn : nameOK pf with
      | false =>
        have he : joinedErr a b pf = 1 := by unfold joinedErr; rw [qa, qb, qn]; rfl
        have hv : joinedVal a b pf = [] := by unfold joinedVal; rw [he]; rfl
        rw [he, hv]
        rw [qn] at h3
        have HV := Lib.hid h1
        have HV2 := Lib.hid h2
        have HV3 := Lib.hid h3
        clear h1 h2 h3 he hv hX hY qa qb qn hz hsa hsb
        go_enter Tryd.func47, Tryd.ntmps47
        go_wp2_with fail
        refine HV.out.mono ?_
        rintro e w1 ⟨rfl, hb1⟩
        go_wp2_with fail
        refine (HV2.out _ hb1).mono ?_
        rintro e w2 ⟨rfl, hb2⟩
        go_wp2_with fail
        refine (HV3.out _).mono ?_
        rintro e w3 ⟨rfl, rfl⟩
        go_wp2_with fail
        go_ret2
        exact ⟨_, rfl, World.ownsRow_nil _ _ _ _, hb1.trans (hb2.mono hb1.size)⟩
      | true =>
        rw [qn] at h3
        have ha8 := schemaOK_is qa
        have hb8 := schemaOK_is qb
        have hpf16 : pf.size ≤ 16 := by unfold nameOK at qn; rw [decide_eq_true_eq] at qn; exact qn.2.1
        by_cases h8 : 8 < a.length + b.length
        · have he : joinedErr a b pf = 4 := by unfold joinedErr; rw [qa, qb, qn, if_neg (by decide), if_neg (by decide), if_neg (by decide), if_pos h8]
          have hv : joinedVal a b pf = [] := by unfold joinedVal; rw [he]; rfl
          rw [he, hv]
          have h8' : (8 : Int) < (a.length : Int) + (b.length : Int) := by omega
          have hla : (a.length : Int) ≤ 8 := by have := ha8.2.1; omega
          have hlb : (b.length : Int) ≤ 8 := by have := hb8.2.1; omega
          have HV := Lib.hid h1
          have HV2 := Lib.hid h2
          have HV3 := Lib.hid h3
          clear h1 h2 h3 he hv hX hY qa qb qn hz hsa hsb ha8 hb8
          go_enter Tryd.func47, Tryd.ntmps47
          go_wp2_with fail
          refine HV.out.mono ?_
          rintro e w1 ⟨rfl, hb1⟩
          go_wp2_with fail
          refine (HV2.out _ hb1).mono ?_
          rintro e w2 ⟨rfl, hb2⟩
          go_wp2_with fail
          refine (HV3.out _).mono ?_
          rintro e w3 ⟨rfl, rfl⟩
          go_wp2_with fail
          go_ret2
          exact ⟨_, rfl, World.ownsRow_nil _ _ _ _, hb1.trans (hb2.mono hb1.size)⟩
        · have hlong : ¬ shortP b pf → joinedErr a b pf = 4 ∧ joinedVal a b pf = [] := fun h => by
            have he : joinedErr a b pf = 4 := by unfold joinedErr; rw [qa, qb, qn, if_neg (by decide), if_neg (by decide), if_neg (by decide), if_neg h8, if_pos h]
            exact ⟨he, by unfold joinedVal; rw [he]; rfl⟩
          have hfin : shortP b pf → joinedErr a b pf = (if schemaOK (joinC a b pf) = false then 6 else 0) := fun hs => by
            unfold joinedErr; rw [qa, qb, qn, if_neg (by decide), if_neg (by decide), if_neg (by decide), if_neg h8, if_neg (fun H => H hs), joinC_ok qa qb qn (by omega) hs]
          have hval : joinedVal a b pf = if joinedErr a b pf = 0 then joinC a b pf else [] := rfl
          have hjl := joinC_len a b pf
          have hja : ∀ j, j < a.length → (colAt (joinC a b pf) j).1.size ≤ 16 := fun j hj => by
            rw [joinC_a hj]
            have := (ha8.2.2 j hj).1.1
            unfold nameOK at this; rw [decide_eq_true_eq] at this; exact this.2.1
          have hsh : (∀ j, j < a.length + b.length → (colAt (joinC a b pf) j).1.size ≤ 16) → shortP b pf := fun h j hj => by
            have := h (a.length + j) (by omega)
            rw [joinC_b hj] at this
            exact this
          have hbad : ∀ j, j < a.length + b.length → ¬ (colAt (joinC a b pf) j).1.size ≤ 16 → ¬ shortP b pf := fun j hj h hs => by
            by_cases c : j < a.length
            · exact h (hja j c)
            · obtain ⟨k, rfl⟩ : ∃ k, j = a.length + k := ⟨j - a.length, by omega⟩
              rw [joinC_b (by omega)] at h
              exact h (hs k (by omega))
          have hjsz : (∀ j, j < a.length + b.length → (colAt (joinC a b pf) j).1.size ≤ 16) → ∀ j, (colAt (joinC a b pf) j).1.size ≤ maxLen := fun h j => by
            by_cases c : j < a.length + b.length
            · have := h j c; unfold maxLen; omega
            · have : colAt (joinC a b pf) j = c0 := by unfold colAt; rw [List.getElem?_eq_none (by omega)]; rfl
              rw [this]; exact Nat.zero_le _
          have h8' : (a.length : Int) + (b.length : Int) ≤ 8 := by omega
          have hbb : ∀ j, j < b.length → (colAt b j).1.size ≤ 16 := fun j hj => by
            have := (hb8.2.2 j hj).1.1
            unfold nameOK at this; rw [decide_eq_true_eq] at this; exact this.2.1
          have hrs := fun (hs : ∀ j, (colAt (joinC a b pf) j).1.size ≤ maxLen) p2 c2 h1 h2 W h => refSchema_any p2 (joinC a b pf) c2 h1 (by omega) h2 hs W h
          generalize joinedErr a b pf = er at hlong hfin hval ⊢
          generalize joinedVal a b pf = vl at hlong hval ⊢
          have HV := Lib.hid h1
          have HV2 := Lib.hid h2
          have HV3 := Lib.hid h3
          have HLONG := Lib.hid hlong
          have HFIN := Lib.hid hfin
          have HVAL := Lib.hid hval
          have HJL := Lib.hid hjl
          have HSH := Lib.hid hsh
          have HBAD := Lib.hid hbad
          have HJSZ := Lib.hid hjsz
          have HBB := Lib.hid hbb
          have HRS := Lib.hid hrs
          have HX := Lib.hid hX
          have HY := Lib.hid hY
          have HZ := Lib.hid hz
          clear h1 h2 h3 hX hY qa qb qn hz hlong hfin hval hjl hja hsh hbad hjsz hbb hrs hsa hsb ha8 hb8
          obtain ⟨i0, hi, hz0, hz1, hz2⟩ := info_parts infoC
          go_enter Tryd.func47, Tryd.ntmps47
          go_wp2_with fail
          refine HV.out.mono ?_
          rintro e w1 ⟨rfl, hb1⟩
          go_wp2_with fail
          refine (HV2.out _ hb1).mono ?_
          rintro e w2 ⟨rfl, hb2⟩
          have hb12 := hb1.trans (hb2.mono hb1.size)
          go_wp2_with fail
          refine (HV3.out _).mono ?_
          rintro e w2 ⟨rfl, rfl⟩
          have hB0 : Below w.heap.size w (w2.alloc (.cells #[] 67)) := hb12.alloc hb12.size _
          have hown : (w2.alloc (.cells #[] 67)).ownsRow w.heap.size 67 2 (.slice (some ⟨w2.heap.size, 0, none⟩) 0 0) 0 [] := World.ownsRow_made w2 #[] 0 hb12.size (Nat.zero_le _) rfl
          clear HV HV2 HV3 hb1 hb2
          go_wp2_with (at_builtin; refine wpList_append_cols rfl _ _ rfl w.heap.size _ 0 [] rfl hown p a c rfl (HX.out.belowV hB0) HZ.out (by omega) hB0.size a.length (Nat.zero_add _) (flatC a) rfl ?_; intro v3 w3 hown3 hb3 _; have hB3 := hB0.trans hb3)
          have hown4 : w3.ownsRow w.heap.size 67 2 v3 (a.length + 0) (flatC (joinC a (b.take 0) pf)) := by simpa [joinC] using hown3
          go_loopw [8, 9] (fun o t wr => ∃ k : Nat, t = .int .i64 (k : Int) ∧ k ≤ b.length ∧ wr.ownsRow w.heap.size 67 2 o (a.length + k) (flatC (joinC a (b.take k) pf)) ∧ Below w.heap.size w wr) (fun _ t _ => b.length - (intOf t).toNat)
          case atStart => exact ⟨0, rfl, Nat.zero_le _, hown4, hB3⟩
          case round =>
            clear hown4 hown3 hB3 hb3 hown hB0 hb12
            obtain ⟨k, rfl, hk, hrow, hB⟩ := hrel
            have hBs := hB.size
            by_cases hlt : k < b.length
            · obtain ⟨g, off, rfl, hbl, hra⟩ := HY.out (by omega)
              obtain ⟨k0, k1⟩ := (hra.belowV hB hbl) k hlt
              have hnx := joinC_next (a := a) (pf := pf) hlt
              have hb16 := HBB.out k hlt
              have hi0 : (0 : Int) ≤ (k : Int) := by omega
              have hi1 : (k : Int) < (b.length : Int) := by omega
              clear hra
              unfold preC nameP at hnx
              generalize colAt b k = x at k0 k1 hnx hb16
              obtain ⟨nm, kd⟩ := x
              dsimp only at k0 k1 hnx hb16
              have HNX := Lib.hid hnx
              clear hnx
              have z1 : ¬ 9223372036854775807 < pf.size + 1 := by omega
              have z2 : ¬ 9223372036854775807 < pf.size + 1 + nm.size := by omega
              have z3 : (pf ++ (⟨#[95]⟩ : ByteArray)).size = pf.size + 1 := by rw [ByteArray.size_append]; rfl
              have z4 : ¬ 9223372036854775807 < (pf ++ (⟨#[95]⟩ : ByteArray)).size + nm.size := by omega
              go_wp2_with fail
              go_region_law (refine step_append_lies _ rfl _ _ 23 rfl w.heap.size 67 i0 (.agg #[.string ⟨#[]⟩, .int .i64 0]) 2 24 Tryd.underlying23 hi hz0 hz1 hz2 rfl (by decide) _ _ _ rfl (hrow.alloc _) ⟨wr.heap.size, 0, none⟩ 1 1 (cellsC (pf ++ ⟨#[95]⟩ ++ nm, kd)) rfl rfl (cells_new _ _ _) (by simp [cellsC, Value.oneCell']) (by decide) (by unfold maxLen; omega) (by omega) (by simp <;> omega) (wr.heap.size + 1) (by simp) ?_; intro g' cap' w5 hown' hgrow hor hlt5)
              all_goals
                have hB5 : Below w.heap.size w w5 := by
                  first
                    | exact (hB.drew.alloc hBs _).grown hgrow (by simp <;> omega) (fun k e => (hrow.lt k e).1)
                    | exact (hB.alloc hBs _).grown hgrow (by simp <;> omega) (fun k e => (hrow.lt k e).1)
                go_wp2_with fail
                exact ⟨⟨k + 1, by go_num, by omega, by rw [HNX.out, flatC_app]; simpa [flatC, Nat.add_assoc] using hown', hB5⟩, by simp [intOf]; omega⟩
            · have hge : b.length ≤ k := by omega
              obtain rfl : k = b.length := by omega
              rw [List.take_length] at hrow
              obtain ⟨n3, hn3⟩ : ∃ n3 : Nat, a.length + b.length = n3 := ⟨_, rfl⟩
              have hjl := HJL.out
              rw [hn3] at hrow hjl
              obtain ⟨p3, c3, rfl⟩ := slice_of_owns hrow
              have hcap := owns_cap hrow
              have hown : OwnsC wr w.heap.size (.slice p3 n3 c3) (joinC a b pf) := by unfold OwnsC; rw [hjl]; exact hrow
              have hcols : ColsIn wr p3 (joinC a b pf) := colsIn_of_owns (base := w.heap.size) (c := c3) (by rw [hjl]; exact hown)
              have hsh := HSH.out
              have hbad := HBAD.out
              have hjsz := HJSZ.out
              have hrs := fun hs => HRS.out hs p3 c3 (by rw [hjl]; exact hcap.1) (Nat.le_trans hcap.2 (by decide)) wr hcols
              have hfin := HFIN.out
              have hval := HVAL.out
              rw [hn3] at hsh hbad hjsz
              rw [hjl] at hrs
              have hlong := HLONG.out
              generalize shortP b pf = SP at hsh hbad hfin hlong
              generalize schemaOK (joinC a b pf) = so at hrs hfin
              generalize joinC a b pf = jn at hown hcols hsh hbad hjsz hrs hval hjl
              have hn8 : n3 ≤ 1000 := by omega
              have HSH2 := Lib.hid hsh
              have HBAD2 := Lib.hid hbad
              have HJSZ2 := Lib.hid hjsz
              have HRS2 := Lib.hid hrs
              have HFIN2 := Lib.hid hfin
              have HVAL2 := Lib.hid hval
              have HOWN := Lib.hid hown
              have HCOLS := Lib.hid hcols
              have HLONG2 := Lib.hid hlong
              have HJ := Lib.hid hjl
              clear hrow hown hcols hsh hbad hjsz hrs hfin hval hlong hjl hcap HSH HBAD HJSZ HRS HFIN HVAL HLONG HJL hn3 HX HY HZ HBB hlt hge hk
              go_wp2_with fail
              go_loop [10] (fun t => ∃ i : Nat, t = .int .i64 i ∧ i ≤ n3 ∧ Hid (∀ j, j < i → (colAt jn j).1.size ≤ 16)) (fun t => n3 - (intOf t).toNat)
              case atStart => exact ⟨0, rfl, Nat.zero_le _, fun j h => absurd h (by omega)⟩
              case round =>
                obtain ⟨i, rfl, hi', hv⟩ := hrel
                by_cases hlt : i < n3
                · obtain ⟨g, off, rfl, hbl, hra⟩ := HCOLS.out (by rw [HJ.out]; omega)
                  obtain ⟨k0, _⟩ := hra i (by rw [HJ.out]; omega)
                  have hi0 : (0 : Int) ≤ (i : Int) := by omega
                  have hi1 : (i : Int) < (n3 : Int) := by omega
                  have hnx : (colAt jn i).1.size ≤ 16 → ∀ j, j < i + 1 → (colAt jn j).1.size ≤ 16 := fun h j hj => by
                    by_cases e : j = i
                    · subst e; exact h
                    · exact hv.out j (by omega)
                  have hno := fun h => HLONG2.out (HBAD2.out i hlt h)
                  clear hra hv
                  generalize (colAt jn i).1 = nm at k0 hnx hno
                  by_cases h16 : nm.size ≤ 16
                  · have HN := Lib.hid (hnx h16)
                    have h16' : (nm.size : Int) ≤ 16 := by omega
                    clear hnx hno
                    go_wp2_with fail
                    go_round
                    case rel => exact ⟨i + 1, by go_num, by omega, HN.out⟩
                    case measure => simp [intOf]; omega
                  · have HN := Lib.hid (hno h16)
                    have h16' : 16 < (nm.size : Int) := by omega
                    clear hnx hno
                    go_wp2_with fail
                    go_ret2
                    obtain ⟨rfl, rfl⟩ := HN.out
                    exact ⟨_, rfl, World.ownsRow_nil _ _ _ _, hB⟩
                · have hge : n3 ≤ i := by omega
                  have hall : ∀ j, j < n3 → (colAt jn j).1.size ≤ 16 := fun j hj => hv.out j (by omega)
                  have hcall := HRS2.out (HJSZ2.out hall)
                  have hy := HFIN2.out (HSH2.out hall)
                  have hz := HVAL2.out
                  clear hall hv HJSZ2 HFIN2 HVAL2 HSH2 HBAD2 HRS2 HLONG2 HCOLS
                  cases so with
                  | true =>
                    rw [if_neg (by decide)] at hy
                    subst hy
                    rw [if_pos rfl] at hz
                    have HC := Lib.hid hcall
                    have HZ3 := Lib.hid hz
                    clear hcall hz
                    go_wp2_with fail
                    refine HC.out.mono ?_
                    rintro e w4 ⟨rfl, hb4⟩
                    go_wp2_with fail
                    go_ret2
                    obtain rfl := HZ3.out
                    exact ⟨_, rfl, owns_below HOWN.out hb4, hB.trans (hb4.mono hBs)⟩
                  | false =>
                    rw [if_pos rfl] at hy
                    subst hy
                    rw [if_neg (by decide)] at hz
                    subst hz
                    have HC := Lib.hid hcall
                    clear hcall
                    go_wp2_with fail
                    refine HC.out.mono ?_
                    rintro e w4 ⟨rfl, hb4⟩
                    go_wp2_with fail
                    go_ret2
                    exact ⟨_, rfl, World.ownsRow_nil _ _ _ _, hB.trans (hb4.mono hBs)⟩
end Go.Proofs.YtfkkdoodngldhaaDoor
