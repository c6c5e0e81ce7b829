/-
  PROVED HERE: for every three rows (any values at all) the law RowOrder returns true: CompareValues and Compare of package row answer as the document's own; of two rows one of three holds, and the order is transitive. Its arguments read afterwards as before. The library's tables start as the program's text lays them.
-/
import Derived.Test.YtfkkdoodngldhaaDoorRows
import Derived.Test.YtfkkdoodngldhaaDoorCmpRow
import Derived.Test.YtfkkdoodngldhaaDoorOpenR
import Derived.Test.YtfkkdoodngldhaaDoorDoor
import Derived.Test.YtfkkdoodngldhaaDoorCards
namespace Go.Proofs.YtfkkdoodngldhaaDoor.rowOrder
open Go.ChangeShapes Go.WideShapes Go.ChangeAt Go.RowKit
set_option linter.unusedVariables false

theorem cells3 (w : World) (a b c : Value) (t : TypeId) : Blk (w.alloc (.cells #[a, b, c] t)) w.heap.size t #[a, b, c] := Blk.new _ _ _

set_option maxRecDepth 100000 in
set_option maxHeartbeats 8000000 in
theorem walk (p q s : Option Addr) (xs ys zs : List Val) (c d f : Nat) (hmx : xs.length ≤ 9223372036854775807) (hmy : ys.length ≤ 9223372036854775807) (hmz : zs.length ≤ 9223372036854775807) (w : World) (hX : ValsIn w p xs) (hY : ValsIn w q ys) (hZ : ValsIn w s zs) (hT : Tab w.heap.size w) :
    Calls Tryd.prog 4 #[.slice p xs.length c, .slice q ys.length d, .slice s zs.length f] w fun e w' => e = .returned (.bool true) ∧ Below w.heap.size w w' := by
  have hbA : Below w.heap.size w (w.alloc (.cells #[.slice p xs.length c, .slice q ys.length d, .slice s zs.length f] 25)) := (Below.refl _ _).alloc (Nat.le_refl _) _
  have hlong := Long_any (some ⟨w.heap.size, 0, none⟩) [(p, xs, c), (q, ys, d), (s, zs, f)] 3 (by simp) _ (fun _ => ⟨w.heap.size, 0, rfl, by simp, fun i hi => by
    have hb := Blk.new w 25 #[.slice p xs.length c, .slice q ys.length d, .slice s zs.length f]
    have hi3 : i = 0 ∨ i = 1 ∨ i = 2 := by simp at hi; omega
    rcases hi3 with rfl | rfl | rfl
    · exact ⟨hb.cell 0, hmx, hX.belowV hbA⟩
    · exact ⟨hb.cell 1, hmy, hY.belowV hbA⟩
    · exact ⟨hb.cell 2, hmz, hZ.belowV hbA⟩⟩ : RowsIn (w.alloc (.cells #[.slice p xs.length c, .slice q ys.length d, .slice s zs.length f] 25)) (some ⟨w.heap.size, 0, none⟩) [(p, xs, c), (q, ys, d), (s, zs, f)])
  have HL := Lib.hid hlong
  have HX := Lib.hid hX
  have HY := Lib.hid hY
  have HT := Lib.hid hT
  have h1 := fun W (h : Below w.heap.size w W) => rowCompare_any p q xs ys c d hmx hmy W (hX.belowV h) (hY.belowV h)
  have h2 := fun W (h : Below w.heap.size w W) => rowCompare_any q s ys zs d f hmy hmz W (hY.belowV h) (hZ.belowV h)
  have h3 := fun W (h : Below w.heap.size w W) => rowCompare_any p s xs zs c f hmx hmz W (hX.belowV h) (hZ.belowV h)
  have g1 := fun W (h : Below w.heap.size w W) => refCompare_any p q xs ys c d hmx hmy W (hX.belowV h) (hY.belowV h)
  have g2 := fun W (h : Below w.heap.size w W) => refCompare_any q s ys zs d f hmy hmz W (hY.belowV h) (hZ.belowV h)
  have g3 := fun W (h : Below w.heap.size w W) => refCompare_any p s xs zs c f hmx hmz W (hX.belowV h) (hZ.belowV h)
  have h4 := fun W (h : Below w.heap.size w W) => rowCompare_any q p ys xs d c hmy hmx W (hY.belowV h) (hX.belowV h)
  have h5 := fun W (h : Below w.heap.size w W) => rowCompare_any p p xs xs c c hmx hmx W (hX.belowV h) (hX.belowV h)
  rw [cmpRow_ok.anti xs ys] at h4
  rw [cmpRow_ok.refl xs] at h5
  have r1 := cmpRow_ok.range xs ys
  have r2 := cmpRow_ok.range ys zs
  have r3 := cmpRow_ok.range xs zs
  have ht := cmpRow_ok.trans xs ys zs
  clear hX hY hZ hT hlong
  generalize cmpRow xs ys = ab at h1 g1 h4 r1 ht
  generalize cmpRow ys zs = bc at h2 g2 r2 ht
  generalize cmpRow xs zs = ac at h3 g3 r3 ht
  have H1 := Lib.hid h1
  have H2 := Lib.hid h2
  have H3 := Lib.hid h3
  have H4 := Lib.hid h4
  have H5 := Lib.hid h5
  have G1 := Lib.hid g1
  have G2 := Lib.hid g2
  have G3 := Lib.hid g3
  have HR := Lib.hid (And.intro r1 (And.intro r2 (And.intro r3 ht)))
  clear h1 h2 h3 h4 h5 g1 g2 g3 r1 r2 r3 ht
  go_enter Tryd.func4, Tryd.ntmps4
  go_wp2_with fail
  refine HL.out.mono ?_
  rintro e w1 ⟨b, rfl, rfl⟩
  cases b with
  | true =>
    go_wp2_with fail
    refine (awake_any _ (HT.out.up hbA hbA.size)).mono ?_
    rintro e w2 ⟨rfl, hb2⟩
    go_wp2_with fail
    go_ret
    exact ⟨rfl, hbA.trans (hb2.mono hbA.size)⟩
  | false =>
    obtain ⟨W0, hW0⟩ : ∃ W0, w.alloc (.cells #[.slice p xs.length c, .slice q ys.length d, .slice s zs.length f] 25) = W0 := ⟨_, rfl⟩
    rw [hW0] at hbA ⊢
    clear hW0 HL
    go_wp2_with fail
    go_loopw [7] (fun t wr => ∃ i : Nat, t = .int .i64 i ∧ i ≤ xs.length ∧ i ≤ ys.length ∧ Below w.heap.size w wr) (fun t _ => xs.length - (intOf t).toNat)
    case atStart => exact ⟨0, rfl, Nat.zero_le _, Nat.zero_le _, hbA⟩
    case round =>
      obtain ⟨i, rfl, hi, hj, hB⟩ := hrel
      by_cases hboth : i < xs.length ∧ i < ys.length
      · obtain ⟨hlt, hly⟩ := hboth
        obtain ⟨b, off, rfl, hbl, hra⟩ := HX.out (by omega)
        obtain ⟨b2, off2, rfl, hbl2, hra2⟩ := HY.out (by omega)
        obtain ⟨c0, c1, c2⟩ := (hra.belowV hB hbl) i hlt
        obtain ⟨d0, d1, d2⟩ := (hra2.belowV hB hbl2) i hly
        have hi0 : (0 : Int) ≤ (i : Int) := by omega
        have hi1 : (i : Int) < (xs.length : Int) := by omega
        have hi2 : (i : Int) < (ys.length : Int) := by omega
        have hbr : b < wr.heap.size := Nat.lt_of_lt_of_le hbl hB.size
        have hbr2 : b2 < wr.heap.size := Nat.lt_of_lt_of_le hbl2 hB.size
        clear hra hra2
        generalize (xs[i]?.getD v0) = x at c0 c1 c2
        generalize (ys[i]?.getD v0) = y at d0 d1 d2
        obtain ⟨x0, x1, x2⟩ := x
        obtain ⟨y0, y1, y2⟩ := y
        dsimp only at c0 c1 c2 d0 d1 d2
        have HC1 := Lib.hid fun W => rowCmpVal_any x0 x1 y0 y1 x2 y2 W
        have HC2 := Lib.hid fun W => refCmpVal_any x0 x1 y0 y1 x2 y2 W
        generalize cmpVal (x0, x1, x2) (y0, y1, y2) = v at HC1 HC2
        have hS : ∀ w' : World, Below wr.heap.size wr w' → (Below wr.heap.size wr w' ∧ w'.cell? ⟨b, off + i * 3, none⟩ = some (.int .i64 x0) ∧ w'.cell? ⟨b, off + i * 3 + 1, none⟩ = some (.int .i64 x1) ∧ w'.cell? ⟨b, off + i * 3 + 2, none⟩ = some (.string x2) ∧ w'.cell? ⟨b2, off2 + i * 3, none⟩ = some (.int .i64 y0) ∧ w'.cell? ⟨b2, off2 + i * 3 + 1, none⟩ = some (.int .i64 y1) ∧ w'.cell? ⟨b2, off2 + i * 3 + 2, none⟩ = some (.string y2)) := fun w' hb =>
          ⟨hb, (hb.cell (p := ⟨b, off + i * 3, none⟩) hbr).trans c0, (hb.cell (p := ⟨b, off + i * 3 + 1, none⟩) hbr).trans c1, (hb.cell (p := ⟨b, off + i * 3 + 2, none⟩) hbr).trans c2, (hb.cell (p := ⟨b2, off2 + i * 3, none⟩) hbr2).trans d0, (hb.cell (p := ⟨b2, off2 + i * 3 + 1, none⟩) hbr2).trans d1, (hb.cell (p := ⟨b2, off2 + i * 3 + 2, none⟩) hbr2).trans d2⟩
        have keepS : ∀ (u v : World), Below wr.heap.size wr u → Below u.heap.size u v → Below wr.heap.size wr v := fun u v h1 h2 => h1.trans (h2.mono h1.size)
        have HS := Lib.hid hS
        have HK := Lib.hid keepS
        have hWr : Below wr.heap.size wr wr := Below.refl _ _
        clear hS keepS c0 c1 c2 d0 d1 d2
        go_wp2_with fail
        go_region_held3 (fun w' => Below wr.heap.size wr w' ∧ w'.cell? ⟨b, off + i * 3, none⟩ = some (.int .i64 x0) ∧ w'.cell? ⟨b, off + i * 3 + 1, none⟩ = some (.int .i64 x1) ∧ w'.cell? ⟨b, off + i * 3 + 2, none⟩ = some (.string x2) ∧ w'.cell? ⟨b2, off2 + i * 3, none⟩ = some (.int .i64 y0) ∧ w'.cell? ⟨b2, off2 + i * 3 + 1, none⟩ = some (.int .i64 y1) ∧ w'.cell? ⟨b2, off2 + i * 3 + 2, none⟩ = some (.string y2)) (first | exact HS.out _ (HK.out _ _ (by assumption) (by assumption)) | exact HS.out _ (HK.out _ _ (And.left (by assumption)) (by assumption)) | exact HS.out _ (Below.drew (by assumption)) | exact HS.out _ (Below.drew (And.left (by assumption))) | assumption)
          (first
            | (go_at_call 25; refine (HC1.out _).mono ?_; rintro e w' ⟨rfl, hb⟩)
            | (go_at_call 26; refine (HC2.out _).mono ?_; rintro e w' ⟨rfl, hb⟩))
        have hBv : Below wr.heap.size wr w' := And.left (by assumption)
        clear HS HK
        go_wp2_with fail
        go_roundw
        case rel => exact ⟨i + 1, by go_num, by omega, by omega, hB.trans (hBv.mono hB.size)⟩
        case measure => simp [intOf]; omega
      · have hab1 : -1 ≤ ab := by have := HR.out.1; omega
        have hab2 : ab ≤ 1 := by have := HR.out.1; omega
        by_cases hxi : i < xs.length
        · have hi1 : (i : Int) < (xs.length : Int) := by omega
          have hyi : (ys.length : Int) ≤ (i : Int) := by omega
          have hdy : decide ((i : Int) < (ys.length : Int)) = false := by simp; omega
          clear hboth
          go_wp2_with fail
          refine (H1.out _ hB).mono ?_
          rintro e u1 ⟨rfl, kk⟩
          have B1 : Below w.heap.size w u1 := hB.trans (kk.mono hB.size)
          clear kk
          go_wp2_with fail
          refine (H2.out _ B1).mono ?_
          rintro e u2 ⟨rfl, kk⟩
          have B2 : Below w.heap.size w u2 := B1.trans (kk.mono B1.size)
          clear kk
          go_wp2_with fail
          refine (H3.out _ B2).mono ?_
          rintro e u3 ⟨rfl, kk⟩
          have B3 : Below w.heap.size w u3 := B2.trans (kk.mono B2.size)
          clear kk
          go_wp2_with fail
          refine (G1.out _ B3).mono ?_
          rintro e u4 ⟨rfl, kk⟩
          have B4 : Below w.heap.size w u4 := B3.trans (kk.mono B3.size)
          clear kk
          go_wp2_with fail
          refine (G2.out _ B4).mono ?_
          rintro e u5 ⟨rfl, kk⟩
          have B5 : Below w.heap.size w u5 := B4.trans (kk.mono B4.size)
          clear kk
          go_wp2_with fail
          refine (G3.out _ B5).mono ?_
          rintro e u6 ⟨rfl, kk⟩
          have B6 : Below w.heap.size w u6 := B5.trans (kk.mono B5.size)
          clear kk
          go_wp2_with fail
          refine (H4.out _ B6).mono ?_
          rintro e u7 ⟨rfl, kk⟩
          have B7 : Below w.heap.size w u7 := B6.trans (kk.mono B6.size)
          clear kk
          go_wp2_with fail
          refine (H5.out _ B7).mono ?_
          rintro e u8 ⟨rfl, kk⟩
          have B8 : Below w.heap.size w u8 := B7.trans (kk.mono B7.size)
          clear kk
          obtain ⟨r1, r2, r3, ht⟩ := HR.out
          by_cases q1 : ab ≤ 0
          · by_cases q2 : bc ≤ 0
            · obtain ⟨t1, t2⟩ := ht q1 q2
              have f1 : decide (0 < ac) = false := by simp; omega
              by_cases q3 : ac = 0
              · obtain ⟨e1, e2⟩ := t2 q3
                clear r1 r2 r3 ht t1 t2 q1 q2
                subst e1 e2 q3
                go_wp2_with fail
                refine (awake_any _ (HT.out.up B8 B8.size)).mono ?_
                rintro e u9 ⟨rfl, k9⟩
                go_wp2_with fail
                go_ret
                exact ⟨rfl, B8.trans (k9.mono B8.size)⟩
              · have f2 : (ac == 0) = false := by rw [beq_eq_false_iff_ne]; exact q3
                clear r1 r2 r3 ht t2 q3
                go_wp2_with fail
                refine (awake_any _ (HT.out.up B8 B8.size)).mono ?_
                rintro e u9 ⟨rfl, k9⟩
                go_wp2_with fail
                go_ret
                exact ⟨rfl, B8.trans (k9.mono B8.size)⟩
            · have f1 : decide (bc ≤ 0) = false := by simpa using q2
              clear r1 r2 r3 ht q2
              go_wp2_with fail
              refine (awake_any _ (HT.out.up B8 B8.size)).mono ?_
              rintro e u9 ⟨rfl, k9⟩
              go_wp2_with fail
              go_ret
              exact ⟨rfl, B8.trans (k9.mono B8.size)⟩
          · have f1 : decide (ab ≤ 0) = false := by simpa using q1
            clear r1 r2 r3 ht q1
            go_wp2_with fail
            refine (awake_any _ (HT.out.up B8 B8.size)).mono ?_
            rintro e u9 ⟨rfl, k9⟩
            go_wp2_with fail
            go_ret
            exact ⟨rfl, B8.trans (k9.mono B8.size)⟩
        · have hxi' : (xs.length : Int) ≤ (i : Int) := by omega
          have hdx : decide ((i : Int) < (xs.length : Int)) = false := by simp; omega
          clear hboth
          go_wp2_with fail
          refine (H1.out _ hB).mono ?_
          rintro e u1 ⟨rfl, kk⟩
          have B1 : Below w.heap.size w u1 := hB.trans (kk.mono hB.size)
          clear kk
          go_wp2_with fail
          refine (H2.out _ B1).mono ?_
          rintro e u2 ⟨rfl, kk⟩
          have B2 : Below w.heap.size w u2 := B1.trans (kk.mono B1.size)
          clear kk
          go_wp2_with fail
          refine (H3.out _ B2).mono ?_
          rintro e u3 ⟨rfl, kk⟩
          have B3 : Below w.heap.size w u3 := B2.trans (kk.mono B2.size)
          clear kk
          go_wp2_with fail
          refine (G1.out _ B3).mono ?_
          rintro e u4 ⟨rfl, kk⟩
          have B4 : Below w.heap.size w u4 := B3.trans (kk.mono B3.size)
          clear kk
          go_wp2_with fail
          refine (G2.out _ B4).mono ?_
          rintro e u5 ⟨rfl, kk⟩
          have B5 : Below w.heap.size w u5 := B4.trans (kk.mono B4.size)
          clear kk
          go_wp2_with fail
          refine (G3.out _ B5).mono ?_
          rintro e u6 ⟨rfl, kk⟩
          have B6 : Below w.heap.size w u6 := B5.trans (kk.mono B5.size)
          clear kk
          go_wp2_with fail
          refine (H4.out _ B6).mono ?_
          rintro e u7 ⟨rfl, kk⟩
          have B7 : Below w.heap.size w u7 := B6.trans (kk.mono B6.size)
          clear kk
          go_wp2_with fail
          refine (H5.out _ B7).mono ?_
          rintro e u8 ⟨rfl, kk⟩
          have B8 : Below w.heap.size w u8 := B7.trans (kk.mono B7.size)
          clear kk
          obtain ⟨r1, r2, r3, ht⟩ := HR.out
          by_cases q1 : ab ≤ 0
          · by_cases q2 : bc ≤ 0
            · obtain ⟨t1, t2⟩ := ht q1 q2
              have f1 : decide (0 < ac) = false := by simp; omega
              by_cases q3 : ac = 0
              · obtain ⟨e1, e2⟩ := t2 q3
                clear r1 r2 r3 ht t1 t2 q1 q2
                subst e1 e2 q3
                go_wp2_with fail
                refine (awake_any _ (HT.out.up B8 B8.size)).mono ?_
                rintro e u9 ⟨rfl, k9⟩
                go_wp2_with fail
                go_ret
                exact ⟨rfl, B8.trans (k9.mono B8.size)⟩
              · have f2 : (ac == 0) = false := by rw [beq_eq_false_iff_ne]; exact q3
                clear r1 r2 r3 ht t2 q3
                go_wp2_with fail
                refine (awake_any _ (HT.out.up B8 B8.size)).mono ?_
                rintro e u9 ⟨rfl, k9⟩
                go_wp2_with fail
                go_ret
                exact ⟨rfl, B8.trans (k9.mono B8.size)⟩
            · have f1 : decide (bc ≤ 0) = false := by simpa using q2
              clear r1 r2 r3 ht q2
              go_wp2_with fail
              refine (awake_any _ (HT.out.up B8 B8.size)).mono ?_
              rintro e u9 ⟨rfl, k9⟩
              go_wp2_with fail
              go_ret
              exact ⟨rfl, B8.trans (k9.mono B8.size)⟩
          · have f1 : decide (ab ≤ 0) = false := by simpa using q1
            clear r1 r2 r3 ht q1
            go_wp2_with fail
            refine (awake_any _ (HT.out.up B8 B8.size)).mono ?_
            rintro e u9 ⟨rfl, k9⟩
            go_wp2_with fail
            go_ret
            exact ⟨rfl, B8.trans (k9.mono B8.size)⟩

set_option maxRecDepth 100000 in
theorem lifted (os : Os) (started : os.Started) (H : Type) (enc : TypeId × Value → H) :
    ReturnsInHanded {} Tryd.checked os 4 .any (fun w args => (Rows.rowOrderSpec.pre enc Tryd.prog Tryd.f4 [] false w args ∧ laidMetH Tryd.prog laid3 w) ∧ sizedMet enc Tryd.prog Tryd.f4 (OpenSpec.ofChange Rows.rowOrderSpec) false w args)
      (Rows.rowOrderSpec.post enc Tryd.prog Tryd.f4 false true false false) := by
  refine returnsInHanded_of_change_and (C := Tryd.checked) (X := fun w _ => laidMetH Tryd.prog laid3 w) (fun _ _ _ hh h => h.of_heap hh) own started (by kernel_rfl) Tryd.func4
    (ChangeSpec.witness_shaped (enc := enc) (C := Tryd.checked) (os := os) (X := fun w _ => laidMetH Tryd.prog laid3 w) false (World.doorLaid Tryd.prog 4000 os) #[.slice none 0 0, .slice none 0 0, .slice none 0 0] 8 rfl (World.shaped_of_RefB (by kernel_rfl) (by kernel_rfl)) (by kernel_rfl) (by kernel_rfl) (by kernel_rfl) (door_met os _)) ?_
  intro W base args ds gs before hval0 hW _ _ hL _
  have hval : ∀ (j : Nat) t v, Tryd.f4.params[j]? = some t → args[j]? = some v → Value.okWide Tryd.prog W .any base t v := hval0
  have hW' := hW
  obtain ⟨p, q, hA0, hV, rfl, hfz, hnd⟩ := hW
  have hA : DataW.TrodAll enc Tryd.prog W 0 (fun _ => true) true Tryd.f4.params.toList args.toList ds p := hA0
  rw [Tryd.params4] at hA hval
  obtain ⟨rfl, rfl⟩ := trodVars_none hV
  have hA' := hA
  obtain ⟨v0, vs0, d0, ds0, p0, q0, hargs, rfl, rfl, h0, r0⟩ := trodAll_cons hA
  obtain ⟨v1, vs1, d1, ds1, p1, q1, rfl, rfl, rfl, h1, r1⟩ := trodAll_cons r0
  obtain ⟨v2, vs2, d2, ds2, p2, q2, rfl, rfl, rfl, h2, r2⟩ := trodAll_cons r1
  obtain ⟨rfl, rfl, rfl⟩ := trodAll_nil r2
  obtain rfl : args = #[v0, v1, v2] := by cases args; simp_all
  obtain ⟨⟨a0, xs, c0⟩, rfl, hx, _⟩ := open_row (hval 0 _ v0 rfl rfl) h0
  obtain ⟨⟨a1, ys, c1⟩, rfl, hy, _⟩ := open_row (hval 1 _ v1 rfl rfl) h1
  obtain ⟨⟨a2, zs, c2⟩, rfl, hz, _⟩ := open_row (hval 2 _ v2 rfl rfl) h2
  clear hA0 hval0
  refine (walk a0 a1 a2 xs ys zs c0 c1 c2 hx.1 hy.1 hz.1 W hx.2 hy.2 hz.2 (tab_of_laid hL)).mono fun e W' ⟨he, hg⟩ => ?_
  subst he
  exact ⟨_, rfl, _, _, _, [], _, [], hW', trodAll_mk1 (shut_bool Tryd.underlying4 true), trodAll_below laidOut hg (by decide +kernel) hA' (fun x hx => by simpa using hW'.lt x (by simpa using hx)), rfl, hg.frame _, fun h => by cases h⟩

theorem over : Rows.RowOrderSaid :=
  OpenClaim.holds_of_wide 4 Tryd.f4 rfl rfl rfl rfl rfl rfl rfl ⟨rfl, rfl, rfl, rfl, rfl⟩ rfl rfl rfl rfl rfl (by kernel_rfl) Tryd.func4 (by kernel_rfl)
    (of_decide_eq_true (by kernel_rfl)) (by unfold Func.isWrapper; first | (rw [if_pos (by decide +kernel)]; kernel_rfl) | (rw [if_neg (by decide +kernel)]; exact ⟨rfl, rfl⟩))
    (fun os started H enc _ => lifted os started H enc)

theorem proved : Rows.RowOrderCardSaid :=
  Claim7.holds_tied_plain_at .later [] [.data, .data, .data] true (true, "7b0b4818b4bde6f5088541445430b425fe6bc8046a3fc79eba7008d2102f2ce4") true
    over (fun _ h => by cases h) (by kernel_rfl) (fun _ h => by cases h) rowOrder_row_tie rfl ⟨rfl, rfl⟩ (by kernel_rfl) rfl
    (fun f fn hf hfn => by
      obtain rfl : f = 4 := Option.some.inj ((show Tryd.prog.funcNamed "tidewright/tidewrightlaw02.RowOrder" = some 4 by kernel_rfl).symm.trans hf) |>.symm
      obtain rfl : fn = Tryd.f4 := (Option.some.inj (Tryd.func4.symm.trans hfn)).symm
      exact ⟨by kernel_rfl, fun j t ht => by
        rw [Tryd.params4] at ht
        have hm : t ∈ [25, 25, 25] := by simpa using Array.mem_of_getElem? ht
        have hall : ([25, 25, 25].all fun u => !Tryd.prog.wantsStandIn u) = true := by kernel_rfl
        exact (show Tryd.prog.wantsStandIn t = false by simpa using List.all_eq_true.1 hall t hm)⟩)
    (by kernel_rfl)
end Go.Proofs.YtfkkdoodngldhaaDoor.rowOrder
