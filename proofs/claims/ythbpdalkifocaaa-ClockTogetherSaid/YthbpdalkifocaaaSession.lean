/-
  Both functions that tell the session of a time, under one contract.
-/
import Derived.Test.YthbpdalkifocaaaSessZ
import Derived.Test.YthbpdalkifocaaaTogMath
namespace Go.Proofs.Ythbpdalkifocaaa
open Go.RowKit

/-- What is told of a time: a window and an error. -/
def IsSess (g : Int) (ts : List Int) (t a b er : Int) : Prop :=
  (sessErr g ts ≠ 0 ∧ a = 0 ∧ b = 0 ∧ er = sessErr g ts) ∨ (sessErr g ts = 0 ∧ ((¬ inTime t ∧ a = 0 ∧ b = 0 ∧ er = 7) ∨
    (inTime t ∧ ∃ ys, Sep ys ∧ (∀ p, cov ys p ↔ cov (sessW g ts) p) ∧ ((er = 0 ∧ (a, b) ∈ ys ∧ a ≤ t ∧ t < b) ∨ (er = 8 ∧ a = 0 ∧ b = 0 ∧ ∀ r ∈ ys, ¬ (r.1 ≤ t ∧ t < r.2))))))
theorem IsSess.unique {g t a b er a' b' er' : Int} {ts : List Int} (h : IsSess g ts t a b er) (h' : IsSess g ts t a' b' er') : a = a' ∧ b = b' ∧ er = er' := by
  rcases h with ⟨h0, h1, h2, h3⟩ | ⟨h0, h⟩
  · rcases h' with ⟨_, g1, g2, g3⟩ | ⟨g0, _⟩
    · exact ⟨by omega, by omega, by omega⟩
    · exact absurd g0 h0
  · rcases h' with ⟨g0, _⟩ | ⟨_, h'⟩
    · exact absurd h0 g0
    · rcases h with ⟨i0, h1, h2, h3⟩ | ⟨i0, ys, s1, c1, h⟩
      · rcases h' with ⟨_, g1, g2, g3⟩ | ⟨j0, _⟩
        · exact ⟨by omega, by omega, by omega⟩
        · exact absurd j0 i0
      · rcases h' with ⟨j0, _⟩ | ⟨_, zs, s2, c2, h'⟩
        · exact absurd i0 j0
        · obtain rfl : ys = zs := Sep.unique s1 s2 fun p => (c1 p).trans (c2 p).symm
          rcases h with ⟨e1, m1, l1, u1⟩ | ⟨e1, a1, b1, n1⟩
          · rcases h' with ⟨e2, m2, l2, u2⟩ | ⟨_, _, _, n2⟩
            · have := s1.one m1 m2 l1 u1 l2 u2
              simp only [Prod.mk.injEq] at this
              exact ⟨this.1, this.2, by omega⟩
            · exact absurd ⟨l1, u1⟩ (n2 _ m1)
          · rcases h' with ⟨e2, m2, l2, u2⟩ | ⟨e2, a2, b2, _⟩
            · exact absurd ⟨l2, u2⟩ (n1 _ m2)
            · exact ⟨by omega, by omega, by omega⟩

def SessionPost (w : World) (g : Int) (ts : List Int) (t : Int) (e : Ending) (w' : World) : Prop :=
  ∃ a b er : Int, e = .returned (.tuple #[.agg #[.int .i64 a, .int .i64 b], .int .i64 er]) ∧ IsSess g ts t a b er ∧ Below w.heap.size w w'

theorem winsIn_of_owns {W : World} {base c : Nat} {p : Option Addr} {ys : List Win} (h : W.ownsRow base 31 2 (.slice p ys.length c) ys.length (flatW ys)) : WinsIn W p ys := fun hp => by
  have hR := rowIs_of_owns h
  rcases hR.2 with ⟨_, h0⟩ | ⟨b, off, cp, he, hra⟩
  · subst h0; simp at hp
  · simp only [Value.slice.injEq] at he
    obtain ⟨rfl, _, _⟩ := he
    exact ⟨b, off, rfl, World.block_lt_of_cell? W _ (hra 0 hp).1, hra⟩
theorem contains_b (a b t : Int) (w : World) : Calls Try.prog 29 #[.agg #[.int .i64 a, .int .i64 b], .int .i64 t] w fun e w' => e = .returned (.bool (inWin a b t)) ∧ Below w.heap.size w w' :=
  (clkContains_any a b t w).mono fun _ _ ⟨h1, h2⟩ => ⟨h1, by rw [h2]; exact ((Below.refl _ _).alloc (Nat.le_refl _) _).alloc (by simp) _⟩
theorem Blk.belowV {n₀ B : Nat} {W W' : World} {t : TypeId} {cs : Array Value} (h : Blk W B t cs) (hb : Below n₀ W W') (hB : B < n₀) : Blk W' B t cs := (hb.block B hB).trans h
/-- No window ahead of i holds the time. -/
def NoneYet (ys : List Win) (t : Int) (i : Nat) : Prop := ∀ j, j < i → ¬ ((ys[j]?.getD (0, 0)).1 ≤ t ∧ t < (ys[j]?.getD (0, 0)).2)
theorem NoneYet.next {ys : List Win} {t : Int} {i : Nat} (h : NoneYet ys t i) (hn : ¬ ((ys[i]?.getD (0, 0)).1 ≤ t ∧ t < (ys[i]?.getD (0, 0)).2)) : NoneYet ys t (i + 1) := fun j hj => by
  by_cases e : j = i
  · subst e; exact hn
  · exact h j (by omega)
theorem NoneYet.all {ys : List Win} {t : Int} (h : NoneYet ys t ys.length) : ∀ r ∈ ys, ¬ (r.1 ≤ t ∧ t < r.2) := fun r hr => by
  obtain ⟨j, hj, rfl⟩ := List.mem_iff_getElem.1 hr
  have := h j hj
  simpa [List.getElem?_eq_getElem hj] using this
theorem inWin_of {ys : List Win} (hs : Sep ys) {i : Nat} (hi : i < ys.length) {t : Int} (ht : inTime t) : inWin (ys[i]?.getD (0, 0)).1 (ys[i]?.getD (0, 0)).2 t = decide ((ys[i]?.getD (0, 0)).1 ≤ t ∧ t < (ys[i]?.getD (0, 0)).2) := by
  have hm : ys[i]?.getD (0, 0) ∈ ys := by simp [List.getElem?_eq_getElem hi]
  have hok := hs.1 _ hm
  generalize ys[i]?.getD (0, 0) = x at hok
  unfold inWin okW inTime at *
  simp only [decide_eq_decide]
  constructor
  · rintro ⟨_, _, h⟩; exact h
  · intro h; exact ⟨hok, ht, h⟩

set_option maxRecDepth 100000 in
set_option maxHeartbeats 400000 in
theorem clkSession_any (g : Int) (p : Option Addr) (cap : Nat) (ts : List Int) (t : Int) (w : World) (hX : IntsIn w p ts) :
    Calls Try.prog 14 #[.int .i64 g, .slice p ts.length cap, .int .i64 t] w (SessionPost w g ts t) := by
  have hB0 : Below w.heap.size w (w.alloc (.cells #[.int .i64 0, .int .i64 0] 31)) := (Below.refl _ _).alloc (Nat.le_refl _) _
  have hX0 := hX.belowV hB0
  have hc := checkSessions_any g p cap ts _ hX0
  by_cases h : sessErr g ts = 0
  · by_cases ht : inTime t
    · have hv := fun W => clkValid_any t W
      rw [inR_yes ht] at hv
      have hmg := mergedTimes g p cap ts h _ hX0
      have hz0 : (w.alloc (.cells #[.int .i64 0, .int .i64 0] 31)).heap.size = w.heap.size + 1 := by simp
      rw [hz0] at hmg
      rw [h] at hc
      have HC := Lib.hid hc
      have HM := Lib.hid hmg
      have HV := Lib.hid hv
      have HH := Lib.hid h
      have HT := Lib.hid ht
      clear hc hmg h hX ht hv hX0 hB0 hz0
      go_enter Try.func14, Try.ntmps14
      go_wp2_with (first
        | (go_at_call 24; refine HC.out.mono ?_; rintro e w' ⟨rfl, rfl⟩)
        | (go_at_call 28; refine (HV.out _).mono ?_; rintro e w' ⟨rfl, rfl⟩)
        | (go_at_call 25; refine (sessionsOf_any _ _ _ _ _).mono ?_; rintro e w2 ⟨rfl, rfl⟩)
        | (go_at_call 20; refine HM.out.mono ?_; rintro e w3 ⟨v, ys, rfl, h1, h2, h3, hrow, hB3⟩; obtain ⟨p1, c1, rfl⟩ := slice_of_owns hrow))
      have hrz : w.heap.size + 1 ≤ w3.heap.size := by have := hB3.size; simpa using this
      have hBw : Below w.heap.size w w3 := ((Below.refl _ _).alloc (Nat.le_refl _) _).trans (hB3.mono (by simp))
      have hC0 : Blk w3 w.heap.size 31 #[.int .i64 0, .int .i64 0] := (hB3.block w.heap.size (by simp)).trans (Blk.new _ _ _)
      have HA := Lib.hid (winsIn_of_owns hrow)
      have HS := Lib.hid h1
      have HCv := Lib.hid h2
      have HC0 := Lib.hid hC0
      have hyl : ys.length ≤ 9223372036854775807 := (rowIs_of_owns hrow).1
      clear hrow h1 h2 h3 hB3 hC0
      go_loopw [27] (fun s wr => ∃ i : Nat, s = .int .i64 i ∧ i ≤ ys.length ∧ Hid (NoneYet ys t i) ∧ Below w3.heap.size w3 wr) (fun s _ => ys.length - (intOf s).toNat)
      case atStart => exact ⟨0, rfl, Nat.zero_le _, fun j hj => by omega, Below.refl _ _⟩
      case round =>
        obtain ⟨i, rfl, hi, hny, hB⟩ := hrel
        by_cases hlt : i < ys.length
        · obtain ⟨gb, go, rfl, hgl, hga⟩ := HA.out (by omega)
          obtain ⟨cy0, cy1⟩ := hga i hlt
          have hin := inWin_of HS.out hlt HT.out
          have hmem : ys[i]?.getD (0, 0) ∈ ys := by simp [List.getElem?_eq_getElem hlt]
          have HN := Lib.hid (hny.out.next)
          have hi0 : (0 : Int) ≤ (i : Int) := by omega
          have hi1 : (i : Int) < (ys.length : Int) := by omega
          generalize (ys[i]?.getD (0, 0)) = y at hin hmem HN cy0 cy1
          obtain ⟨y0, y1⟩ := y
          dsimp only at hin hmem HN cy0 cy1
          have d0 := (hB.cell (p := ⟨gb, go + i * 2, none⟩) hgl).trans cy0
          have d1 := (hB.cell (p := ⟨gb, go + i * 2 + 1, none⟩) hgl).trans cy1
          have hBs := hB.size
          have hCr := HC0.out.belowV hB (by omega)
          have hCr1 : Blk (wr.alloc (.cells #[.int .i64 y0, .int .i64 y1] 31)) w.heap.size 31 #[.int .i64 0, .int .i64 0] := hCr.belowV ((Below.refl wr.heap.size wr).alloc (Nat.le_refl _) _) (by omega)
          have hCr2 : Blk (wr.alloc (.cells #[.int .i64 y0, .int .i64 y1] 31)) wr.heap.size 31 #[.int .i64 y0, .int .i64 y1] := Blk.new _ _ _
          have hBr : Below w3.heap.size w3 (wr.alloc (.cells #[.int .i64 y0, .int .i64 y1] 31)) := hB.alloc hBs _
          have hcon := fun W => contains_b y0 y1 t W
          rw [hin] at hcon
          have HCON := Lib.hid hcon
          have HM2 := Lib.hid hmem
          have HCr1 := Lib.hid hCr1
          have HCr2 := Lib.hid hCr2
          clear hcon hmem cy0 cy1 hga hCr1 hCr2 hCr hin
          by_cases hq : y0 ≤ t ∧ t < y1
          · have HD := Lib.hid (decide_eq_true hq)
            rw [HD.out] at HCON
            have HQ := Lib.hid hq
            clear hq HD
            go_wp2_with fail
            refine (HCON.out _).mono ?_
            rintro e w' ⟨rfl, hb⟩
            have hz1 : (wr.alloc (.cells #[.int .i64 y0, .int .i64 y1] 31)).heap.size = wr.heap.size + 1 := by simp
            have k1 := HCr1.out.belowV hb (by omega)
            have k2 := HCr2.out.belowV hb (by omega)
            have hbt := hBw.trans ((hBr.trans (hb.mono hBr.size)).mono hBw.size)
            have c0 := k1.cell 0
            have c1' := k1.cell 1
            have f0 := k1.frozen 0
            have f1 := k1.frozen 1
            have e0 := k2.cell 0
            have e1 := k2.cell 1
            have hne : w.heap.size ≠ wr.heap.size := by omega
            have K1 := Lib.hid k1
            clear hz1 hb k1 k2
            simp only [List.getElem?_toArray, List.getElem?_cons_zero, List.getElem?_cons_succ] at c0 c1' e0 e1
            go_wp2_with fail
            have kk := (K1.out.set0 (.int .i64 y0)).set1 (.int .i64 y1)
            have r0 := kk.cell 0
            have r1 := kk.cell 1
            exact bodyPost_ret (v := .tuple #[.agg #[.int .i64 y0, .int .i64 y1], .int .i64 0]) (by simp [results, Try.results14, go_sem, r0, r1]) rfl
              ⟨y0, y1, 0, rfl, .inr ⟨HH.out, .inr ⟨HT.out, ys, HS.out, HCv.out, .inl ⟨rfl, HM2.out, HQ.out.1, HQ.out.2⟩⟩⟩, (hbt.setCell (Nat.le_refl _) _).setCell (Nat.le_refl _) _⟩
          · have HD := Lib.hid (decide_eq_false hq)
            rw [HD.out] at HCON
            have HQ := Lib.hid hq
            clear hq HD
            go_wp2_with fail
            refine (HCON.out _).mono ?_
            rintro e w' ⟨rfl, hb⟩
            go_wp2_with fail
            go_roundw
            case rel => exact ⟨i + 1, by go_num, by omega, HN.out HQ.out, hBr.trans (hb.mono hBr.size)⟩
            case measure => simp [intOf]; omega
        · have hge : ys.length ≤ i := by omega
          have hie : i = ys.length := by omega
          have HNA := Lib.hid (NoneYet.all (ys := ys) (t := t) (by have := hny.out; rw [hie] at this; exact this))
          have k1 := HC0.out.belowV hB (by omega)
          have c0 := k1.cell 0
          have c1' := k1.cell 1
          have f0 := k1.frozen 0
          have f1 := k1.frozen 1
          simp only [List.getElem?_toArray, List.getElem?_cons_zero, List.getElem?_cons_succ] at c0 c1'
          have hbt := hBw.trans (hB.mono hBw.size)
          have K1 := Lib.hid k1
          clear k1 hie hny
          go_wp2_with fail
          have kk := (K1.out.set0 (.int .i64 0)).set1 (.int .i64 0)
          have r0 := kk.cell 0
          have r1 := kk.cell 1
          exact bodyPost_ret (v := .tuple #[.agg #[.int .i64 0, .int .i64 0], .int .i64 8]) (by simp [results, Try.results14, go_sem, r0, r1]) rfl
            ⟨0, 0, 8, rfl, .inr ⟨HH.out, .inr ⟨HT.out, ys, HS.out, HCv.out, .inr ⟨rfl, rfl, rfl, HNA.out⟩⟩⟩, (hbt.setCell (Nat.le_refl _) _).setCell (Nat.le_refl _) _⟩
    · have hv := fun W => clkValid_any t W
      rw [inR_no ht] at hv
      rw [h] at hc
      have HC := Lib.hid hc
      have HV := Lib.hid hv
      have HH := Lib.hid h
      have HT := Lib.hid ht
      clear hc h hX ht hv hX0
      go_enter Try.func14, Try.ntmps14
      go_wp2_with (first
        | (go_at_call 24; refine HC.out.mono ?_; rintro e w' ⟨rfl, rfl⟩)
        | (go_at_call 28; refine (HV.out _).mono ?_; rintro e w' ⟨rfl, rfl⟩))
      exact bodyPost_ret (v := .tuple #[.agg #[.int .i64 0, .int .i64 0], .int .i64 7]) (by simp [results, Try.results14, go_sem]) rfl
        ⟨0, 0, 7, rfl, .inr ⟨HH.out, .inl ⟨HT.out, rfl, rfl, rfl⟩⟩, hB0⟩
  · have hne : (sessErr g ts != 0) = true := by rw [bne_iff_ne]; exact h
    have hIS : IsSess g ts t 0 0 (sessErr g ts) := .inl ⟨h, rfl, rfl, rfl⟩
    have HI := Lib.hid hIS
    generalize sessErr g ts = er at hc hne HI
    have HC := Lib.hid hc
    clear hc h hX hX0 hIS
    go_enter Try.func14, Try.ntmps14
    go_wp2_with (go_at_call 24; refine HC.out.mono ?_; rintro e w' ⟨rfl, rfl⟩)
    exact bodyPost_ret (v := .tuple #[.agg #[.int .i64 0, .int .i64 0], .int .i64 er]) (by simp [results, Try.results14, go_sem]) rfl ⟨0, 0, er, rfl, HI.out, hB0⟩
#print axioms clkSession_any
end Go.Proofs.Ythbpdalkifocaaa
