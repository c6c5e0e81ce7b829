/-
  Parse of package row at a row's text, as a contract.
-/
import Derived.Test.YtmjobnakaamlpaaDoorRj
namespace Go.Proofs.YtmjobnakaamlpaaDoor
open Go.RowKit Go.Lib
set_option linter.unusedSimpArgs false
set_option linter.unusedVariables false

def PostR (w : World) (xs : List Val) (e : Ending) (w' : World) : Prop := ∃ v, e = .returned (.tuple #[v, .int .i64 0]) ∧ OwnsV w' w.heap.size v xs ∧ Below w.heap.size w w'
theorem valid_split {xs : List Val} (h : validRow xs = true) : xs.length ≤ 8 ∧ validVs xs = true := by
  unfold validRow at h
  rw [Bool.and_eq_true, decide_eq_true_iff] at h
  exact h

set_option maxRecDepth 100000 in
set_option maxHeartbeats 2000000 in
theorem rowParse_good (xs : List Val) (hv : validRow xs = true) (w : World) (hE : Env w.heap.size w) :
    Calls Tryd.prog 10 #[.string (bs (textR xs))] w (PostR w xs) := by
  obtain ⟨h8, hvs⟩ := valid_split hv
  have hlen := tailT_len hvs
  have hsz : (bs (textR xs)).size ≤ 6424 := by rw [bs_size, textR_tail]; omega
  have hbA : Below w.heap.size w (w.alloc (.cells #[.string (bs (textR xs))] 43)) := (Below.refl _ _).alloc (Nat.le_refl _) _
  have hR : Rdr (w.alloc (.cells #[.string (bs (textR xs))] 43)) w.heap.size (tailT xs) := by rw [← textR_tail]; exact Blk.new _ _ _
  have hs1 : (w.alloc (.cells #[.string (bs (textR xs))] 43)).heap.size = w.heap.size + 1 := by simp
  have HR := Lib.hid (row_good w.heap.size w.heap.size xs h8 hvs _ hR (hE.on hbA) (Nat.le_refl _))
  have HB := Lib.hid hbA
  have HX := Lib.hid fun W (p : Option Addr) (cap : Nat) (hX : ValsIn W p xs) (hT : Tab W.heap.size W) => rowText_any p xs cap W hX hT
  have ht : textOf xs = textR xs := by unfold textOf; rw [hv]; rfl
  rw [ht] at HX
  unfold TextPost at HX
  rw [show (⟨(textR xs).toArray⟩ : ByteArray) = bs (textR xs) from rfl] at HX
  have HE := Lib.hid hE
  clear hR hbA hE hv hvs hlen ht
  generalize bs (textR xs) = y at hsz HR HB HX hs1
  generalize hw1 : w.alloc (.cells #[.string y] 43) = w1 at HR HB hs1
  have g1 : (y.size : Int) ≤ 65536 := by omega
  have HS1 := Lib.hid hs1
  clear hs1 hsz
  go_enter Tryd.func10, Tryd.ntmps10
  go_wp2_with fail
  refine HR.out.mono ?_
  rintro e w2 ⟨v, rfl, o2, k2⟩
  have hs0 := HS1.out
  have HB2 := Lib.hid (HB.out.trans (k2.low (Nat.le_refl _) (by omega)))
  obtain ⟨q, cap, rfl⟩ := slice_of_owns o2
  have HO2 := Lib.hid (ownsRow_base o2 (show w.heap.size ≤ w1.heap.size by omega))
  have HT := Lib.hid (HX.out w2 q cap (valsIn_of_owns HO2.out) ((HE.out.on HB2.out).up HB2.out.size).tab)
  clear o2 k2 HR HX hs0
  go_wp2_with fail
  refine HT.out.mono ?_
  rintro e w3 ⟨rfl, k3⟩
  have HF := Lib.hid (show OwnsV w3 w.heap.size (.slice q xs.length cap) xs ∧ Below w.heap.size w w3 from ⟨owns_below HO2.out k3, HB2.out.trans (k3.mono HB2.out.size)⟩)
  clear k3 HT
  go_wp2_with fail
  go_ret2
  exact ⟨_, rfl, HF.out.1, HF.out.2⟩

/-- A byte, read back. -/
def unhex (c : UInt8) : Nat := if c.toNat < 58 then c.toNat - 48 else c.toNat - 87
def dec (l : List UInt8) : Option (UInt8 × List UInt8) :=
  match l with
  | [] => none
  | c :: r => if c = 92 then (match r with
      | [] => none
      | d :: s => if d = 110 then some (10, s) else if d = 120 then (match s with
          | a :: b :: q => some (UInt8.ofNat (16 * unhex a + unhex b), q)
          | _ => none) else some (d, s)) else some (c, r)
theorem unhex_byte {n : Nat} (h : n < 256) : UInt8.ofNat (16 * unhex (UInt8.ofNat (hexd (n / 16))) + unhex (UInt8.ofNat (hexd (n % 16)))) = UInt8.ofNat n := by
  have : ∀ n : Nat, n < 256 → UInt8.ofNat (16 * unhex (UInt8.ofNat (hexd (n / 16))) + unhex (UInt8.ofNat (hexd (n % 16)))) = UInt8.ofNat n := by decide +kernel
  exact this n h
theorem dec_q (c : UInt8) (r : List UInt8) : dec (qB c ++ r) = some (c, r) := by
  unfold qB
  split
  · rename_i hc
    have e1 : c ≠ 110 := fun e => by subst e; exact absurd hc (by decide)
    have e2 : c ≠ 120 := fun e => by subst e; exact absurd hc (by decide)
    simp [dec, e1, e2]
  · rename_i hc
    split
    · rename_i h10
      have : c = 10 := UInt8.toNat_inj.1 h10
      subst this
      rfl
    · split
      · have := unhex_byte c.toNat_lt
        simp only [UInt8.ofNat_toNat] at this
        simp [dec, this]
      · have e1 : c ≠ 92 := fun e => by subst e; exact hc (by decide)
        simp [dec, e1]
theorem flat_inj : ∀ (l m r s : List UInt8), l.flatMap qB ++ 34 :: r = m.flatMap qB ++ 34 :: s → l = m ∧ r = s
  | [], [], r, s, h => ⟨rfl, by simpa using h⟩
  | [], d :: m, r, s, h => by
    have h1 := q_first d (m.flatMap qB ++ 34 :: s)
    rw [List.flatMap_cons, List.append_assoc] at h
    rw [← h] at h1
    simp [Lib.hasPrefix, List.isPrefixOf] at h1
  | c :: l, [], r, s, h => by
    have h1 := q_first c (l.flatMap qB ++ 34 :: r)
    rw [List.flatMap_cons, List.append_assoc] at h
    rw [h] at h1
    simp [Lib.hasPrefix, List.isPrefixOf] at h1
  | c :: l, d :: m, r, s, h => by
    rw [List.flatMap_cons, List.flatMap_cons, List.append_assoc, List.append_assoc] at h
    have h1 := congrArg dec h
    rw [dec_q, dec_q] at h1
    simp only [Option.some.injEq, Prod.mk.injEq] at h1
    obtain ⟨rfl, h2⟩ := h1
    obtain ⟨rfl, h3⟩ := flat_inj l m r s h2
    exact ⟨rfl, h3⟩
theorem textV_first {x0 x1 : Int} {x2 : ByteArray} (hv : validV x0 x1 x2 = true) : ∃ c q, textV (x0, x1, x2) = c :: q ∧ (x0 = 0 ↔ c = 126) ∧ (x0 = 2 ↔ c = 34) := by
  have hv' : validP x0 x1 x2 := of_decide_eq_true hv
  rcases hv' with ⟨rfl, rfl, he⟩ | ⟨rfl, he, h1, h2⟩ | ⟨rfl, rfl, h2⟩
  · exact ⟨126, [], rfl, by simp, by decide⟩
  · have hb := itoa_byte x1
    have e : textV ((1 : Int), x1, x2) = itoa x1 := rfl
    rw [e]
    cases h : itoa x1 with
    | nil => exact absurd h (itoa_ne (by omega) (by omega))
    | cons c q =>
      have := hb c (by rw [h]; simp)
      refine ⟨c, q, rfl, ⟨fun h => (by cases h), fun h => ?_⟩, ⟨fun h => (by cases h), fun h => ?_⟩⟩
      · subst h; exact absurd this (by decide)
      · subst h; exact absurd this (by decide)
  · exact ⟨34, _, rfl, by decide, by simp⟩
theorem textV_inj {x0 x1 y0 y1 : Int} {x2 y2 : ByteArray} (hx : validV x0 x1 x2 = true) (hy : validV y0 y1 y2 = true) {r s : List UInt8} (hr : Tail r) (hs : Tail s) (h : textV (x0, x1, x2) ++ r = textV (y0, y1, y2) ++ s) : (x0, x1, x2) = (y0, y1, y2) ∧ r = s := by
  obtain ⟨c, q, e1, a0, a2⟩ := textV_first hx
  obtain ⟨d, p, e2, b0, b2⟩ := textV_first hy
  have hcd : c = d := by
    rw [e1, e2] at h
    exact (List.cons.inj h).1
  subst hcd
  have hx' : validP x0 x1 x2 := of_decide_eq_true hx
  have hy' : validP y0 y1 y2 := of_decide_eq_true hy
  have k0 : x0 = 0 ↔ y0 = 0 := a0.trans b0.symm
  have k2 : x0 = 2 ↔ y0 = 2 := a2.trans b2.symm
  rcases hx' with ⟨rfl, rfl, he⟩ | ⟨rfl, he, h1, h2⟩ | ⟨rfl, rfl, h2⟩
  · have hy0 := k0.1 rfl
    rcases hy' with ⟨rfl, rfl, he'⟩ | ⟨rfl, _⟩ | ⟨rfl, _⟩
    · rw [empty_of he, empty_of he'] at h ⊢
      exact ⟨rfl, List.append_cancel_left h⟩
    · exact absurd hy0 (by decide)
    · exact absurd hy0 (by decide)
  · rcases hy' with ⟨rfl, rfl, he'⟩ | ⟨rfl, he', h1', h2'⟩ | ⟨rfl, _⟩
    · exact absurd (k0.2 rfl) (by decide)
    · have hh : itoa x1 ++ r = itoa y1 ++ s := h
      have hc1 := cut_tail (itoa_comma x1) hr
      rw [hh, cut_tail (itoa_comma y1) hs] at hc1
      have hn := atoi_itoa (n := x1) (by omega) (by omega)
      rw [← hc1, atoi_itoa (n := y1) (by omega) (by omega)] at hn
      have hxy : y1 = x1 := by injection hn
      subst hxy
      rw [empty_of he, empty_of he']
      exact ⟨rfl, List.append_cancel_left hh⟩
    · exact absurd (k2.2 rfl) (by decide)
  · have hy2 := k2.1 rfl
    rcases hy' with ⟨rfl, _⟩ | ⟨rfl, _⟩ | ⟨rfl, rfl, h2'⟩
    · exact absurd hy2 (by decide)
    · exact absurd hy2 (by decide)
    · have hh : quoted x2.data.toList ++ r = quoted y2.data.toList ++ s := h
      unfold quoted at hh
      have h3 := (List.cons.inj (show (34 : UInt8) :: (x2.data.toList.flatMap qB ++ [34] ++ r) = 34 :: (y2.data.toList.flatMap qB ++ [34] ++ s) from hh)).2
      rw [List.append_assoc, List.append_assoc] at h3
      obtain ⟨h4, h5⟩ := flat_inj _ _ _ _ h3
      have h6 : x2 = y2 := by rw [← bs_back x2, ← bs_back y2, h4]
      rw [h6]
      exact ⟨rfl, h5⟩
theorem tail_of (r : List Val) : Tail (if r = [] then [] else 44 :: tailT r) := by
  split
  · exact .inl rfl
  · exact .inr ⟨_, rfl⟩
theorem tailT_inj : ∀ (xs ys : List Val), validVs xs = true → validVs ys = true → tailT xs = tailT ys → xs = ys
  | [], [], _, _, _ => rfl
  | [], y :: ys, _, hy, h => by
    unfold validVs at hy
    rw [List.all_cons, Bool.and_eq_true] at hy
    have := textV_ne hy.1
    exact absurd (List.append_eq_nil_iff.1 (show textV y ++ _ = [] from h.symm)).1 this
  | x :: xs, [], hx, _, h => by
    unfold validVs at hx
    rw [List.all_cons, Bool.and_eq_true] at hx
    have := textV_ne hx.1
    exact absurd (List.append_eq_nil_iff.1 (show textV x ++ _ = [] from h)).1 this
  | (x0, x1, x2) :: xs, (y0, y1, y2) :: ys, hx, hy, h => by
    unfold validVs at hx hy
    rw [List.all_cons, Bool.and_eq_true] at hx hy
    obtain ⟨h1, h2⟩ := textV_inj hx.1 hy.1 (tail_of xs) (tail_of ys) h
    rw [h1]
    have : xs = ys := by
      by_cases ex : xs = []
      · by_cases ey : ys = []
        · rw [ex, ey]
        · rw [if_pos ex, if_neg ey] at h2; cases h2
      · by_cases ey : ys = []
        · rw [if_neg ex, if_pos ey] at h2; cases h2
        · rw [if_neg ex, if_neg ey] at h2
          exact tailT_inj xs ys hx.2 hy.2 (List.cons.inj h2).2
    rw [this]
theorem textR_inj {xs ys : List Val} (hx : validRow xs = true) (hy : validRow ys = true) (h : textR xs = textR ys) : xs = ys :=
  tailT_inj xs ys (valid_split hx).2 (valid_split hy).2 (by rw [← textR_tail, ← textR_tail]; exact h)
end Go.Proofs.YtmjobnakaamlpaaDoor
