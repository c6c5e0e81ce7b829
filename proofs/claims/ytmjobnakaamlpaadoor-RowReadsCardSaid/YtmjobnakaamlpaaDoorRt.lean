/-
  Parse of package row at a text that is no row's, and at a long one.
-/
import Derived.Test.YtmjobnakaamlpaaDoorRs
import Derived.Test.YtmjobnakaamlpaaDoorRk
namespace Go.Proofs.YtmjobnakaamlpaaDoor
open Go.RowKit Go.Lib
set_option linter.unusedSimpArgs false
set_option linter.unusedVariables false

/-- A row's text. -/
def IsRow (t : List UInt8) : Prop := ∃ xs, validRow xs = true ∧ textR xs = t
theorem not_row_ne {t : List UInt8} (h : ¬ IsRow t) : t ≠ [] := fun e => h ⟨[], by decide, by rw [e]; rfl⟩
theorem not_row_text {t : List UInt8} (h : ¬ IsRow t) (xs : List Val) : textOf xs ≠ t := by
  unfold textOf
  split
  · rename_i hv
    exact fun e => h ⟨xs, hv, e⟩
  · exact (not_row_ne h).symm
theorem bs_ne {a b : List UInt8} (h : a ≠ b) : (bs a).toList ≠ (bs b).toList := by rw [ByteArray.toList_eq, ByteArray.toList_eq]; exact h

set_option maxRecDepth 100000 in
set_option maxHeartbeats 2000000 in
theorem rowParse_not (t : List UInt8) (hn : ¬ IsRow t) (hl : t.length ≤ 65536) (w : World) (hE : Env w.heap.size w) :
    Calls Tryd.prog 10 #[.string (bs t)] w fun e w' => e = .returned (.tuple #[.slice none 0 0, .int .i64 2]) ∧ Below w.heap.size w w' := by
  have hsz : (bs t).size = t.length := bs_size t
  have hbA : Below w.heap.size w (w.alloc (.cells #[.string (bs t)] 43)) := (Below.refl _ _).alloc (Nat.le_refl _) _
  have hR : Rdr (w.alloc (.cells #[.string (bs t)] 43)) w.heap.size t := Blk.new _ _ _
  have hs1 : (w.alloc (.cells #[.string (bs t)] 43)).heap.size = w.heap.size + 1 := by simp
  have HR := Lib.hid (row_any w.heap.size w.heap.size t (not_row_ne hn) (by omega) _ hR (hE.on hbA) (Nat.le_refl _))
  have HB := Lib.hid hbA
  have HX := Lib.hid fun W (p : Option Addr) (cap : Nat) xs (hX : ValsIn W p xs) (hT : Tab W.heap.size W) => rowText_any p xs cap W hX hT
  have HNE := Lib.hid fun xs => bs_ne (not_row_text hn xs)
  have HE := Lib.hid hE
  clear hR hbA hE hn
  generalize bs t = y at hsz HR HB HNE hs1
  generalize hw1 : w.alloc (.cells #[.string y] 43) = w1 at HR HB hs1
  have g1 : (y.size : Int) ≤ 65536 := by omega
  have HS1 := Lib.hid hs1
  clear hs1 hsz
  go_enter Tryd.func10, Tryd.ntmps10
  go_wp2_with fail
  refine HR.out.mono ?_
  rintro e w2 ⟨v, b, xs, rfl, o2, k2⟩
  have hs0 := HS1.out
  have HB2 := Lib.hid (HB.out.trans (k2.low (Nat.le_refl _) (by omega)))
  clear HR
  cases b with
  | false =>
    clear HX HNE o2 k2 hs0
    go_wp2_with fail
    go_ret2
    exact ⟨rfl, HB2.out⟩
  | true =>
    obtain ⟨q, cap, rfl⟩ := slice_of_owns o2
    have HO2 := Lib.hid (ownsRow_base o2 (show w.heap.size ≤ w1.heap.size by omega))
    have HT := Lib.hid (HX.out w2 q cap xs (valsIn_of_owns HO2.out) ((HE.out.on HB2.out).up HB2.out.size).tab)
    have hne := HNE.out xs
    unfold TextPost at HT
    rw [show (⟨(textOf xs).toArray⟩ : ByteArray) = bs (textOf xs) from rfl] at HT
    generalize bs (textOf xs) = z at HT hne
    have hzy : (z.toList == y.toList) = false := by simpa using hne
    clear o2 k2 HX hs0 HNE
    go_wp2_with fail
    refine HT.out.mono ?_
    rintro e w3 ⟨rfl, k3⟩
    have HF := Lib.hid (show Below w.heap.size w w3 from HB2.out.trans (k3.mono HB2.out.size))
    clear k3 HT
    go_wp2_with fail
    go_ret2
    exact ⟨rfl, HF.out⟩
set_option maxRecDepth 100000 in
theorem rowParse_long (t : ByteArray) (hl : 65536 < t.size) (w : World) :
    Calls Tryd.prog 10 #[.string t] w fun e w' => e = .returned (.tuple #[.slice none 0 0, .int .i64 3]) ∧ Below w.heap.size w w' := by
  have g1 : (65536 : Int) < t.size := by omega
  clear hl
  go_enter Tryd.func10, Tryd.ntmps10
  go_wp2_with fail
  go_ret2
  exact ⟨rfl, Below.refl _ _⟩
end Go.Proofs.YtmjobnakaamlpaaDoor
