/-
  The chapter's example, as a contract.
-/
import Derived.Test.YtmjobnakaamlpaaDoorText
namespace Go.Proofs.YtmjobnakaamlpaaDoor
open Go.RowKit
def exRow : List Val := [(0, 0, ⟨#[]⟩), (1, -5, ⟨#[]⟩), (2, 0, ⟨#[97, 34, 98]⟩)]
theorem exText : textOf exRow = [126, 44, 45, 53, 44, 34, 97, 92, 34, 98, 34] := by decide +kernel

set_option maxRecDepth 100000 in
theorem awake_any (w : World) (hT : Tab w.heap.size w) :
    Calls Tryd.prog 6 #[] w fun e w' => e = .returned (.bool true) ∧ Below w.heap.size w w' := by
  have hbA : Below w.heap.size w (w.alloc (.cells #[.int .i64 0, .int .i64 0, .string ⟨#[]⟩, .int .i64 1, .int .i64 (-5), .string ⟨#[]⟩, .int .i64 2, .int .i64 0, .string ⟨#[97, 34, 98]⟩] 37)) := (Below.refl _ _).alloc (Nat.le_refl _) _
  have hX : ValsIn (w.alloc (.cells #[.int .i64 0, .int .i64 0, .string ⟨#[]⟩, .int .i64 1, .int .i64 (-5), .string ⟨#[]⟩, .int .i64 2, .int .i64 0, .string ⟨#[97, 34, 98]⟩] 37)) (some ⟨w.heap.size, 0, none⟩) exRow := fun _ => by
    refine ⟨w.heap.size, 0, rfl, by simp, fun i hi => ?_⟩
    have hb := Blk.new w 37 #[.int .i64 0, .int .i64 0, .string ⟨#[]⟩, .int .i64 1, .int .i64 (-5), .string ⟨#[]⟩, .int .i64 2, .int .i64 0, .string ⟨#[97, 34, 98]⟩]
    have hi3 : i = 0 ∨ i = 1 ∨ i = 2 := by simp [exRow] at hi; omega
    rcases hi3 with rfl | rfl | rfl
    · exact ⟨hb.cell 0, hb.cell 1, hb.cell 2⟩
    · exact ⟨hb.cell 3, hb.cell 4, hb.cell 5⟩
    · exact ⟨hb.cell 6, hb.cell 7, hb.cell 8⟩
  have hc := rowText_any (some ⟨w.heap.size, 0, none⟩) exRow 3 _ hX (hT.up hbA (by simp))
  rw [exText] at hc
  have HC := Lib.hid hc
  clear hc hX hT
  go_enter Tryd.func6, Tryd.ntmps6
  go_wp2_with (go_at_call 7; refine HC.out.mono ?_; rintro e w1 ⟨rfl, hb1⟩)
  go_ret
  exact ⟨rfl, hbA.trans (hb1.mono hbA.size)⟩
end Go.Proofs.YtmjobnakaamlpaaDoor
