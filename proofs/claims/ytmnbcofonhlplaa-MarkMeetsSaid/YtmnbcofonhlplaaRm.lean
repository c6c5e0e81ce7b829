/-
  A meet of the document's own, in memory; what its methods leave.
-/
import Derived.Test.YtmnbcofonhlplaaMh
import Derived.Deep.RegionLaw
import Derived.RegionTactic
import Derived.BigRegion
namespace Go.Proofs.Ytmnbcofonhlplaa
open Go.RowKit Go.Lib
set_option linter.unusedSimpArgs false

def cellsR (x : Inp) : List Value := [.int .i64 x.1, .bool x.2.1, .bool x.2.2]
def flatR (xs : List Inp) : List Value := xs.flatMap cellsR
theorem flatR_len (xs : List Inp) : (flatR xs).length = xs.length * 3 := by
  induction xs with
  | nil => rfl
  | cons x xs ih => simp only [flatR, List.flatMap_cons, cellsR, List.length_append, List.length_cons, List.length_nil] at ih ⊢; omega
theorem flatR_app (xs ys : List Inp) : flatR (xs ++ ys) = flatR xs ++ flatR ys := by simp [flatR]
theorem flatR_get (xs : List Inp) : ∀ i, i < xs.length → (flatR xs)[i * 3]? = some (.int .i64 (xs[i]?.getD in0).1) ∧ (flatR xs)[i * 3 + 1]? = some (.bool (xs[i]?.getD in0).2.1) ∧ (flatR xs)[i * 3 + 2]? = some (.bool (xs[i]?.getD in0).2.2) := by
  induction xs with
  | nil => intro i h; simp at h
  | cons x xs ih =>
    intro i h
    cases i with
    | zero => simp [flatR, cellsR]
    | succ i =>
      have := ih i (by simpa using h)
      rw [show (i + 1) * 3 = i * 3 + 3 by omega]
      simpa [flatR, cellsR] using this
theorem flatR_setT : ∀ (xs : List Inp) (i : Nat) (a b : Bool), flatR (xs.set i ((xs[i]?.getD in0).1, a, b)) = ((flatR xs).set (i * 3 + 1) (.bool a)).set (i * 3 + 2) (.bool b)
  | [], i, a, b => by simp [flatR]
  | x :: xs, 0, a, b => by simp [flatR, cellsR]
  | x :: xs, i + 1, a, b => by
    have h := flatR_setT xs i a b
    rw [show (i + 1) * 3 + 1 = i * 3 + 1 + 3 by omega, show (i + 1) * 3 + 2 = i * 3 + 2 + 3 by omega]
    simp only [flatR, List.set_cons_succ, List.flatMap_cons, cellsR, List.cons_append, List.nil_append, List.getElem?_cons_succ] at h ⊢
    rw [h]
theorem flatR_setM : ∀ (xs : List Inp) (i : Nat) (m : Int) (a : Bool), flatR (xs.set i (m, a, (xs[i]?.getD in0).2.2)) = ((flatR xs).set (i * 3) (.int .i64 m)).set (i * 3 + 1) (.bool a)
  | [], i, m, a => by simp [flatR]
  | x :: xs, 0, m, a => by simp [flatR, cellsR]
  | x :: xs, i + 1, m, a => by
    have h := flatR_setM xs i m a
    rw [show (i + 1) * 3 + 1 = i * 3 + 1 + 3 by omega, show (i + 1) * 3 = i * 3 + 3 by omega]
    simp only [flatR, List.set_cons_succ, List.flatMap_cons, cellsR, List.cons_append, List.nil_append, List.getElem?_cons_succ] at h ⊢
    rw [h]
theorem flatR_set3 : ∀ (xs : List Inp) (i : Nat) (m : Int) (a b : Bool), flatR (xs.set i (m, a, b)) = (((flatR xs).set (i * 3 + 1) (.bool a)).set (i * 3 + 2) (.bool b)).set (i * 3) (.int .i64 m)
  | [], i, m, a, b => by simp [flatR]
  | x :: xs, 0, m, a, b => by simp [flatR, cellsR]
  | x :: xs, i + 1, m, a, b => by
    have h := flatR_set3 xs i m a b
    rw [show (i + 1) * 3 + 2 = i * 3 + 2 + 3 by omega, show (i + 1) * 3 + 1 = i * 3 + 1 + 3 by omega, show (i + 1) * 3 = i * 3 + 3 by omega]
    simp only [flatR, List.set_cons_succ, List.flatMap_cons, cellsR, List.cons_append, List.nil_append] at h ⊢
    rw [h]

/-- A meet of the document's own: block B, its inputs in block g, with room for c. -/
structure MeetR (W : World) (lo B g c : Nat) (xs : List Inp) (at_ : Int) : Prop where
  loB : lo ≤ B
  blk : Blk W B 64 #[.slice (some ⟨g, 0, none⟩) xs.length c, .int .i64 at_]
  own : W.ownsRow lo 66 3 (.slice (some ⟨g, 0, none⟩) xs.length c) xs.length (flatR xs)
  len : 1 ≤ xs.length ∧ xs.length ≤ 8
  marks : ∀ x ∈ xs, markR x.1
  mark : markR at_
theorem MeetR.lt {W : World} {lo B g c : Nat} {xs : List Inp} {at_ : Int} (h : MeetR W lo B g c xs at_) : lo ≤ g ∧ g < W.heap.size := h.own.lt g rfl
theorem MeetR.ne {W : World} {lo B g c : Nat} {xs : List Inp} {at_ : Int} (h : MeetR W lo B g c xs at_) : B ≠ g := fun e => apart_blk h.own h.blk (by decide) g rfl e.symm
theorem MeetR.belowV {W W' : World} {lo B g c : Nat} {xs : List Inp} {at_ : Int} (h : MeetR W lo B g c xs at_) (hb : Below W.heap.size W W') : MeetR W' lo B g c xs at_ :=
  ⟨h.loB, h.blk.belowV hb h.blk.lt, owns_below h.own hb, h.len, h.marks, h.mark⟩
theorem MeetR.base {W : World} {lo lo' B g c : Nat} {xs : List Inp} {at_ : Int} (h : MeetR W lo B g c xs at_) (hl : lo' ≤ lo) : MeetR W lo' B g c xs at_ :=
  ⟨Nat.le_trans hl h.loB, h.blk, ownsRow_base h.own hl, h.len, h.marks, h.mark⟩
theorem MeetR.cells {W : World} {lo B g c : Nat} {xs : List Inp} {at_ : Int} (h : MeetR W lo B g c xs at_) {i : Nat} (hi : i < xs.length) : W.cell? ⟨g, i * 3, none⟩ = some (.int .i64 (xs[i]?.getD in0).1) ∧ W.cell? ⟨g, i * 3 + 1, none⟩ = some (.bool (xs[i]?.getD in0).2.1) ∧ W.cell? ⟨g, i * 3 + 2, none⟩ = some (.bool (xs[i]?.getD in0).2.2) := by
  obtain ⟨a, b, d⟩ := flatR_get xs i hi
  refine ⟨?_, ?_, ?_⟩
  · rw [h.own.cellAt _ (by omega), a]
  · rw [h.own.cellAt _ (by omega), b]
  · rw [h.own.cellAt _ (by omega), d]
theorem MeetR.putIns {W W' : World} {lo B g c : Nat} {xs : List Inp} {at_ : Int} (h : MeetR W lo B g c xs at_) (i : Nat) (x : Inp) (hx : markR x.1) (hk : Grew W g W') (hI : W'.ownsRow lo 66 3 (.slice (some ⟨g, 0, none⟩) xs.length c) xs.length (flatR (xs.set i x))) : MeetR W' lo B g c (xs.set i x) at_ :=
  ⟨h.loB, by rw [List.length_set]; exact h.blk.keepG hk (by simp only [ne_eq, Option.some.injEq]; exact h.ne), by rw [List.length_set]; exact hI, by rw [List.length_set]; exact h.len, marks_set h.marks hx i, h.mark⟩
theorem MeetR.putAt {W : World} {lo B g c : Nat} {xs : List Inp} {at_ : Int} (h : MeetR W lo B g c xs at_) (m : Int) (hm : markR m) : MeetR (W.setCell ⟨B, 1, none⟩ (.int .i64 m)) lo B g c xs m :=
  ⟨h.loB, h.blk.setG 1 _, own_keep2 h.own (keep2_set W B 1 _ none) (fun x hx => ⟨fun e => h.ne (by simp only [Value.ownBlock, Option.some.injEq] at hx; omega), fun e => by cases e⟩), h.len, h.marks, hm⟩
theorem MeetR.setM {W : World} {lo B g c : Nat} {xs : List Inp} {at_ : Int} (h : MeetR W lo B g c xs at_) (i : Nat) (m : Int) (hm : markR m) (a : Bool) : MeetR ((W.setCell ⟨g, i * 3, none⟩ (.int .i64 m)).setCell ⟨g, i * 3 + 1, none⟩ (.bool a)) lo B g c (xs.set i (m, a, (xs[i]?.getD in0).2.2)) at_ ∧ Grew W g ((W.setCell ⟨g, i * 3, none⟩ (.int .i64 m)).setCell ⟨g, i * 3 + 1, none⟩ (.bool a)) := by
  have hg := ((grew_refl W g).set (i * 3) (.int .i64 m)).set (i * 3 + 1) (.bool a)
  refine ⟨h.putIns i _ hm hg ?_, hg⟩
  rw [flatR_setM]
  exact ((h.own.stored (i * 3) (.int .i64 m)).1.stored (i * 3 + 1) (.bool a)).1
theorem MeetR.setT {W : World} {lo B g c : Nat} {xs : List Inp} {at_ : Int} (h : MeetR W lo B g c xs at_) {i : Nat} (hi : i < xs.length) (a b : Bool) : MeetR ((W.setCell ⟨g, i * 3 + 1, none⟩ (.bool a)).setCell ⟨g, i * 3 + 2, none⟩ (.bool b)) lo B g c (xs.set i ((xs[i]?.getD in0).1, a, b)) at_ ∧ Grew W g ((W.setCell ⟨g, i * 3 + 1, none⟩ (.bool a)).setCell ⟨g, i * 3 + 2, none⟩ (.bool b)) := by
  have hg := ((grew_refl W g).set (i * 3 + 1) (.bool a)).set (i * 3 + 2) (.bool b)
  refine ⟨h.putIns i _ (mark_at h.marks hi) hg ?_, hg⟩
  rw [flatR_setT]
  exact ((h.own.stored (i * 3 + 1) (.bool a)).1.stored (i * 3 + 2) (.bool b)).1
theorem MeetR.set3 {W : World} {lo B g c : Nat} {xs : List Inp} {at_ : Int} (h : MeetR W lo B g c xs at_) (i : Nat) (m : Int) (hm : markR m) (a b : Bool) : MeetR (((W.setCell ⟨g, i * 3 + 1, none⟩ (.bool a)).setCell ⟨g, i * 3 + 2, none⟩ (.bool b)).setCell ⟨g, i * 3, none⟩ (.int .i64 m)) lo B g c (xs.set i (m, a, b)) at_ ∧ Grew W g (((W.setCell ⟨g, i * 3 + 1, none⟩ (.bool a)).setCell ⟨g, i * 3 + 2, none⟩ (.bool b)).setCell ⟨g, i * 3, none⟩ (.int .i64 m)) := by
  have hg := (((grew_refl W g).set (i * 3 + 1) (.bool a)).set (i * 3 + 2) (.bool b)).set (i * 3) (.int .i64 m)
  refine ⟨h.putIns i _ hm hg ?_, hg⟩
  rw [flatR_set3]
  exact (((h.own.stored (i * 3 + 1) (.bool a)).1.stored (i * 3 + 2) (.bool b)).1.stored (i * 3) (.int .i64 m)).1
theorem frozR {W : World} {lo B g c : Nat} {xs : List Inp} {at_ : Int} (h : MeetR W lo B g c xs at_) (j : Nat) : W.frozen? ⟨g, j, none⟩ = false := h.own.frozenAt j

set_option maxRecDepth 100000 in
set_option maxHeartbeats 1000000 in
theorem rkLeast_any {lo B g c : Nat} {xs : List Inp} {at_ : Int} (w : World) (h : MeetR w lo B g c xs at_) :
    Calls Try.prog 62 #[.pointer (some ⟨B, 0, none⟩)] w (LeastPost w xs) := by
  have HM := Lib.hid h
  have c0 := h.blk.cell 0
  simp only [List.getElem?_toArray, List.getElem?_cons_zero] at c0
  have hx9 : xs.length ≤ 8 := h.len.2
  clear h
  go_enter Try.func62, Try.ntmps62
  go_wp2_with fail
  go_loopw [4, 5, 6] (fun a s t wr => ∃ (i : Nat) (f : Int) (q : Bool), a = .int .i64 f ∧ s = .bool q ∧ t = .int .i64 i ∧ i ≤ xs.length ∧ Hid ((f, q) = leastM (xs.take i)) ∧ wr = w) (fun _ _ t _ => xs.length - (RowKit.intOf t).toNat)
  case atStart => exact ⟨0, 0, false, rfl, rfl, rfl, Nat.zero_le _, rfl, rfl⟩
  case round =>
    obtain ⟨i, f, q, rfl, rfl, rfl, hin, hF, rfl⟩ := hrel
    by_cases hlt : i < xs.length
    · obtain ⟨d0, d1, d2⟩ := HM.out.cells hlt
      have HN := Lib.hid (least_next hlt)
      rw [← hF.out] at HN
      have hi0 : (0 : Int) ≤ (i : Int) := by omega
      have hi1 : (i : Int) < (xs.length : Int) := by omega
      generalize xs[i]?.getD in0 = x at d0 d1 d2 HN
      obtain ⟨m, a, b⟩ := x
      dsimp only at d0 d1 d2 HN
      clear hF
      cases a with
      | true =>
        go_wp2_with fail
        go_roundw
        case rel => exact ⟨i + 1, f, q, rfl, rfl, by go_num, by omega, by rw [HN.out]; rfl, trivial⟩
        case measure => simp [RowKit.intOf]; omega
      | false =>
        cases q with
        | false =>
          go_wp2_with fail
          go_roundw
          case rel => exact ⟨i + 1, m, true, rfl, rfl, by go_num, by omega, by rw [HN.out]; rfl, trivial⟩
          case measure => simp [RowKit.intOf]; omega
        | true =>
          by_cases hlt2 : m < f
          · have e := HN.out
            rw [stepL, if_pos ⟨rfl, .inr hlt2⟩] at e
            have HN2 := Lib.hid e
            clear e
            go_wp2_with fail
            go_roundw
            case rel => exact ⟨i + 1, m, true, rfl, rfl, by go_num, by omega, HN2.out.symm, trivial⟩
            case measure => simp [RowKit.intOf]; omega
          · have e := HN.out
            rw [stepL, if_neg (by rintro ⟨_, h | h⟩; · cases h
                                  · exact hlt2 h)] at e
            have HN2 := Lib.hid e
            have hd : decide (m < f) = false := decide_eq_false hlt2
            clear e
            go_wp2_with fail
            go_roundw
            case rel => exact ⟨i + 1, f, true, rfl, rfl, by go_num, by omega, HN2.out.symm, trivial⟩
            case measure => simp [RowKit.intOf]; omega
    · have hge : xs.length ≤ i := by omega
      have e := hF.out
      rw [List.take_of_length_le hge] at e
      have HF := Lib.hid e
      clear e hF
      go_wp2_with fail
      go_ret2
      exact ⟨by rw [← HF.out]; rfl, Below.refl _ _⟩

/-- A call on a meet of the document's own that leaves it so. -/
def MeetRP (w : World) (lo B g c : Nat) (xs : List Inp) (at_ : Int) (v : Value) (e : Ending) (w' : World) : Prop := e = .returned v ∧ MeetR w' lo B g c xs at_ ∧ Keep2 w w' B (some g)
theorem rkOn_any {lo B g c : Nat} {xs : List Inp} {at_ : Int} (w : World) (h : MeetR w lo B g c xs at_) :
    Calls Try.prog 57 #[.pointer (some ⟨B, 0, none⟩)] w (MeetRP w lo B g c xs (onM xs at_) (.int .i64 0)) := by
  have HL := Lib.hid (rkLeast_any w h)
  have hon := onM_range h.marks h.mark
  have hlr := fun hq => least_range h.marks hq
  have hm := h.mark
  unfold onM at hon ⊢
  unfold LeastPost at HL
  have HM := Lib.hid h
  clear h
  generalize leastM xs = q at *
  obtain ⟨f, q⟩ := q
  dsimp only at *
  cases q with
  | false =>
    rw [if_neg (by decide)]
    clear hlr hon hm
    go_enter Try.func57, Try.ntmps57
    go_wp2_with fail
    refine HL.out.mono ?_
    rintro e w1 ⟨rfl, hb1⟩
    have HM1 := Lib.hid (HM.out.belowV hb1)
    have HB := Lib.hid hb1
    clear hb1
    go_wp2_with fail
    go_ret
    exact ⟨rfl, HM1.out, keep2_of_below HB.out⟩
  | true =>
    rw [if_pos rfl] at hon ⊢
    have hlr := hlr rfl
    go_enter Try.func57, Try.ntmps57
    go_wp2_with fail
    refine HL.out.mono ?_
    rintro e w1 ⟨rfl, hb1⟩
    have HM1 := Lib.hid (HM.out.belowV hb1)
    have HB := Lib.hid hb1
    clear hb1
    have c1 := HM1.out.blk.cell 1
    have f1 := HM1.out.blk.froz 1
    simp only [List.getElem?_toArray, List.getElem?_cons_zero, List.getElem?_cons_succ] at c1
    have HF := Lib.hid (And.intro (HM1.out.putAt _ hon) ((keep2_of_below HB.out).trans (keep2_set _ B 1 (.int .i64 (max at_ f)) none) (fun x e => by cases e) : Keep2 w _ B (some g)))
    clear hlr hm
    go_wp2_with fail
    go_ret
    exact ⟨rfl, HF.out.1, HF.out.2⟩
theorem rkMark_any {lo B g c : Nat} {xs : List Inp} {at_ : Int} (w : World) (h : MeetR w lo B g c xs at_) :
    Calls Try.prog 12 #[.pointer (some ⟨B, 0, none⟩)] w fun e w' => e = .returned (.int .i64 at_) ∧ w = w' := by
  have c1 := h.blk.cell 1
  simp only [List.getElem?_toArray, List.getElem?_cons_zero, List.getElem?_cons_succ] at c1
  clear h
  go_enter Try.func12, Try.ntmps12
  go_wp2_with fail
  go_ret
  exact ⟨rfl, rfl⟩
/-- The error of an input that there is not. -/
theorem rkWrong_any {lo B g c : Nat} {xs : List Inp} {at_ : Int} (i : Int) (w : World) (h : MeetR w lo B g c xs at_) :
    Calls Try.prog 40 #[.pointer (some ⟨B, 0, none⟩), .int .i64 i] w fun e w' => e = .returned (.int .i64 (if inR i 0 ((xs.length : Int) - 1) = true then 0 else 7)) ∧ w = w' := by
  have c0 := h.blk.cell 0
  have q : IntKind.i64.wrap ((xs.length : Int) - 1) = (xs.length : Int) - 1 := by have := h.len; rw [IntKind.wrap_i64]; omega
  simp only [List.getElem?_toArray, List.getElem?_cons_zero, List.getElem?_cons_succ] at c0
  have hw := rkWithin_any i 0 ((xs.length : Int) - 1) w
  clear h
  cases q1 : inR i 0 ((xs.length : Int) - 1) with
  | false =>
    rw [if_neg (by decide)]
    rw [q1] at hw
    clear q1
    go_enter Try.func40, Try.ntmps40
    go_wp2_with fail
    refine hw.mono ?_
    rintro e w1 ⟨rfl, rfl⟩
    go_wp2_with fail
    go_ret
    exact ⟨rfl, rfl⟩
  | true =>
    rw [if_pos rfl]
    rw [q1] at hw
    clear q1
    go_enter Try.func40, Try.ntmps40
    go_wp2_with fail
    refine hw.mono ?_
    rintro e w1 ⟨rfl, rfl⟩
    go_wp2_with fail
    go_ret
    exact ⟨rfl, rfl⟩
end Go.Proofs.Ytmnbcofonhlplaa
