/-
  A meet of package mark, in memory: its two blocks; what its methods leave.
-/
import Derived.Test.YtmnbcofonhlplaaKp6
namespace Go.Proofs.Ytmnbcofonhlplaa
open Go.RowKit Go.Lib

theorem flatP_set1 : ∀ (xs : List Inp) (i : Nat) (a : Bool), flatP (xs.set i ((xs[i]?.getD in0).1, a, (xs[i]?.getD in0).2.2)) = (flatP xs).set (i * 3 + 1) (.bool a)
  | [], i, a => by simp [flatP]
  | x :: xs, 0, a => by simp [flatP, cellsP]
  | x :: xs, i + 1, a => by
    have h := flatP_set1 xs i a
    rw [show (i + 1) * 3 + 1 = i * 3 + 1 + 3 by omega]
    simp only [flatP, List.set_cons_succ, List.flatMap_cons, cellsP, List.cons_append, List.nil_append, List.getElem?_cons_succ] at h ⊢
    rw [h]
theorem flatP_set2 : ∀ (xs : List Inp) (i : Nat) (m : Int) (a : Bool), flatP (xs.set i (m, a, (xs[i]?.getD in0).2.2)) = ((flatP xs).set (i * 3) (.int .i64 (m + 1000000000000))).set (i * 3 + 1) (.bool a)
  | [], i, m, a => by simp [flatP]
  | x :: xs, 0, m, a => by simp [flatP, cellsP]
  | x :: xs, i + 1, m, a => by
    have h := flatP_set2 xs i m a
    rw [show (i + 1) * 3 + 1 = i * 3 + 1 + 3 by omega, show (i + 1) * 3 = i * 3 + 3 by omega]
    simp only [flatP, List.set_cons_succ, List.flatMap_cons, cellsP, List.cons_append, List.nil_append, List.getElem?_cons_succ] at h ⊢
    rw [h]
theorem flatP_set3 : ∀ (xs : List Inp) (i : Nat) (m : Int) (a b : Bool), flatP (xs.set i (m, a, b)) = (((flatP xs).set (i * 3) (.int .i64 (m + 1000000000000))).set (i * 3 + 1) (.bool a)).set (i * 3 + 2) (.bool b)
  | [], i, m, a, b => by simp [flatP]
  | x :: xs, 0, m, a, b => by simp [flatP, cellsP]
  | x :: xs, i + 1, m, a, b => by
    have h := flatP_set3 xs i m a b
    rw [show (i + 1) * 3 + 2 = i * 3 + 2 + 3 by omega, show (i + 1) * 3 + 1 = i * 3 + 1 + 3 by omega, show (i + 1) * 3 = i * 3 + 3 by omega]
    simp only [flatP, List.set_cons_succ, List.flatMap_cons, cellsP, List.cons_append, List.nil_append] at h ⊢
    rw [h]

/-- A meet: block B, its inputs in block I. -/
structure MeetP (W : World) (lo B I : Nat) (xs : List Inp) (at_ : Int) : Prop where
  loB : lo ≤ B
  loI : lo ≤ I
  blk : Blk W B 61 #[.slice (some ⟨I, 0, none⟩) xs.length xs.length, .int .i64 (at_ + 1000000000000)]
  ins : Blk W I 69 (flatP xs).toArray
  len : 1 ≤ xs.length ∧ xs.length ≤ 8
  marks : ∀ x ∈ xs, markR x.1
  mark : markR at_
theorem MeetP.ne {W : World} {lo B I : Nat} {xs : List Inp} {at_ : Int} (h : MeetP W lo B I xs at_) : B ≠ I := blk_ne h.blk h.ins (by decide)
theorem MeetP.belowV {W W' : World} {lo B I : Nat} {xs : List Inp} {at_ : Int} (h : MeetP W lo B I xs at_) (hb : Below W.heap.size W W') : MeetP W' lo B I xs at_ :=
  ⟨h.loB, h.loI, h.blk.belowV hb h.blk.lt, h.ins.belowV hb h.ins.lt, h.len, h.marks, h.mark⟩
theorem MeetP.base {W : World} {lo lo' B I : Nat} {xs : List Inp} {at_ : Int} (h : MeetP W lo B I xs at_) (hl : lo' ≤ lo) : MeetP W lo' B I xs at_ :=
  ⟨Nat.le_trans hl h.loB, Nat.le_trans hl h.loI, h.blk, h.ins, h.len, h.marks, h.mark⟩
theorem marks_set {xs : List Inp} (h : ∀ x ∈ xs, markR x.1) {x : Inp} (hx : markR x.1) (i : Nat) : ∀ y ∈ xs.set i x, markR y.1 := fun y hy => by
  rcases List.mem_or_eq_of_mem_set hy with h1 | h1
  · exact h y h1
  · rw [h1]; exact hx
/-- One input's cells are stored, and the block is again as it should be. -/
theorem MeetP.putIns {W W' : World} {lo B I : Nat} {xs : List Inp} {at_ : Int} (h : MeetP W lo B I xs at_) (i : Nat) (x : Inp) (hx : markR x.1) (hk : Grew W I W') (hI : Blk W' I 69 (flatP (xs.set i x)).toArray) : MeetP W' lo B I (xs.set i x) at_ :=
  ⟨h.loB, h.loI, by rw [List.length_set]; exact h.blk.keepG hk (by simp only [ne_eq, Option.some.injEq]; exact h.ne), hI, by rw [List.length_set]; exact h.len, marks_set h.marks hx i, h.mark⟩
theorem MeetP.putAt {W : World} {lo B I : Nat} {xs : List Inp} {at_ : Int} (h : MeetP W lo B I xs at_) (m : Int) (hm : markR m) : MeetP (W.setCell ⟨B, 1, none⟩ (.int .i64 (m + 1000000000000))) lo B I xs m :=
  ⟨h.loB, h.loI, h.blk.setG 1 _, h.ins.setOther (fun e => h.ne e.symm) _, h.len, h.marks, hm⟩
def onM (xs : List Inp) (at_ : Int) : Int := if (leastM xs).2 = true then max at_ (leastM xs).1 else at_
theorem foldL_range (xs : List Inp) (h : ∀ x ∈ xs, markR x.1) : ∀ a : Int × Bool, (a.2 = true → markR a.1) → (xs.foldl stepL a).2 = true → markR (xs.foldl stepL a).1 := by
  induction xs with
  | nil => intro a ha; exact ha
  | cons x xs ih =>
    intro a ha
    refine ih (fun y hy => h y (by simp [hy])) _ ?_
    unfold stepL
    split
    · intro _; exact h x (by simp)
    · exact ha
theorem least_range {xs : List Inp} (h : ∀ x ∈ xs, markR x.1) (hq : (leastM xs).2 = true) : markR (leastM xs).1 := foldL_range xs h _ (fun e => by cases e) hq
theorem onM_range {xs : List Inp} (h : ∀ x ∈ xs, markR x.1) {at_ : Int} (ha : markR at_) : markR (onM xs at_) := by
  unfold onM
  split
  · have := least_range h (by assumption)
    unfold markR at *
    omega
  · exact ha

theorem slowest_any {lo B I : Nat} {xs : List Inp} {at_ : Int} (w : World) (h : MeetP w lo B I xs at_) :
    Calls Try.prog 61 #[.pointer (some ⟨B, 0, none⟩)] w (LeastPost w xs) := by
  have HL := Lib.hid (least_any I xs.length xs (by have := h.len; omega) h.marks w h.ins.lt (insP_of h.ins))
  have c0 := h.blk.cell 0
  simp only [List.getElem?_toArray, List.getElem?_cons_zero] at c0
  unfold LeastPost at *
  generalize leastM xs = q at *
  clear h
  go_enter Try.func61, Try.ntmps61
  go_wp2_with fail
  refine HL.out.mono ?_
  rintro e w1 ⟨rfl, hb1⟩
  have HB := Lib.hid hb1
  clear hb1
  go_wp2_with fail
  go_ret2
  exact ⟨rfl, HB.out⟩

/-- A call that hands nothing back, or an error, and leaves a meet so. -/
def MeetPost (w : World) (lo B I : Nat) (xs : List Inp) (at_ : Int) (v : Value) (e : Ending) (w' : World) : Prop := e = .returned v ∧ MeetP w' lo B I xs at_ ∧ Keep2 w w' B (some I)
theorem advance_any {lo B I : Nat} {xs : List Inp} {at_ : Int} (w : World) (h : MeetP w lo B I xs at_) :
    Calls Try.prog 45 #[.pointer (some ⟨B, 0, none⟩)] w (MeetPost w lo B I xs (onM xs at_) (.tuple #[])) := by
  have HL := Lib.hid (slowest_any w h)
  have hon := onM_range h.marks h.mark
  have hlr := fun hq => least_range h.marks hq
  have hm := h.mark
  unfold onM at hon ⊢
  unfold LeastPost at HL
  have HM := Lib.hid h
  clear h
  generalize leastM xs = q at *
  obtain ⟨f, q⟩ := q
  dsimp only at *
  cases q with
  | false =>
    rw [if_neg (by decide)]
    clear hlr hon hm
    go_enter Try.func45, Try.ntmps45
    go_wp2_with fail
    refine HL.out.mono ?_
    rintro e w1 ⟨rfl, hb1⟩
    have HM1 := Lib.hid (HM.out.belowV hb1)
    have HB := Lib.hid hb1
    clear hb1
    go_wp2_with fail
    exact bodyPost_end (results_none rfl _ _ _) rfl ⟨rfl, HM1.out, keep2_of_below HB.out⟩
  | true =>
    rw [if_pos rfl] at hon ⊢
    have hlr := hlr rfl
    unfold markR at hlr hm
    go_enter Try.func45, Try.ntmps45
    go_wp2_with fail
    refine HL.out.mono ?_
    rintro e w1 ⟨rfl, hb1⟩
    have HM1 := Lib.hid (HM.out.belowV hb1)
    have HB := Lib.hid hb1
    clear hb1
    have HR := Lib.hid (raise_any B 1 at_ f (by omega) w1 (HM1.out.blk.cell 1) (HM1.out.blk.froz 1))
    go_wp2_with fail
    refine HR.out.mono ?_
    rintro e w2 ⟨rfl, rfl⟩
    go_wp2_with fail
    exact bodyPost_end (results_none rfl _ _ _) rfl ⟨rfl, HM1.out.putAt _ hon, (keep2_of_below HB.out).trans (keep2_set _ _ _ _ none) (fun x e => by cases e)⟩

theorem mkMark_any {lo B I : Nat} {xs : List Inp} {at_ : Int} (w : World) (h : MeetP w lo B I xs at_) :
    Calls Try.prog 10 #[.pointer (some ⟨B, 0, none⟩)] w fun e w' => e = .returned (.int .i64 at_) ∧ w = w' := by
  have c1 := h.blk.cell 1
  have hl := lmark_any at_ h.mark
  simp only [List.getElem?_toArray, List.getElem?_cons_zero, List.getElem?_cons_succ] at c1
  clear h
  go_enter Try.func10, Try.ntmps10
  go_wp2_with fail
  refine (hl _).mono ?_
  rintro e w1 ⟨rfl, rfl⟩
  go_wp2_with fail
  go_ret
  exact ⟨rfl, rfl⟩
theorem mkMark_nil (w : World) :
    Calls Try.prog 10 #[.pointer none] w fun e w' => e = .returned (.int .i64 (-1000000000000)) ∧ w = w' := by
  go_enter Try.func10, Try.ntmps10
  go_wp2_with fail
  go_ret
  exact ⟨rfl, rfl⟩
theorem mkHas_any {lo B I : Nat} {xs : List Inp} {at_ : Int} (i : Int) (w : World) (h : MeetP w lo B I xs at_) :
    Calls Try.prog 39 #[.pointer (some ⟨B, 0, none⟩), .int .i64 i] w fun e w' => e = .returned (.bool (inR i 0 (xs.length - 1))) ∧ w = w' := by
  have c0 := h.blk.cell 0
  have q : IntKind.i64.wrap ((xs.length : Int) - 1) = (xs.length : Int) - 1 := by have := h.len; rw [IntKind.wrap_i64]; omega
  simp only [List.getElem?_toArray, List.getElem?_cons_zero] at c0
  clear h
  go_enter Try.func39, Try.ntmps39
  go_wp2_with fail
  refine (mkWithin_any _ _ _ _).mono ?_
  rintro e w1 ⟨rfl, rfl⟩
  go_wp2_with fail
  go_ret
  exact ⟨rfl, rfl⟩
end Go.Proofs.Ytmnbcofonhlplaa
