/-
  A meet of package mark: its inputs and its mark in blocks of the call's own; the least mark of the busy inputs.
-/
import Derived.Test.YtmnbcofonhlplaaLf
import Derived.Laws.MakeOwn
namespace Go.Proofs.Ytmnbcofonhlplaa
open Go.RowKit Go.Lib

theorem quiet_eq {P : Program} {f : FuncId} {args : Array Value} {w : World} {n : Nat} {v : Value} (h : Calls P f args (w.drewN n) fun e w' => e = .returned v ∧ w.drewN n = w') : Calls P f args (w.drewN n) fun e w'' => e = .returned v ∧ ∃ m, w'' = w.drewN m :=
  h.mono fun _ _ ⟨he, hm⟩ => ⟨he, n, hm.symm⟩

theorem below_drewN {n₀ : Nat} {w w' : World} (h : Below n₀ w w') (n : Nat) : Below n₀ w (w'.drewN n) := ⟨h.os, h.tape, h.output, h.size, h.block⟩
/-- An input: its mark, whether it is idle, whether it is closed. -/
abbrev Inp := Int × Bool × Bool
abbrev in0 : Inp := (-1000000000000, false, false)
def markR (m : Int) : Prop := -1000000000000 ≤ m ∧ m ≤ 1000000000001
def cellsP (x : Inp) : List Value := [.int .i64 (x.1 + 1000000000000), .bool x.2.1, .bool x.2.2]
def flatP (xs : List Inp) : List Value := xs.flatMap cellsP
theorem flatP_len (xs : List Inp) : (flatP xs).length = xs.length * 3 := by
  induction xs with
  | nil => rfl
  | cons x xs ih => simp only [flatP, List.flatMap_cons, cellsP, List.length_append, List.length_cons, List.length_nil] at ih ⊢; omega
theorem flatP_get (xs : List Inp) : ∀ i, i < xs.length → (flatP xs)[i * 3]? = some (.int .i64 ((xs[i]?.getD in0).1 + 1000000000000)) ∧ (flatP xs)[i * 3 + 1]? = some (.bool (xs[i]?.getD in0).2.1) ∧ (flatP xs)[i * 3 + 2]? = some (.bool (xs[i]?.getD in0).2.2) := by
  induction xs with
  | nil => intro i h; simp at h
  | cons x xs ih =>
    intro i h
    cases i with
    | zero => simp [flatP, cellsP]
    | succ i =>
      have := ih i (by simpa using h)
      rw [show (i + 1) * 3 = i * 3 + 3 by omega]
      simpa [flatP, cellsP] using this
/-- The inputs lie in block I. -/
def InsP (W : World) (I : Nat) (xs : List Inp) : Prop :=
  ∀ i, i < xs.length → W.cell? ⟨I, i * 3, none⟩ = some (.int .i64 ((xs[i]?.getD in0).1 + 1000000000000)) ∧ W.cell? ⟨I, i * 3 + 1, none⟩ = some (.bool (xs[i]?.getD in0).2.1) ∧ W.cell? ⟨I, i * 3 + 2, none⟩ = some (.bool (xs[i]?.getD in0).2.2)
theorem insP_of {W : World} {I : Nat} {xs : List Inp} (h : Blk W I 69 (flatP xs).toArray) : InsP W I xs := fun i hi => by
  obtain ⟨a, b, c⟩ := flatP_get xs i hi
  refine ⟨?_, ?_, ?_⟩ <;> rw [h.cell] <;> simp only [List.getElem?_toArray] <;> assumption
theorem InsP.belowV {n₀ I : Nat} {W W' : World} {xs : List Inp} (h : InsP W I xs) (hb : Below n₀ W W') (hI : I < n₀) : InsP W' I xs := fun i hi =>
  ⟨(hb.cell (p := ⟨I, i * 3, none⟩) hI).trans (h i hi).1, (hb.cell (p := ⟨I, i * 3 + 1, none⟩) hI).trans (h i hi).2.1, (hb.cell (p := ⟨I, i * 3 + 2, none⟩) hI).trans (h i hi).2.2⟩
/-- The least mark of the busy inputs, as far as it is found. -/
def stepL (a : Int × Bool) (x : Inp) : Int × Bool := if x.2.1 = false ∧ (a.2 = false ∨ x.1 < a.1) then (x.1, true) else a
def leastM (xs : List Inp) : Int × Bool := xs.foldl stepL (0, false)
theorem least_next {xs : List Inp} {i : Nat} (hi : i < xs.length) : leastM (xs.take (i + 1)) = stepL (leastM (xs.take i)) (xs[i]?.getD in0) := by
  unfold leastM
  rw [List.take_succ_eq_append_getElem hi, List.foldl_append, List.getElem?_eq_getElem hi]
  rfl
theorem mark_at {xs : List Inp} (h : ∀ x ∈ xs, markR x.1) {i : Nat} (hi : i < xs.length) : markR (xs[i]?.getD in0).1 := by
  rw [List.getElem?_eq_getElem hi]; exact h _ (List.getElem_mem hi)

set_option maxRecDepth 100000 in
theorem slow1_any (m : Int) (a b : Bool) (h : markR m) (w : World) :
    Calls Try.prog 73 #[.agg #[.int .i64 (m + 1000000000000), .bool a, .bool b]] w fun e w' => e = .returned (.tuple #[.int .i64 m, .bool !a]) ∧ Below w.heap.size w w' := by
  have hl := lmark_any m h
  have hb0 := below_new w (.cells #[.int .i64 (m + 1000000000000), .bool a, .bool b] 69)
  have HB := Lib.hid hb0
  clear h hb0
  go_enter Try.func73, Try.ntmps73
  go_wp2_with fail
  go_quiet ((go_at_call 30; exact quiet_eq (hl _)))
  go_wp2_with fail
  go_ret2
  exact ⟨rfl, below_drewN HB.out _⟩

def LeastPost (w : World) (xs : List Inp) (e : Ending) (w' : World) : Prop := e = .returned (.tuple #[.int .i64 (leastM xs).1, .bool (leastM xs).2]) ∧ Below w.heap.size w w'
set_option maxRecDepth 100000 in
set_option maxHeartbeats 1000000 in
theorem least_any (I c : Nat) (xs : List Inp) (hm : xs.length ≤ 9223372036854775807) (hk : ∀ x ∈ xs, markR x.1) (w : World) (hI : I < w.heap.size) (hX : InsP w I xs) :
    Calls Try.prog 72 #[.slice (some ⟨I, 0, none⟩) xs.length c, .func (.func 73) #[] #[]] w (LeastPost w xs) := by
  have HX := Lib.hid hX
  have HK := Lib.hid hk
  clear hX hk
  go_enter Try.func72, Try.ntmps72
  go_wp2_with fail
  go_loopw [6, 7, 14] (fun a s t wr => ∃ (i : Nat) (f : Int) (q : Bool), a = .int .i64 f ∧ s = .bool q ∧ t = .int .i64 i ∧ i ≤ xs.length ∧ Hid ((f, q) = leastM (xs.take i)) ∧ Below w.heap.size w wr) (fun _ _ t _ => xs.length - (RowKit.intOf t).toNat)
  case atStart => exact ⟨0, 0, false, rfl, rfl, rfl, Nat.zero_le _, rfl, Below.refl _ _⟩
  case round =>
    obtain ⟨i, f, q, rfl, rfl, rfl, hin, hF, hB⟩ := hrel
    by_cases hlt : i < xs.length
    · obtain ⟨c0, c1, c2⟩ := HX.out.belowV hB hI i hlt
      have hr := mark_at HK.out hlt
      have HN := Lib.hid (least_next hlt)
      rw [← hF.out] at HN
      have hi0 : (0 : Int) ≤ (i : Int) := by omega
      have hi1 : (i : Int) < (xs.length : Int) := by omega
      generalize xs[i]?.getD in0 = x at c0 c1 c2 hr HN
      obtain ⟨m, a, b⟩ := x
      dsimp only at c0 c1 c2 hr HN
      have HS := Lib.hid fun W => slow1_any m a b hr W
      have hB1 := hB.alloc hB.size (.cells #[.int .i64 (m + 1000000000000), .bool a, .bool b] 69)
      have HB := Lib.hid hB
      clear hB hr hF
      go_wp2_with fail
      refine (HS.out _).mono ?_
      rintro e w1 ⟨rfl, hb1⟩
      have HB1 := Lib.hid (HB.out.alloc HB.out.size (.cells #[.int .i64 (m + 1000000000000), .bool a, .bool b] 69) |>.trans (hb1.mono hB1.size))
      clear hb1 hB1 HS
      cases a with
      | true =>
        go_wp2_with fail
        go_roundw
        case rel => exact ⟨i + 1, f, q, rfl, rfl, by go_num, by omega, by rw [HN.out]; rfl, HB1.out⟩
        case measure => simp [RowKit.intOf]; omega
      | false =>
        cases q with
        | false =>
          go_wp2_with fail
          go_roundw
          case rel => exact ⟨i + 1, m, true, rfl, rfl, by go_num, by omega, by rw [HN.out]; rfl, HB1.out⟩
          case measure => simp [RowKit.intOf]; omega
        | true =>
          by_cases hlt2 : m < f
          · have e := HN.out
            rw [stepL, if_pos ⟨rfl, .inr hlt2⟩] at e
            have HN2 := Lib.hid e
            clear e
            go_wp2_with fail
            go_roundw
            case rel => exact ⟨i + 1, m, true, rfl, rfl, by go_num, by omega, HN2.out.symm, HB1.out⟩
            case measure => simp [RowKit.intOf]; omega
          · have e := HN.out
            rw [stepL, if_neg (by rintro ⟨_, h | h⟩; · cases h
                                  · exact hlt2 h)] at e
            have HN2 := Lib.hid e
            have hd : decide (m < f) = false := decide_eq_false hlt2
            clear e
            go_wp2_with fail
            go_roundw
            case rel => exact ⟨i + 1, f, true, rfl, rfl, by go_num, by omega, HN2.out.symm, HB1.out⟩
            case measure => simp [RowKit.intOf]; omega
    · have hge : xs.length ≤ i := by omega
      have e := hF.out
      rw [List.take_of_length_le hge] at e
      have HF := Lib.hid e
      clear e hF
      go_wp2_with fail
      go_ret2
      exact ⟨by rw [← HF.out]; rfl, hB⟩
end Go.Proofs.Ytmnbcofonhlplaa
