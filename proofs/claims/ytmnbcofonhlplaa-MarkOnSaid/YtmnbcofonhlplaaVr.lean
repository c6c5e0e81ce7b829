/-
  Values, rows, lists of rows; which are valid, by the document's own; Same, Own and Clone of rows.
-/
import Derived.Test.YtmnbcofonhlplaaGr
import Derived.Laws.AppendOwnNone
import Derived.Lib.SliceRun
namespace Go.Proofs.Ytmnbcofonhlplaa
open Go.RowKit
set_option linter.unusedSimpArgs false

abbrev Val := Int × Int × ByteArray
def cellsV (x : Val) : List Value := [.int .i64 x.1, .int .i64 x.2.1, .string x.2.2]
def validP (k n : Int) (s : ByteArray) : Prop := (k = 0 ∧ n = 0 ∧ s.toList.isEmpty = true) ∨ (k = 1 ∧ s.toList.isEmpty = true ∧ -1000000000000000 ≤ n ∧ n ≤ 1000000000000000) ∨ (k = 2 ∧ n = 0 ∧ (s.size : Int) ≤ 200)
instance (k n : Int) (s : ByteArray) : Decidable (validP k n s) := by unfold validP; infer_instance
def validV (k n : Int) (s : ByteArray) : Bool := decide (validP k n s)
theorem within_any (n lo hi : Int) (w : World) :
    Calls Try.prog 83 #[.int .i64 n, .int .i64 lo, .int .i64 hi] w fun e w' => e = .returned (.bool (decide (lo ≤ n ∧ n ≤ hi))) ∧ w = w' := by
  by_cases h : lo ≤ n
  · have e : decide (lo ≤ n ∧ n ≤ hi) = decide (n ≤ hi) := by simp [h]
    rw [e]
    clear e
    go_enter Try.func83, Try.ntmps83
    go_wp2
    go_ret
    exact ⟨rfl, rfl⟩
  · have e : decide (lo ≤ n ∧ n ≤ hi) = false := by rw [decide_eq_false]; omega
    have h' : n < lo := by omega
    rw [e]
    clear e
    go_enter Try.func83, Try.ntmps83
    go_wp2
    go_ret
    exact ⟨rfl, rfl⟩
theorem refValidValue_any (k n : Int) (s : ByteArray) (w : World) :
    Calls Try.prog 82 #[.agg #[.int .i64 k, .int .i64 n, .string s]] w fun e w' => e = .returned (.bool (validV k n s)) ∧ w' = w.alloc (.cells #[.int .i64 k, .int .i64 n, .string s] 98) := by
  have hv : ∀ b, validV k n s = b → (Calls Try.prog 82 #[.agg #[.int .i64 k, .int .i64 n, .string s]] w fun e w' => e = .returned (.bool b) ∧ w' = w.alloc (.cells #[.int .i64 k, .int .i64 n, .string s] 98)) := by
    intro b hb
    unfold validV validP at hb
    by_cases h0 : k = 0
    · subst h0
      have HB := Lib.hid hb
      clear hb
      go_enter Try.func82, Try.ntmps82
      go_wp2
      all_goals
        have hb := HB.out
        go_ret
        exact ⟨by simp_all <;> first | (rw [← hb]; cases s.toList <;> rfl) | (rw [← hb, decide_eq_false (by omega)]; rfl), rfl⟩
    · by_cases h1 : k = 1
      · subst h1
        have HB := Lib.hid hb
        clear hb
        go_enter Try.func82, Try.ntmps82
        go_wp2_with (go_at_call 83; refine (within_any _ _ _ _).mono ?_; rintro e w' ⟨rfl, rfl⟩)
        all_goals
          have hb := HB.out
          go_ret
          exact ⟨by simp_all <;> first | (rw [← hb]; cases s.toList <;> rfl) | (rw [← hb, decide_eq_false (by omega)]; rfl), rfl⟩
      · by_cases h2 : k = 2
        · subst h2
          have HB := Lib.hid hb
          clear hb
          go_enter Try.func82, Try.ntmps82
          go_wp2
          all_goals
            have hb := HB.out
            go_ret
            exact ⟨by simp_all <;> first | (rw [← hb]; cases s.toList <;> rfl) | (rw [← hb, decide_eq_false (by omega)]; rfl), rfl⟩
        · have g0 : (k == 0) = false := by simpa using h0
          have g1 : (k == 1) = false := by simpa using h1
          have g2 : (k == 2) = false := by simpa using h2
          have hb' : b = false := by rw [← hb]; simp [h0, h1, h2]
          subst hb'
          clear hb h0 h1 h2
          go_enter Try.func82, Try.ntmps82
          go_wp2
          go_ret
          exact ⟨rfl, rfl⟩
  exact hv _ rfl
abbrev v0 : Val := (0, 0, ⟨#[]⟩)
/-- The slice reads as these values, in this world. -/
def ValsAt (W : World) (b off : Nat) (xs : List Val) : Prop :=
  ∀ i, i < xs.length → W.cell? ⟨b, off + i * 3, none⟩ = some (.int .i64 (xs[i]?.getD v0).1) ∧ W.cell? ⟨b, off + i * 3 + 1, none⟩ = some (.int .i64 (xs[i]?.getD v0).2.1) ∧ W.cell? ⟨b, off + i * 3 + 2, none⟩ = some (.string (xs[i]?.getD v0).2.2)
theorem ValsAt.belowV {n₀ b off : Nat} {W W' : World} {xs : List Val} (h : ValsAt W b off xs) (hb : Below n₀ W W') (hbk : b < n₀) : ValsAt W' b off xs := fun i hi =>
  ⟨(hb.cell (p := ⟨b, off + i * 3, none⟩) hbk).trans (h i hi).1, (hb.cell (p := ⟨b, off + i * 3 + 1, none⟩) hbk).trans (h i hi).2.1, (hb.cell (p := ⟨b, off + i * 3 + 2, none⟩) hbk).trans (h i hi).2.2⟩
/-- A row: where it has values, it has an address, and cells. -/
def ValsIn (W : World) (p : Option Addr) (xs : List Val) : Prop :=
  0 < xs.length → ∃ b off, p = some ⟨b, off, none⟩ ∧ b < W.heap.size ∧ ValsAt W b off xs
theorem ValsIn.belowV {p : Option Addr} {W W' : World} {xs : List Val} (h : ValsIn W p xs) (hb : Below W.heap.size W W') : ValsIn W' p xs := fun hp => by
  obtain ⟨b, off, e, hl, hr⟩ := h hp
  exact ⟨b, off, e, Nat.lt_of_lt_of_le hl hb.size, hr.belowV hb hl⟩
/-- .. in every world from one on. -/
def validVs (xs : List Val) : Bool := xs.all fun x => validV x.1 x.2.1 x.2.2
def validRow (xs : List Val) : Bool := decide (xs.length ≤ 8) && validVs xs
theorem validVs_next {xs : List Val} {i : Nat} (h : i < xs.length) : validVs (xs.take (i + 1)) = (validVs (xs.take i) && validV (xs[i]?.getD v0).1 (xs[i]?.getD v0).2.1 (xs[i]?.getD v0).2.2) := by
  rw [List.take_succ_eq_append_getElem h]; unfold validVs; rw [List.all_append]; simp [h]
theorem validVs_split (xs : List Val) (i : Nat) : validVs xs = (validVs (xs.take i) && validVs (xs.drop i)) := by
  unfold validVs; rw [← List.all_append, List.take_append_drop]
theorem validVs_stop {xs : List Val} {i : Nat} (h : validVs (xs.take i) = false) : validVs xs = false := by rw [validVs_split xs i, h]; rfl
theorem refVV_b (k n : Int) (s : ByteArray) (w : World) : Calls Try.prog 82 #[.agg #[.int .i64 k, .int .i64 n, .string s]] w fun e w' => e = .returned (.bool (validV k n s)) ∧ Below w.heap.size w w' :=
  (refValidValue_any k n s w).mono fun _ _ ⟨h1, h2⟩ => ⟨h1, by rw [h2]; exact (Below.refl _ _).alloc (Nat.le_refl _) _⟩
set_option maxRecDepth 100000 in
set_option maxHeartbeats 1000000 in
theorem rvValid_any (p : Option Addr) (xs : List Val) (cap : Nat) (hm : xs.length ≤ 9223372036854775807) (w : World) (hX : ValsIn w p xs) :
    Calls Try.prog 80 #[.slice p xs.length cap] w fun e w' => e = .returned (.bool (validRow xs)) ∧ Below w.heap.size w w' := by
  have HX := Lib.hid hX
  have HC := Lib.hid refVV_b
  have HW := Lib.hid within_any
  clear hX
  go_enter Try.func80, Try.ntmps80
  go_wp2_with fail
  go_loopw [3] (fun s wr => ∃ i : Nat, s = .int .i64 i ∧ i ≤ xs.length ∧ Hid (validVs (xs.take i) = true) ∧ Below w.heap.size w wr) (fun s _ => xs.length - (intOf s).toNat)
  case atStart => exact ⟨0, rfl, Nat.zero_le _, rfl, Below.refl _ _⟩
  case round =>
    obtain ⟨i, rfl, hi, hv, hB⟩ := hrel
    by_cases hlt : i < xs.length
    · obtain ⟨b, off, rfl, hbl, hra⟩ := HX.out (by omega)
      obtain ⟨c0, c1, c2⟩ := (hra.belowV hB hbl) i hlt
      have hnx := validVs_next hlt
      rw [hv.out, Bool.true_and] at hnx
      have hi0 : (0 : Int) ≤ (i : Int) := by omega
      have hi1 : (i : Int) < (xs.length : Int) := by omega
      clear hra
      generalize (xs[i]?.getD v0) = x at hnx c0 c1 c2
      obtain ⟨x0, x1, x2⟩ := x
      dsimp only at hnx c0 c1 c2
      have HC1 := fun W => HC.out x0 x1 x2 W
      cases hq : validV x0 x1 x2 with
      | true =>
        rw [hq] at HC1 hnx
        have HC2 := Lib.hid HC1
        have HNX := Lib.hid hnx
        clear HC1 hnx hq
        go_wp2_with fail
        refine (HC2.out _).mono ?_
        rintro e w' ⟨rfl, hb⟩
        go_wp2_with fail
        go_roundw
        case rel => exact ⟨i + 1, by go_num, by omega, HNX.out, hB.trans (hb.mono hB.size)⟩
        case measure => simp [intOf]; omega
      | false =>
        rw [hq] at HC1 hnx
        have HC2 := Lib.hid HC1
        have HNX := Lib.hid (validVs_stop hnx)
        clear HC1 hnx hq
        go_wp2_with fail
        refine (HC2.out _).mono ?_
        rintro e w' ⟨rfl, hb⟩
        go_wp2_with fail
        go_ret
        exact ⟨retB (by unfold validRow; rw [HNX.out, Bool.and_false]), hB.trans (hb.mono hB.size)⟩
    · have hge : xs.length ≤ i := by omega
      have hie : i = xs.length := by omega
      have hall : validVs xs = true := by have := hv.out; rw [hie, List.take_length] at this; exact this
      have HALL := Lib.hid hall
      clear hall hie
      by_cases h8 : (xs.length : Int) ≤ 8
      · go_wp2_with fail
        go_ret
        exact ⟨retB (by unfold validRow; rw [HALL.out, Bool.and_true, decide_eq_true (by omega)]), hB⟩
      · have h8' : decide ((xs.length : Int) ≤ 8) = false := by simpa using h8
        go_wp2_with fail
        go_ret
        exact ⟨retB (by unfold validRow; rw [HALL.out, Bool.and_true, decide_eq_false (by omega)]), hB⟩
/-- A row's slice: its address, its values, its capacity. -/
abbrev RowV := Option Addr × List Val × Nat
def rowv (r : RowV) : Value := .slice r.1 r.2.1.length r.2.2
abbrev r0 : RowV := (none, [], 0)
def RowOK (W : World) (r : RowV) : Prop := r.2.1.length ≤ 9223372036854775807 ∧ ValsIn W r.1 r.2.1
def RowsAt (W : World) (b off : Nat) (rs : List RowV) : Prop := ∀ i, i < rs.length → W.cell? ⟨b, off + i, none⟩ = some (rowv (rs[i]?.getD r0)) ∧ RowOK W (rs[i]?.getD r0)
theorem RowsAt.belowV {b off : Nat} {W W' : World} {rs : List RowV} (h : RowsAt W b off rs) (hb : Below W.heap.size W W') (hbk : b < W.heap.size) : RowsAt W' b off rs := fun i hi =>
  ⟨(hb.cell (p := ⟨b, off + i, none⟩) hbk).trans (h i hi).1, (h i hi).2.1, (h i hi).2.2.belowV hb⟩
def RowsIn (W : World) (p : Option Addr) (rs : List RowV) : Prop :=
  0 < rs.length → ∃ b off, p = some ⟨b, off, none⟩ ∧ b < W.heap.size ∧ RowsAt W b off rs
theorem RowsIn.belowV {p : Option Addr} {W W' : World} {rs : List RowV} (h : RowsIn W p rs) (hb : Below W.heap.size W W') : RowsIn W' p rs := fun hp => by
  obtain ⟨b, off, e, hl, hr⟩ := h hp
  exact ⟨b, off, e, Nat.lt_of_lt_of_le hl hb.size, hr.belowV hb hl⟩
def SomeBool (w : World) (e : Ending) (w' : World) : Prop := ∃ q : Bool, e = .returned (.bool q) ∧ w = w'
set_option maxRecDepth 100000 in
set_option maxHeartbeats 1000000 in
theorem Long_any (p : Option Addr) (rs : List RowV) (cap : Nat) (hm : rs.length ≤ 9223372036854775807) (w : World) (hX : RowsIn w p rs) :
    Calls Try.prog 46 #[.slice p rs.length cap] w (SomeBool w) := by
  have HX := Lib.hid hX
  clear hX
  go_enter Try.func46, Try.ntmps46
  go_wp2_with fail
  go_loop [3, 4] (fun t s => ∃ (n : Int) (i : Nat), t = .int .i64 n ∧ s = .int .i64 i ∧ i ≤ rs.length) (fun _ s => rs.length - (intOf s).toNat)
  case atStart => exact ⟨0, 0, rfl, rfl, Nat.zero_le _⟩
  case round =>
    obtain ⟨n, i, rfl, rfl, hi⟩ := hrel
    by_cases hlt : i < rs.length
    · obtain ⟨b, off, rfl, hbl, hra⟩ := HX.out (by omega)
      obtain ⟨c0, hrl, hrv⟩ := hra i hlt
      have hi0 : (0 : Int) ≤ (i : Int) := by omega
      have hi1 : (i : Int) < (rs.length : Int) := by omega
      clear hra
      generalize (rs[i]?.getD r0) = r at c0 hrl hrv
      obtain ⟨q, xs, rc⟩ := r
      dsimp only [rowv] at c0 hrl hrv
      have HRV := Lib.hid hrv
      clear hrv
      go_wp2_with fail
      go_loop [3, 5] (fun t s => ∃ (n : Int) (k : Nat), t = .int .i64 n ∧ s = .int .i64 k ∧ k ≤ xs.length) (fun _ s => xs.length - (intOf s).toNat)
      case atStart => exact ⟨_, 0, rfl, rfl, Nat.zero_le _⟩
      case round =>
        obtain ⟨n', k, rfl, rfl, hk⟩ := hrel
        by_cases hkl : k < xs.length
        · obtain ⟨b2, off2, rfl, hbl2, hra2⟩ := HRV.out (by omega)
          obtain ⟨_, _, d2⟩ := hra2 k hkl
          have hk0 : (0 : Int) ≤ (k : Int) := by omega
          have hk1 : (k : Int) < (xs.length : Int) := by omega
          clear hra2
          generalize (xs[k]?.getD v0).2.2 = x2 at d2
          go_wp2_with fail
          go_round
          case rel => exact ⟨_, k + 1, rfl, by go_num, by omega⟩
          case measure => simp [intOf]; omega
        · have hge : xs.length ≤ k := by omega
          go_wp2_with fail
          go_round
          case rel => exact ⟨_, i + 1, rfl, by go_num, by omega⟩
          case measure => simp [intOf]; omega
    · have hge : rs.length ≤ i := by omega
      go_wp2_with fail
      go_ret
      exact ⟨_, rfl, rfl⟩
def flatV (xs : List Val) : List Value := xs.flatMap cellsV
theorem flatV_app (xs ys : List Val) : flatV (xs ++ ys) = flatV xs ++ flatV ys := by simp [flatV]
theorem flatV_len (xs : List Val) : (flatV xs).length = xs.length * 3 := by
  induction xs with
  | nil => rfl
  | cons x xs ih => simp only [flatV, List.flatMap_cons, List.length_append, cellsV, List.length_cons, List.length_nil] at ih ⊢; omega
theorem flatV_get (xs : List Val) : ∀ i, i < xs.length → (flatV xs)[i * 3]? = some (.int .i64 (xs[i]?.getD v0).1) ∧ (flatV xs)[i * 3 + 1]? = some (.int .i64 (xs[i]?.getD v0).2.1) ∧ (flatV xs)[i * 3 + 2]? = some (.string (xs[i]?.getD v0).2.2) := by
  induction xs with
  | nil => intro i h; simp at h
  | cons x xs ih =>
    intro i h
    cases i with
    | zero => simp [flatV, cellsV]
    | succ i =>
      have := ih i (by simpa using h)
      rw [show (i + 1) * 3 = i * 3 + 3 by omega]
      simpa [flatV, cellsV] using this
theorem flatV_set : ∀ (xs : List Val) (i : Nat) (x : Val), flatV (xs.set i x) = (((flatV xs).set (i * 3) (.int .i64 x.1)).set (i * 3 + 1) (.int .i64 x.2.1)).set (i * 3 + 2) (.string x.2.2)
  | [], i, x => by simp [flatV]
  | w :: ws, 0, x => by simp [flatV, cellsV]
  | w :: ws, i + 1, x => by
    have h := flatV_set ws i x
    rw [show (i + 1) * 3 = i * 3 + 3 by omega]
    simp only [flatV, List.set_cons_succ, List.flatMap_cons, cellsV, List.cons_append, List.nil_append] at h ⊢
    rw [h]
theorem infoV : (Try.prog.info? 98).map (fun i => (i.zero, i.size, i.bytes)) = some (some (.agg #[.int .i64 0, .int .i64 0, .string ⟨#[]⟩]), 3, 32) := by kernel_rfl
abbrev OwnsV (W : World) (base : Nat) (v : Value) (xs : List Val) : Prop := W.ownsRow base 98 3 v xs.length (flatV xs)
theorem valsIn_of_owns {W : World} {base c : Nat} {p : Option Addr} {ys : List Val} (h : OwnsV W base (.slice p ys.length c) ys) : ValsIn W p ys := fun hp => by
  have hh := h
  rcases h.2 with ⟨h0, hn⟩ | ⟨g, cap, cur, he, _, hg, _⟩
  · omega
  · simp only [Value.slice.injEq, true_and] at he
    obtain ⟨rfl, rfl⟩ := he
    refine ⟨g, 0, rfl, (Array.getElem?_eq_some_iff.1 hg).1, fun i hi => ?_⟩
    obtain ⟨g0, g1, g2⟩ := flatV_get ys i hi
    simp only [Nat.zero_add]
    exact ⟨(hh.cellAt (i * 3) (by omega)).trans g0, (hh.cellAt (i * 3 + 1) (by omega)).trans g1, (hh.cellAt (i * 3 + 2) (by omega)).trans g2⟩
theorem slice_of_owns {W : World} {base n : Nat} {e : TypeId} {size : Nat} {v : Value} {xs : List Value} (h : W.ownsRow base e size v n xs) : ∃ p cap, v = .slice p n cap := by
  rcases h.2 with ⟨rfl, rfl⟩ | ⟨g, cap, cur, rfl, _⟩
  · exact ⟨none, 0, rfl⟩
  · exact ⟨_, cap, rfl⟩
/-- append of a row that came in, onto one of the call's own. -/
theorem wpList_append_vals {w : World} {ops : Array Oper} {rest : List Oper} {o : Oper} {a : Act} {Q : Exit → Act → World → Prop} (hgd : o.guard = none) (s x : Operand)
    (ho : o.op = .call { callee := .builtin .append, args := #[s, x], argTypes := #[53, 53] })
    (base : Nat) (v : Value) (n : Nat) (ys : List Value) (hs : a.eval s = v) (hown : w.ownsRow base 98 3 v n ys) (p : Option Addr) (xs : List Val) (cap : Nat) (hx : a.eval x = .slice p xs.length cap) (hX : ValsIn w p xs) (hz : p = none → cap = 0)
    (hn : n + xs.length ≤ 1000000) (hbase : base ≤ w.heap.size) (m : Nat) (hm : n + xs.length = m) (L : List Value) (hL : ys ++ flatV xs = L)
    (h : ∀ v' w', w'.ownsRow base 98 3 v' m L → Below base w w' → w.grownBy w' v.ownBlock → wpList Try.prog ops Q rest (a.put o.dst v') w') : wpList Try.prog ops Q (o :: rest) a w := by
  obtain ⟨i0, hi, hz0, hz1, hz2⟩ := info_parts infoV
  subst hm hL
  have hb : ∀ w', w.grownBy w' v.ownBlock → Below base w w' := fun w' hg => (Below.refl base w).grown hg hbase (fun k e => (hown.lt k e).1)
  rcases p with _ | ad
  · have hc := hz rfl
    subst hc
    have hxs : xs = [] := by
      cases xs with
      | nil => rfl
      | cons y ys => obtain ⟨_, _, h, _⟩ := hX (by simp); cases h
    subst hxs
    refine wpList_append_own_none hgd s x 53 ho base 98 i0 3 Try.underlying53 hi v n ys hs hown hx (h v w ?_ (Below.refl _ _) (World.grownBy.refl _ _))
    simpa [flatV] using hown
  · refine wpList_append_own _ hgd s x 53 ho base 98 i0 (.agg #[.int .i64 0, .int .i64 0, .string ⟨#[]⟩]) 3 32 Try.underlying53 hi hz0 hz1 hz2 rfl (by decide) v n ys hs hown ad xs.length cap (flatV xs) hx (flatV_len xs) ?_ ?_ (by unfold maxLen; omega) (by omega) hbase (fun v' w' h1 h2 _ => h v' w' h1 (hb w' h2) h2)
    · intro j u hu
      have hj : j < xs.length * 3 := by rw [← flatV_len]; exact (List.getElem?_eq_some_iff.1 hu).1
      obtain ⟨b, off, e, _, hra⟩ := hX (by omega)
      cases e
      rw [Go.WideShapes.add_plain]
      obtain ⟨g0, g1, g2⟩ := flatV_get xs (j / 3) (by omega)
      obtain ⟨c0, c1, c2⟩ := hra (j / 3) (by omega)
      have h3 : j % 3 = 0 ∨ j % 3 = 1 ∨ j % 3 = 2 := by omega
      rcases h3 with h3 | h3 | h3
      · have e : j / 3 * 3 = j := by omega
        rw [e] at g0 c0
        rw [c0, ← hu, g0]
      · have e : j / 3 * 3 + 1 = j := by omega
        rw [Nat.add_assoc, e] at c1
        rw [e] at g1
        rw [c1, ← hu, g1]
      · have e : j / 3 * 3 + 2 = j := by omega
        rw [Nat.add_assoc, e] at c2
        rw [e] at g2
        rw [c2, ← hu, g2]
    · intro u hu
      simp only [flatV, List.mem_flatMap, cellsV, List.mem_cons, List.not_mem_nil, or_false] at hu
      obtain ⟨y, _, rfl | rfl | rfl⟩ := hu <;> rfl
theorem neqV (a0 a1 : Int) (s : ByteArray) (w : World) :
    (binOp .neq 98 (.agg #[.int .i64 a0, .int .i64 a1, .string s]) (.agg #[.int .i64 a0, .int .i64 a1, .string s])).run Try.prog w = .ok (.bool false) w := by
  have uI := Try.underlying3
  have gI := Try.isAgg3
  have zI := Try.sizeOf3
  have uS := Try.underlying9
  have gS := Try.isAgg9
  have zS := Try.sizeOf9
  have hS : Try.prog.underlying 98 = some (.struct (Try.prog.fieldsOf 98)) := by kernel_rfl
  have hp : Try.prog.stoodInHeld 98 = false := by kernel_rfl
  rw [run_neq_struct, show (10000 : Nat) = 9999 + 1 from rfl, run_equalIn_agg w 9999 98 _ _ hS hp]
  simp only [Program.fieldsOf, Try.underlying98]
  go_simp
  try simp
theorem guardV : Try.prog.eqGuardType Try.prog.depth 98 = false := by kernel_rfl
set_option maxRecDepth 100000 in
set_option maxHeartbeats 1000000 in
theorem Same_any (p q : Option Addr) (xs : List Val) (c d n : Nat) (hn : n = xs.length) (hm : xs.length ≤ 9223372036854775807) (w : World) (hX : ValsIn w p xs) (hY : ValsIn w q xs) :
    Calls Try.prog 56 #[.slice p xs.length c, .slice q n d] w fun e w' => e = .returned (.bool true) ∧ Below w.heap.size w w' := by
  subst hn
  have HX := Lib.hid hX
  have HY := Lib.hid hY
  clear hX hY
  go_enter Try.func56, Try.ntmps56
  have hm0 := guardV
  go_wp2_with fail
  go_loopw [5] (fun s wr => ∃ i : Nat, i ≤ xs.length ∧ s = .int .i64 i ∧ Below w.heap.size w wr) (fun s _ => xs.length - (intOf s).toNat)
  case atStart => exact ⟨0, Nat.zero_le _, rfl, Below.refl _ _⟩
  case round =>
    obtain ⟨i, hi, rfl, hB⟩ := hrel
    by_cases hlt : i < xs.length
    · obtain ⟨b, off, rfl, hbl, hra⟩ := HX.out (by omega)
      obtain ⟨b2, off2, rfl, hbl2, hra2⟩ := HY.out (by omega)
      obtain ⟨c0, c1, c2⟩ := (hra.belowV hB hbl) i hlt
      obtain ⟨d0, d1, d2⟩ := (hra2.belowV hB hbl2) i hlt
      have hi0 : (0 : Int) ≤ (i : Int) := by omega
      have hi1 : (i : Int) < (xs.length : Int) := by omega
      clear hra hra2
      generalize (xs[i]?.getD v0) = x at c0 c1 c2 d0 d1 d2
      obtain ⟨x0, x1, x2⟩ := x
      dsimp only at c0 c1 c2 d0 d1 d2
      have hq := fun W => neqV x0 x1 x2 W
      go_wp2_with fail
      go_quiet (fail)
      go_wp2_with fail
      go_roundw
      case rel => exact ⟨i + 1, by omega, by go_num, ⟨hB.os, hB.tape, hB.output, hB.size, hB.block⟩⟩
      case measure => simp [intOf]; omega
    · have hge : xs.length ≤ i := by omega
      go_wp2_with fail
      go_ret
      exact ⟨rfl, hB⟩
theorem rowOK_of_owns {W : World} {B : Nat} {r : RowV} (h : OwnsV W B (rowv r) r.2.1) (hl : r.2.1.length ≤ 9223372036854775807) : RowOK W r ∧ (r.1 = none → r.2.2 = 0) := by
  obtain ⟨p, xs, c⟩ := r
  refine ⟨⟨hl, valsIn_of_owns h⟩, fun e => ?_⟩
  dsimp only at e
  subst e
  rcases h.2 with ⟨e, _⟩ | ⟨g, cap, cur, e, _⟩
  · simp only [rowv, Value.slice.injEq] at e; exact e.2.2
  · simp [rowv] at e
/-- A copy of a row, of the call's own. -/
def OwnRowPost (w : World) (xs : List Val) (e : Ending) (w' : World) : Prop := ∃ r : RowV, e = .returned (rowv r) ∧ r.2.1 = xs ∧ OwnsV w' w.heap.size (rowv r) xs ∧ Below w.heap.size w w'
set_option maxRecDepth 100000 in
set_option maxHeartbeats 1000000 in
theorem Own_any (p : Option Addr) (xs : List Val) (cap : Nat) (hm : xs.length ≤ 100000) (w : World) (hX : ValsIn w p xs) (hz : p = none → cap = 0) :
    Calls Try.prog 71 #[.slice p xs.length cap] w (OwnRowPost w xs) := by
  have hbA : Below w.heap.size w (w.alloc (.cells #[] 98)) := (Below.refl _ _).alloc (Nat.le_refl _) _
  have hown : (w.alloc (.cells #[] 98)).ownsRow w.heap.size 98 3 (.slice (some ⟨w.heap.size, 0, none⟩) 0 0) 0 [] := World.ownsRow_made w #[] 0 (Nat.le_refl _) (Nat.zero_le _) rfl
  have HX := Lib.hid (hX.belowV hbA)
  have HZ := Lib.hid hz
  have HOW := Lib.hid hown
  clear hX hz hown
  go_enter Try.func71, Try.ntmps71
  go_wp2_with (at_builtin; refine wpList_append_vals rfl _ _ rfl w.heap.size _ 0 [] rfl HOW.out p xs cap rfl HX.out HZ.out (by omega) (by simp) xs.length (by omega) (flatV xs) (List.nil_append _) ?_; intro v' w5 hown' hb5 _)
  go_ret
  obtain ⟨p2, c2, rfl⟩ := slice_of_owns hown'
  exact ⟨(p2, xs, c2), rfl, rfl, hown', hbA.trans hb5⟩
def CloneO (w : World) (xs : List Val) (e : Ending) (w' : World) : Prop := ∃ r : RowV, e = .returned (rowv r) ∧ r.2.1 = xs ∧ OwnsV w' w.heap.size (rowv r) xs ∧ Below w.heap.size w w'
theorem cloneO_of {w w' : World} {v : Value} {xs : List Val} (h : OwnsV w' w.heap.size v xs) (hb : Below w.heap.size w w') : CloneO w xs (.returned v) w' := by
  obtain ⟨p, c, rfl⟩ := slice_of_owns h
  exact ⟨(p, xs, c), rfl, rfl, h, hb⟩
set_option maxRecDepth 100000 in
set_option maxHeartbeats 1000000 in
theorem cloneO_any (p : Option Addr) (xs : List Val) (cap : Nat) (hm : xs.length ≤ 100000) (w : World) (hX : ValsIn w p xs) (hz : p = none → cap = 0) :
    Calls Try.prog 69 #[.slice p xs.length cap] w (CloneO w xs) := by
  have q22 : ∀ (w : World) (a : Option Addr) (n c : Nat), (binOp .eql 53 (.slice a n c) (.slice none 0 0)).run Try.prog w = .ok (.bool a.isNone) w := fun w a n c => Lib.run_eql_slice_nil w _ _ a n c 0 0 Try.underlying53
  cases p with
  | none =>
    have hx0 : xs = [] := by
      cases xs with
      | nil => rfl
      | cons x xs => obtain ⟨_, _, e, _⟩ := hX (by simp); cases e
    subst hx0
    clear hX hz
    go_enter Try.func69, Try.ntmps69
    go_wp2_with fail
    go_ret
    exact ⟨(none, [], 0), rfl, rfl, World.ownsRow_nil _ _ _ _, Below.refl _ _⟩
  | some ad =>
    have hbA : Below w.heap.size w (w.alloc (.cells #[] 98)) := (Below.refl _ _).alloc (Nat.le_refl _) _
    have hown : (w.alloc (.cells #[] 98)).ownsRow w.heap.size 98 3 (.slice (some ⟨w.heap.size, 0, none⟩) 0 0) 0 [] := World.ownsRow_made w #[] 0 (Nat.le_refl _) (Nat.zero_le _) rfl
    have HX := Lib.hid (hX.belowV hbA)
    have HOW := Lib.hid hown
    clear hX hz hown
    go_enter Try.func69, Try.ntmps69
    go_wp2_with (at_builtin; refine wpList_append_vals rfl _ _ rfl w.heap.size _ 0 [] rfl HOW.out (some ad) xs cap rfl HX.out (fun e => by cases e) (by omega) (by simp) xs.length (by omega) (flatV xs) (List.nil_append _) ?_; intro v' w5 hown' hb5 _)
    go_ret
    exact cloneO_of hown' (hbA.trans hb5)
end Go.Proofs.Ytmnbcofonhlplaa
