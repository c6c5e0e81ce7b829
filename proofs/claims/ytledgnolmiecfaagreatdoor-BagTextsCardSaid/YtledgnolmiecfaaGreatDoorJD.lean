/-
  Several texts in one.
-/
import Derived.Test.YtledgnolmiecfaaGreatDoorJC
/-!
  Number and digit of the document's own rows, as contracts.
-/
namespace Go.Proofs.YtledgnolmiecfaaGreatDoor
open Go.RowKit Go.Lib
set_option linter.unusedSimpArgs false
set_option linter.unusedVariables false

/-! Numbers. -/
def numGo : List UInt8 → Int → Nat → Option Int
  | [], acc, _ => some acc
  | c :: r, acc, k =>
    if c.toNat < 48 ∨ 57 < c.toNat then none
    else if 18 ≤ k then none
    else numGo r (IntKind.i64.wrap (IntKind.i64.wrap (10 * acc) + ((c.toNat : Int) - 48))) (k + 1)
def numFrom (l : List UInt8) : Nat := if l.head? = some 45 then 1 else 0
def numOut (f len : Nat) : Option Int → Int × Bool
  | none => (0, false)
  | some n => (if f = 1 then IntKind.i64.wrap (-n) else n, decide (f < len))
def numVal (l : List UInt8) : Int × Bool := numOut (numFrom l) l.length (numGo (l.drop (numFrom l)) 0 0)
theorem num_dec (u : Nat) : ∀ (r : List UInt8) (k : Nat), u < 10 ^ (k + 1) → k < 18 → ∃ j, j ≤ k + 1 ∧ numGo (decDigits u ++ r) 0 0 = numGo r u j := by
  induction u using Nat.strongRecOn with
  | ind u ih =>
    intro r k hu hk
    have h18 : (10 : Nat) ^ (k + 1) ≤ 10 ^ 18 := Nat.pow_le_pow_right (by omega) (by omega)
    have hb : u < 1000000000000000000 := Nat.lt_of_lt_of_le hu h18
    rw [decDigits]
    split
    · rename_i h
      have e := dig_nat h
      refine ⟨1, by omega, ?_⟩
      simp only [List.cons_append, List.nil_append, numGo, e]
      rw [if_neg (by omega), if_neg (by omega)]
      congr 1
      rw [IntKind.wrap_i64, IntKind.wrap_i64] <;> (try rw [IntKind.wrap_i64]) <;> omega
    · rename_i h
      have e := dig_nat (d := u % 10) (by omega)
      cases k with
      | zero => omega
      | succ k =>
        have hd : u / 10 < 10 ^ (k + 1) := by
          rw [Nat.div_lt_iff_lt_mul (by omega), ← Nat.pow_succ]; exact hu
        obtain ⟨j, hj, hg⟩ := ih (u / 10) (by omega) ([UInt8.ofNat (48 + u % 10)] ++ r) k hd (by omega)
        refine ⟨j + 1, by omega, ?_⟩
        rw [List.append_assoc, hg]
        simp only [List.cons_append, List.nil_append, numGo, e]
        rw [if_neg (by omega), if_neg (by omega)]
        congr 1
        rw [IntKind.wrap_i64, IntKind.wrap_i64] <;> (try rw [IntKind.wrap_i64]) <;> omega
theorem num_dec_all {u : Nat} (h : u < 1000000000000000000) : numGo (decDigits u) 0 0 = some (u : Int) := by
  obtain ⟨j, _, hg⟩ := num_dec u [] 17 h (by omega)
  rw [List.append_nil] at hg
  rw [hg]
  rfl
theorem num_itoa {n : Int} (h0 : -1000000000000000000 < n) (h1 : n < 1000000000000000000) : numVal (itoa n) = (n, true) := by
  unfold itoa
  split
  · have hf : numFrom (45 :: decDigits n.natAbs) = 1 := by simp [numFrom]
    have hne := dec_ne n.natAbs
    have hl : 0 < (decDigits n.natAbs).length := List.length_pos_iff.2 hne
    unfold numVal
    rw [hf]
    simp only [List.drop_succ_cons, List.drop_zero]
    rw [num_dec_all (by omega)]
    simp only [numOut, if_true, List.length_cons]
    rw [IntKind.wrap_i64, decide_eq_true (by omega)]
    congr 1
    omega
  · have hd := dec_digit n.toNat
    have hne := dec_ne n.toNat
    have hl : 0 < (decDigits n.toNat).length := List.length_pos_iff.2 hne
    have hf : numFrom (decDigits n.toNat) = 0 := by
      unfold numFrom
      rw [if_neg]
      intro h
      cases hq : decDigits n.toNat with
      | nil => exact hne hq
      | cons c r =>
        rw [hq] at h hd
        simp only [List.head?_cons, Option.some.injEq] at h
        have := hd c (by simp)
        subst h
        revert this
        decide
    unfold numVal
    rw [hf, List.drop_zero, num_dec_all (by omega)]
    simp only [numOut]
    rw [if_neg (by omega), decide_eq_true hl]
    congr 1
    omega
theorem drop_at {s : ByteArray} {i : Nat} (h : i < s.size) : s.data.toList.drop i = s[i] :: s.data.toList.drop (i + 1) := by
  have hl : i < s.data.toList.length := by simpa using h
  rw [List.drop_eq_getElem_cons hl]
  rfl
theorem head_at {s : ByteArray} (h : 0 < s.size) : s.data.toList.head? = some s[0] := by
  have := drop_at (s := s) (i := 0) h
  rw [List.drop_zero] at this
  rw [this]
  rfl

theorem wrapEq (x : Int) : IntKind.i64.wrap x = wrap64 x := by rw [IntKind.wrap_i64, wrap64]
theorem numOut_one (len : Nat) (n : Int) : numOut 1 len (some n) = (wrap64 (-n), decide ((1 : Int) < (len : Int))) := by
  show ((if 1 = 1 then IntKind.i64.wrap (-n) else n), decide (1 < len)) = _
  rw [if_pos rfl, wrapEq]
  congr 1
  rw [decide_eq_decide]
  omega
theorem numOut_zero {len : Nat} (h : 0 < len) (n : Int) : numOut 0 len (some n) = (n, true) := by
  show ((if 0 = 1 then IntKind.i64.wrap (-n) else n), decide (0 < len)) = _
  rw [if_neg (by omega), decide_eq_true h]
theorem numOut_none {len : Nat} (h : len = 0) (n : Int) : numOut 0 len (some n) = (n, false) := by
  show ((if 0 = 1 then IntKind.i64.wrap (-n) else n), decide (0 < len)) = _
  rw [if_neg (by omega), decide_eq_false (by omega)]
def NumPost (f len : Nat) (R : Option Int) (w : World) (e : Ending) (w' : World) : Prop := e = .returned (.tuple #[.int .i64 (numOut f len R).1, .bool (numOut f len R).2]) ∧ w = w'
set_option maxRecDepth 100000 in
set_option maxHeartbeats 1000000 in
theorem refNumber_any (s : ByteArray) (hs : s.size ≤ 1000000) (w : World) :
    Calls Tryz.prog 28 #[.string s] w fun e w' => e = .returned (.tuple #[.int .i64 (numVal s.data.toList).1, .bool (numVal s.data.toList).2]) ∧ w = w' := by
  have hsl : s.data.toList.length = s.size := by simp
  show Calls _ _ _ w (NumPost (numFrom s.data.toList) s.data.toList.length (numGo (s.data.toList.drop (numFrom s.data.toList)) 0 0) w)
  rw [hsl]
  obtain ⟨f, hf⟩ : ∃ f, f = numFrom s.data.toList := ⟨_, rfl⟩
  obtain ⟨R, hR⟩ : ∃ R, R = numGo (s.data.toList.drop f) 0 0 := ⟨_, rfl⟩
  rw [← hf, ← hR]
  have HR := Lib.hid hR
  have hfl : f ≤ s.size ∧ f ≤ 1 := by
    rw [hf]; unfold numFrom
    split
    · rename_i h
      have : s.data.toList ≠ [] := fun e => by rw [e] at h; cases h
      have := List.length_pos_iff.2 this
      omega
    · omega
  have HFL := Lib.hid hfl
  have HSZ := Lib.hid hs
  clear hfl hR
  by_cases h0 : s.size = 0
  · obtain rfl : f = 0 := by have := HFL.out; omega
    have h0' : (s.size : Int) = 0 := by omega
    clear hf hsl
    go_enter Tryz.func28, Tryz.ntmps28
    go_wp2_with fail
    go_loop [5, 6] (fun a t => ∃ (i : Nat) (acc : Int), a = .int .i64 acc ∧ t = .int .i64 i ∧ 0 ≤ i ∧ i ≤ s.size ∧ Hid (numGo (s.data.toList.drop i) acc (i - 0) = R)) (fun _ t => s.size - (RowKit.intOf t).toNat)
    case atStart => exact ⟨0, 0, rfl, rfl, Nat.le_refl _, HFL.out.1, HR.out.symm⟩
    case round =>
      obtain ⟨i, acc, rfl, rfl, hfi, hin, HG⟩ := hrel
      by_cases hlt : i < s.size
      · exact absurd hlt (by omega)
      · have hie : i = s.size := by omega
        have hG := HG.out
        rw [hie, List.drop_eq_nil_of_le (by simp), numGo] at hG
        have HO := Lib.hid hG.symm
        clear hG HG hie
        go_wp2_with fail
        go_ret2
        exact ⟨by rw [HO.out, numOut_none (by omega)]; rfl, rfl⟩
  have h0' : (0 : Int) < (s.size : Int) := by omega
  have hp : 0 < s.size := by omega
  by_cases h45 : s[0].toNat = 45
  · obtain rfl : f = 1 := by
      rw [hf]; unfold numFrom
      rw [if_pos]
      rw [head_at hp]
      exact congrArg some (UInt8.toNat_inj.1 h45)
    have e45 : ((s[0].toNat : Int) == 45) = true := by rw [h45]; rfl
    clear hf hsl h0 h45
    go_enter Tryz.func28, Tryz.ntmps28
    go_wp2_with fail
    go_loop [5, 6] (fun a t => ∃ (i : Nat) (acc : Int), a = .int .i64 acc ∧ t = .int .i64 i ∧ 1 ≤ i ∧ i ≤ s.size ∧ Hid (numGo (s.data.toList.drop i) acc (i - 1) = R)) (fun _ t => s.size - (RowKit.intOf t).toNat)
    case atStart => exact ⟨1, 0, rfl, rfl, Nat.le_refl _, HFL.out.1, HR.out.symm⟩
    case round =>
      obtain ⟨i, acc, rfl, rfl, hfi, hin, HG⟩ := hrel
      by_cases hlt : i < s.size
      · have hi0 : (0 : Int) ≤ (i : Int) := by omega
        have hi1 : (i : Int) < (s.size : Int) := by omega
        have hG := HG.out
        rw [drop_at hlt, numGo] at hG
        have hs6 := HSZ.out
        clear HG
        generalize hc : s[i].toNat = c at hG
        by_cases c1 : c < 48
        · have hO := hG
          rw [if_pos (.inl c1)] at hO
          have HO := Lib.hid hO.symm
          have d1 : decide ((s[i].toNat : Int) < 48) = true := by rw [hc]; exact decide_eq_true (by omega)
          clear hG hO c1 hc hs6
          go_wp2_with fail
          go_ret2
          exact ⟨by rw [HO.out]; rfl, rfl⟩
        by_cases c2 : 57 < c
        · have hO := hG
          rw [if_pos (.inr c2)] at hO
          have HO := Lib.hid hO.symm
          have d1 : decide ((s[i].toNat : Int) < 48) = false := by rw [hc]; exact decide_eq_false (by omega)
          have d2 : decide (57 < (s[i].toNat : Int)) = true := by rw [hc]; exact decide_eq_true (by omega)
          clear hG hO c1 c2 hc hs6
          go_wp2_with fail
          go_ret2
          exact ⟨by rw [HO.out]; rfl, rfl⟩
        · rw [if_neg (by omega)] at hG
          have d1 : decide ((s[i].toNat : Int) < 48) = false := by rw [hc]; exact decide_eq_false (by omega)
          have d2 : decide (57 < (s[i].toNat : Int)) = false := by rw [hc]; exact decide_eq_false (by omega)
          have u1 : IntKind.u8.wrap ((s[i].toNat : Int) - 48) = (s[i].toNat : Int) - 48 := by rw [hc, IntKind.wrap_u8]; omega
          have u2 : IntKind.i64.wrap ((s[i].toNat : Int) - 48) = (s[i].toNat : Int) - 48 := by rw [hc, IntKind.wrap_i64]; omega
          have q9 : IntKind.i64.wrap ((i : Int) - 1) = (i : Int) - 1 := by rw [IntKind.wrap_i64]; omega
          rw [← hc] at hG
          by_cases c3 : 18 ≤ i - 1
          · rw [if_pos c3] at hG
            have HO := Lib.hid hG.symm
            have d3 : decide (18 ≤ (i : Int) - 1) = true := decide_eq_true (by omega)
            clear hG c1 c2 c3 hc hs6
            go_wp2_with fail
            go_ret2
            exact ⟨by rw [HO.out]; rfl, rfl⟩
          · rw [if_neg c3] at hG
            simp only [wrapEq] at hG
            have HN := Lib.hid hG
            have d3 : decide (18 ≤ (i : Int) - 1) = false := decide_eq_false (by omega)
            clear hG c1 c2 c3 hc
            go_wp2_with fail
            go_round
            case rel => exact ⟨i + 1, _, rfl, by go_num, by omega, by omega, by rw [show i + 1 - 1 = i - 1 + 1 by omega]; exact HN.out⟩
            case measure => simp [RowKit.intOf]; omega
      · have hie : i = s.size := by omega
        have hG := HG.out
        rw [hie, List.drop_eq_nil_of_le (by simp), numGo] at hG
        have HO := Lib.hid hG.symm
        clear hG HG hie
        go_wp2_with fail
        go_ret2
        exact ⟨by rw [HO.out, numOut_one]; rfl, rfl⟩
  · obtain rfl : f = 0 := by
      rw [hf]; unfold numFrom
      rw [if_neg]
      rw [head_at hp]
      intro h
      exact h45 (by rw [Option.some.inj h]; rfl)
    have e45 : ((s[0].toNat : Int) == 45) = false := by rw [beq_eq_false_iff_ne]; omega
    clear hf hsl h0 h45
    go_enter Tryz.func28, Tryz.ntmps28
    go_wp2_with fail
    go_loop [5, 6] (fun a t => ∃ (i : Nat) (acc : Int), a = .int .i64 acc ∧ t = .int .i64 i ∧ 0 ≤ i ∧ i ≤ s.size ∧ Hid (numGo (s.data.toList.drop i) acc (i - 0) = R)) (fun _ t => s.size - (RowKit.intOf t).toNat)
    case atStart => exact ⟨0, 0, rfl, rfl, Nat.le_refl _, HFL.out.1, HR.out.symm⟩
    case round =>
      obtain ⟨i, acc, rfl, rfl, hfi, hin, HG⟩ := hrel
      by_cases hlt : i < s.size
      · have hi0 : (0 : Int) ≤ (i : Int) := by omega
        have hi1 : (i : Int) < (s.size : Int) := by omega
        have hG := HG.out
        rw [drop_at hlt, numGo] at hG
        have hs6 := HSZ.out
        clear HG
        generalize hc : s[i].toNat = c at hG
        by_cases c1 : c < 48
        · have hO := hG
          rw [if_pos (.inl c1)] at hO
          have HO := Lib.hid hO.symm
          have d1 : decide ((s[i].toNat : Int) < 48) = true := by rw [hc]; exact decide_eq_true (by omega)
          clear hG hO c1 hc hs6
          go_wp2_with fail
          go_ret2
          exact ⟨by rw [HO.out]; rfl, rfl⟩
        by_cases c2 : 57 < c
        · have hO := hG
          rw [if_pos (.inr c2)] at hO
          have HO := Lib.hid hO.symm
          have d1 : decide ((s[i].toNat : Int) < 48) = false := by rw [hc]; exact decide_eq_false (by omega)
          have d2 : decide (57 < (s[i].toNat : Int)) = true := by rw [hc]; exact decide_eq_true (by omega)
          clear hG hO c1 c2 hc hs6
          go_wp2_with fail
          go_ret2
          exact ⟨by rw [HO.out]; rfl, rfl⟩
        · rw [if_neg (by omega)] at hG
          have d1 : decide ((s[i].toNat : Int) < 48) = false := by rw [hc]; exact decide_eq_false (by omega)
          have d2 : decide (57 < (s[i].toNat : Int)) = false := by rw [hc]; exact decide_eq_false (by omega)
          have u1 : IntKind.u8.wrap ((s[i].toNat : Int) - 48) = (s[i].toNat : Int) - 48 := by rw [hc, IntKind.wrap_u8]; omega
          have u2 : IntKind.i64.wrap ((s[i].toNat : Int) - 48) = (s[i].toNat : Int) - 48 := by rw [hc, IntKind.wrap_i64]; omega
          have q9 : IntKind.i64.wrap ((i : Int) - 0) = (i : Int) := by rw [IntKind.wrap_i64]; omega
          have q8 : IntKind.i64.wrap (i : Int) = (i : Int) := by rw [IntKind.wrap_i64]; omega
          rw [← hc] at hG
          by_cases c3 : 18 ≤ i - 0
          · rw [if_pos c3] at hG
            have HO := Lib.hid hG.symm
            have d3 : decide (18 ≤ (i : Int)) = true := decide_eq_true (by omega)
            clear hG c1 c2 c3 hc hs6
            go_wp2_with fail
            go_ret2
            exact ⟨by rw [HO.out]; rfl, rfl⟩
          · rw [if_neg c3] at hG
            simp only [wrapEq] at hG
            have HN := Lib.hid hG
            have d3 : decide (18 ≤ (i : Int)) = false := decide_eq_false (by omega)
            clear hG c1 c2 c3 hc
            go_wp2_with fail
            go_round
            case rel => exact ⟨i + 1, _, rfl, by go_num, by omega, by omega, by rw [show i + 1 - 0 = i - 0 + 1 by omega]; exact HN.out⟩
            case measure => simp [RowKit.intOf]; omega
      · have hie : i = s.size := by omega
        have hG := HG.out
        rw [hie, List.drop_eq_nil_of_le (by simp), numGo] at hG
        have HO := Lib.hid hG.symm
        clear hG HG hie
        go_wp2_with fail
        go_ret2
        exact ⟨by rw [HO.out, numOut_zero hp]; rfl, rfl⟩
end Go.Proofs.YtledgnolmiecfaaGreatDoor

/-!
  What the document's own reader makes of a byte between quotes, plain; digit.
-/
namespace Go.Proofs.YtledgnolmiecfaaGreatDoor
open Go.RowKit Go.Lib
set_option linter.unusedSimpArgs false
set_option linter.unusedVariables false

def digN (c : UInt8) : Int := if 48 ≤ c.toNat ∧ c.toNat ≤ 57 then (c.toNat : Int) - 48 else if 97 ≤ c.toNat ∧ c.toNat ≤ 102 then (c.toNat : Int) - 87 else -1
def docDec (l : List UInt8) : Option (UInt8 × List UInt8) :=
  match l with
  | [] => none
  | c :: r => if c = 92 then (match r with
      | [] => none
      | d :: s => if d = 110 then some (10, s) else if d = 34 ∨ d = 92 then some (d, s) else if d = 120 then (match s with
          | a :: b :: q => if 0 ≤ digN a ∧ 0 ≤ digN b then some (UInt8.ofNat (16 * digN a + digN b).toNat, q) else none
          | _ => none) else none) else some (c, r)
theorem dig_hex : ∀ n : Nat, n < 16 → digN (UInt8.ofNat (hexd n)) = n := by decide +kernel
theorem docDec_q (c : UInt8) (r : List UInt8) : docDec (qB c ++ r) = some (c, r) := by
  unfold qB
  split
  · rename_i hc
    have e1 : c ≠ 110 := fun e => by subst e; exact absurd hc (by decide)
    have e2 : c = 34 ∨ c = 92 := hc.elim (fun h => .inl (UInt8.toNat_inj.1 h)) (fun h => .inr (UInt8.toNat_inj.1 h))
    simp [docDec, e1, e2]
  · rename_i hc
    split
    · rename_i h10
      have : c = 10 := UInt8.toNat_inj.1 h10
      subst this
      rfl
    · split
      · have h1 := dig_hex (c.toNat / 16) (by have := c.toNat_lt; omega)
        have h2 := dig_hex (c.toNat % 16) (by omega)
        have h3 : (UInt8.ofNat (16 * ((c.toNat / 16 : Nat) : Int) + ((c.toNat % 16 : Nat) : Int)).toNat) = c := by
          rw [show (16 * ((c.toNat / 16 : Nat) : Int) + ((c.toNat % 16 : Nat) : Int)).toNat = c.toNat by omega]
          exact UInt8.ofNat_toNat
        simp only [docDec, List.cons_append, List.nil_append]
        rw [h1, h2, h3]
        simp
        omega
      · have e1 : c ≠ 92 := fun e => by subst e; exact hc (by decide)
        simp [docDec, e1]
theorem q_head (c : UInt8) (r : List UInt8) : (qB c ++ r).head? ≠ some 34 := by
  have := q_first c r
  intro h
  cases hq : qB c ++ r with
  | nil => rw [hq] at h; cases h
  | cons d q =>
    rw [hq] at h this
    simp only [List.head?_cons, Option.some.injEq] at h
    subst h
    simp [Lib.hasPrefix, List.isPrefixOf] at this
/-- How far a text between quotes has been read: what is read and what is left agree with whatever it is the text of. -/
def ReadQ (t l u : List UInt8) : Prop := ∀ L r, t = quoted L ++ r → ∃ M, L = l ++ M ∧ u = M.flatMap qB ++ 34 :: r
theorem readQ_start (c : UInt8) (u : List UInt8) : ReadQ (c :: u) [] u := fun L r h => by
  unfold quoted at h
  simp only [List.cons_append, List.cons.injEq, List.append_assoc] at h
  exact ⟨L, rfl, h.2⟩
theorem readQ_step {t l u u' : List UInt8} {c : UInt8} (h : ReadQ t l u) (hn : u.head? ≠ some 34) (hd : docDec u = some (c, u')) : ReadQ t (l ++ [c]) u' := fun L r e => by
  obtain ⟨M, rfl, hu⟩ := h L r e
  cases M with
  | nil => rw [hu] at hn; exact absurd rfl hn
  | cons d M =>
    rw [List.flatMap_cons, List.append_assoc] at hu
    rw [hu, docDec_q] at hd
    simp only [Option.some.injEq, Prod.mk.injEq] at hd
    obtain ⟨rfl, rfl⟩ := hd
    exact ⟨M, by simp, rfl⟩
theorem readQ_none {t l u : List UInt8} (h : ReadQ t l u) (hn : u.head? ≠ some 34) (hd : docDec u = none) (L r : List UInt8) : t ≠ quoted L ++ r := fun e => by
  obtain ⟨M, rfl, hu⟩ := h L r e
  cases M with
  | nil => rw [hu] at hn; exact absurd rfl hn
  | cons d M =>
    rw [List.flatMap_cons, List.append_assoc] at hu
    rw [hu, docDec_q] at hd
    cases hd
theorem readQ_end {t l : List UInt8} (h : ReadQ t l []) (L r : List UInt8) : t ≠ quoted L ++ r := fun e => by
  obtain ⟨M, rfl, hu⟩ := h L r e
  exact absurd hu (by simp)
theorem readQ_shut {t l u : List UInt8} (h : ReadQ t l (34 :: u)) (L r : List UInt8) (e : t = quoted L ++ r) : L = l ∧ r = u := by
  obtain ⟨M, rfl, hu⟩ := h L r e
  cases M with
  | nil => simp at hu; exact ⟨by simp, hu.symm⟩
  | cons d M =>
    rw [List.flatMap_cons, List.append_assoc] at hu
    have := q_head d (M.flatMap qB ++ 34 :: r)
    rw [← hu] at this
    exact absurd rfl this

set_option maxRecDepth 100000 in
theorem digit_any (c : UInt8) (w : World) :
    Calls Tryz.prog 91 #[.int .u8 (c.toNat : Int)] w fun e w' => e = .returned (.int .i64 (digN c)) ∧ w = w' := by
  have hc := c.toNat_lt
  unfold digN
  by_cases h1 : 48 ≤ c.toNat
  · by_cases h2 : c.toNat ≤ 57
    · rw [if_pos ⟨h1, h2⟩]
      have g1 : (48 : Int) ≤ (c.toNat : Int) := by omega
      have g2 : (c.toNat : Int) ≤ 57 := by omega
      have u1 : IntKind.u8.wrap ((c.toNat : Int) - 48) = (c.toNat : Int) - 48 := by rw [IntKind.wrap_u8]; omega
      have u2 : IntKind.i64.wrap ((c.toNat : Int) - 48) = (c.toNat : Int) - 48 := by rw [IntKind.wrap_i64]; omega
      go_enter Tryz.func91, Tryz.ntmps91
      go_wp2_with fail
      go_ret
      exact ⟨rfl, rfl⟩
    · rw [if_neg (by omega)]
      have g1 : (48 : Int) ≤ (c.toNat : Int) := by omega
      have g2 : ¬ (c.toNat : Int) ≤ 57 := by omega
      by_cases h3 : 97 ≤ c.toNat
      · have g3 : (97 : Int) ≤ (c.toNat : Int) := by omega
        by_cases h4 : c.toNat ≤ 102
        · rw [if_pos ⟨h3, h4⟩]
          have g4 : (c.toNat : Int) ≤ 102 := by omega
          have u1 : IntKind.u8.wrap ((c.toNat : Int) - 97) = (c.toNat : Int) - 97 := by rw [IntKind.wrap_u8]; omega
          have u2 : IntKind.i64.wrap ((c.toNat : Int) - 97) = (c.toNat : Int) - 97 := by rw [IntKind.wrap_i64]; omega
          have u3 : IntKind.i64.wrap ((c.toNat : Int) - 97 + 10) = (c.toNat : Int) - 87 := by rw [IntKind.wrap_i64]; omega
          have u4 : wrap64 ((c.toNat : Int) - 97 + 10) = (c.toNat : Int) - 87 := by unfold wrap64; omega
          go_enter Tryz.func91, Tryz.ntmps91
          go_wp2_with fail
          go_ret
          exact ⟨by first | rfl | (simp only [u1, u2, u3, u4]), rfl⟩
        · rw [if_neg (by omega)]
          have g4 : ¬ (c.toNat : Int) ≤ 102 := by omega
          go_enter Tryz.func91, Tryz.ntmps91
          go_wp2_with fail
          go_ret
          exact ⟨rfl, rfl⟩
      · rw [if_neg (by omega)]
        have g3 : ¬ (97 : Int) ≤ (c.toNat : Int) := by omega
        go_enter Tryz.func91, Tryz.ntmps91
        go_wp2_with fail
        go_ret
        exact ⟨rfl, rfl⟩
  · rw [if_neg (by omega), if_neg (by omega)]
    have g1 : ¬ (48 : Int) ≤ (c.toNat : Int) := by omega
    have g3 : ¬ (97 : Int) ≤ (c.toNat : Int) := by omega
    go_enter Tryz.func91, Tryz.ntmps91
    go_wp2_with fail
    go_ret
    exact ⟨rfl, rfl⟩
end Go.Proofs.YtledgnolmiecfaaGreatDoor

