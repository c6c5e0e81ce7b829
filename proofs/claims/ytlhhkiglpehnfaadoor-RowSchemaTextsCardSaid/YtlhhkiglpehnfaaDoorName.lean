/-
  Which texts are names, in both packages.
-/
import Derived.Test.YtlhhkiglpehnfaaDoorRow
import Derived.LoopTactic
namespace Go.Proofs.YtlhhkiglpehnfaaDoor
open Go.RowKit

def smallP (n : Nat) : Bool := decide (97 ≤ n ∧ n ≤ 122)
theorem rowSmall_any (n : Nat) (w : World) :
    Calls Tryd.prog 34 #[.int .u8 (n : Int)] w fun e w' => e = .returned (.bool (smallP n)) ∧ w = w' := by
  by_cases h : 97 ≤ n
  · have h' : (97 : Int) ≤ (n : Int) := by omega
    have e : smallP n = decide ((n : Int) ≤ 122) := by unfold smallP; rw [decide_eq_decide]; omega
    rw [e]
    clear e
    go_enter Tryd.func34, Tryd.ntmps34
    go_wp2
    go_ret
    exact ⟨rfl, rfl⟩
  · have h' : (n : Int) < 97 := by omega
    have e : smallP n = false := by unfold smallP; rw [decide_eq_false]; omega
    rw [e]
    clear e
    go_enter Tryd.func34, Tryd.ntmps34
    go_wp2
    go_ret
    exact ⟨rfl, rfl⟩
theorem refSmall_any (n : Nat) (w : World) :
    Calls Tryd.prog 30 #[.int .u8 (n : Int)] w fun e w' => e = .returned (.bool (smallP n)) ∧ w = w' := by
  by_cases h : 97 ≤ n
  · have h' : (97 : Int) ≤ (n : Int) := by omega
    have e : smallP n = decide ((n : Int) ≤ 122) := by unfold smallP; rw [decide_eq_decide]; omega
    rw [e]
    clear e
    go_enter Tryd.func30, Tryd.ntmps30
    go_wp2
    go_ret
    exact ⟨rfl, rfl⟩
  · have h' : (n : Int) < 97 := by omega
    have e : smallP n = false := by unfold smallP; rw [decide_eq_false]; omega
    rw [e]
    clear e
    go_enter Tryd.func30, Tryd.ntmps30
    go_wp2
    go_ret
    exact ⟨rfl, rfl⟩

def tailC (n : Nat) : Prop := n = 95 ∨ (48 ≤ n ∧ n ≤ 57)
def cOK (i n : Nat) : Prop := smallP n = true ∨ (i ≠ 0 ∧ tailC n)
instance (i n : Nat) : Decidable (cOK i n) := by unfold cOK tailC; infer_instance
def nameOK (s : ByteArray) : Bool := decide (1 ≤ s.size ∧ s.size ≤ 16 ∧ ∀ i (h : i < s.size), cOK i s[i].toNat)
theorem nameOK_no {s : ByteArray} {i : Nat} (h : i < s.size) (hc : ¬ cOK i s[i].toNat) : nameOK s = false := by
  unfold nameOK; rw [decide_eq_false]; exact fun H => hc (H.2.2 i h)
theorem nameOK_yes {s : ByteArray} (hc : ∀ i (h : i < s.size), cOK i s[i].toNat) : nameOK s = decide (1 ≤ s.size ∧ s.size ≤ 16) := by
  unfold nameOK; rw [decide_eq_decide]; exact ⟨fun H => ⟨H.1, H.2.1⟩, fun H => ⟨H.1, H.2, hc⟩⟩

set_option maxRecDepth 100000 in
set_option maxHeartbeats 1000000 in
theorem refName_any (s : ByteArray) (hs : s.size ≤ 9223372036854775807) (w : World) :
    Calls Tryd.prog 18 #[.string s] w fun e w' => e = .returned (.bool (nameOK s)) ∧ w = w' := by
  have HSM := Lib.hid refSmall_any
  have HW := Lib.hid (within_any (s.size : Int) 1 16 w)
  go_enter Tryd.func18, Tryd.ntmps18
  go_wp2_with fail
  go_loop [3] (fun t => ∃ i : Nat, t = .int .i64 i ∧ i ≤ s.size ∧ Hid (∀ j (h : j < s.size), j < i → cOK j s[j].toNat)) (fun t => s.size - (intOf t).toNat)
  case atStart => exact ⟨0, rfl, Nat.zero_le _, fun j _ h => absurd h (by omega)⟩
  case round =>
    obtain ⟨i, rfl, hi, hv⟩ := hrel
    by_cases hlt : i < s.size
    · have hi0 : (0 : Int) ≤ (i : Int) := by omega
      have hi1 : (i : Int) < (s.size : Int) := by omega
      have hcall := HSM.out s[i].toNat w
      have hok : cOK i s[i].toNat → ∀ j (h : j < s.size), j < i + 1 → cOK j s[j].toNat := fun hc j hj hj1 => by
        by_cases e : j = i
        · subst e; exact hc
        · exact hv.out j hj (by omega)
      have hno := fun hc => nameOK_no hlt hc
      cases hsm : smallP s[i].toNat with
      | true =>
        have HN := Lib.hid (hok (.inl hsm))
        rw [hsm] at hcall
        have HC := Lib.hid hcall
        clear hcall hok hno hsm hv
        go_wp2_with fail
        refine HC.out.mono ?_
        rintro e w2 ⟨rfl, rfl⟩
        go_wp2_with fail
        go_round
        case rel => exact ⟨i + 1, by go_num, by omega, HN.out⟩
        case measure => simp [intOf]; omega
      | false =>
        rw [hsm] at hcall
        by_cases h0 : i = 0
        · subst h0
          have HN := Lib.hid (hno (fun h => by rcases h with h | h; (· rw [hsm] at h; cases h); (· exact h.1 rfl)))
          have HC := Lib.hid hcall
          clear hcall hok hno hsm hv
          go_wp2_with fail
          refine HC.out.mono ?_
          rintro e w2 ⟨rfl, rfl⟩
          go_wp2_with fail
          go_ret
          exact ⟨retB HN.out.symm, rfl⟩
        · have hi0' : ((i : Int) == 0) = false := by rw [beq_eq_false_iff_ne]; omega
          by_cases h95 : s[i].toNat = 95
          · have HN := Lib.hid (hok (.inr ⟨h0, .inl h95⟩))
            have d1 : ((s[i].toNat : Int) != 95) = false := by rw [bne_eq_false_iff_eq]; omega
            have HC := Lib.hid hcall
            clear hcall hok hno hsm hv h95
            go_wp2_with fail
            refine HC.out.mono ?_
            rintro e w2 ⟨rfl, rfl⟩
            go_wp2_with fail
            go_round
            case rel => exact ⟨i + 1, by go_num, by omega, HN.out⟩
            case measure => simp [intOf]; omega
          · have d1 : ((s[i].toNat : Int) != 95) = true := by rw [bne_iff_ne]; omega
            by_cases h48 : s[i].toNat < 48
            · have d2 : decide ((s[i].toNat : Int) < 48) = true := by rw [decide_eq_true_eq]; omega
              have HN := Lib.hid (hno (fun h => by rcases h with h | ⟨_, h | h⟩; (· rw [hsm] at h; cases h); (· exact h95 h); (· omega)))
              have HC := Lib.hid hcall
              clear hcall hok hno hsm hv h95 h48
              go_wp2_with fail
              refine HC.out.mono ?_
              rintro e w2 ⟨rfl, rfl⟩
              go_wp2_with fail
              go_ret
              exact ⟨retB HN.out.symm, rfl⟩
            · have d2 : decide ((s[i].toNat : Int) < 48) = false := by rw [decide_eq_false_iff_not]; omega
              by_cases h57 : 57 < s[i].toNat
              · have d3 : decide (57 < (s[i].toNat : Int)) = true := by rw [decide_eq_true_eq]; omega
                have HN := Lib.hid (hno (fun h => by rcases h with h | ⟨_, h | h⟩; (· rw [hsm] at h; cases h); (· exact h95 h); (· omega)))
                have HC := Lib.hid hcall
                clear hcall hok hno hsm hv h95 h48 h57
                go_wp2_with fail
                refine HC.out.mono ?_
                rintro e w2 ⟨rfl, rfl⟩
                go_wp2_with fail
                go_ret
                exact ⟨retB HN.out.symm, rfl⟩
              · have d3 : decide (57 < (s[i].toNat : Int)) = false := by rw [decide_eq_false_iff_not]; omega
                have HN := Lib.hid (hok (.inr ⟨h0, .inr ⟨by omega, by omega⟩⟩))
                have HC := Lib.hid hcall
                clear hcall hok hno hsm hv h95 h48 h57
                go_wp2_with fail
                refine HC.out.mono ?_
                rintro e w2 ⟨rfl, rfl⟩
                go_wp2_with fail
                go_round
                case rel => exact ⟨i + 1, by go_num, by omega, HN.out⟩
                case measure => simp [intOf]; omega
    · have hge : s.size ≤ i := by omega
      have he := nameOK_yes (fun j hj => hv.out j hj (by omega))
      have HN := Lib.hid (show decide (1 ≤ (s.size : Int) ∧ (s.size : Int) ≤ 16) = nameOK s by rw [he, decide_eq_decide]; omega)
      clear he hv
      go_wp2_with fail
      refine HW.out.mono ?_
      rintro e w2 ⟨rfl, rfl⟩
      go_wp2_with fail
      go_ret
      exact ⟨retB (by rw [← HN.out]; simp), rfl⟩

theorem nameOK_first {s : ByteArray} (h0 : 0 < s.size) (hc : smallP s[0].toNat = false) : nameOK s = false :=
  nameOK_no h0 (fun h => by rcases h with h | h; (· rw [hc] at h; cases h); (· exact h.1 rfl))

set_option maxRecDepth 100000 in
set_option maxHeartbeats 1000000 in
theorem rowName_any (s : ByteArray) (hs : s.size ≤ 9223372036854775807) (w : World) :
    Calls Tryd.prog 23 #[.string s] w fun e w' => e = .returned (.bool (nameOK s)) ∧ w = w' := by
  by_cases h0 : s.size = 0
  · have hn : nameOK s = false := by unfold nameOK; rw [decide_eq_false]; omega
    have h0' : ((s.size : Int) == 0) = true := by rw [beq_iff_eq]; omega
    rw [hn]
    clear hn
    go_enter Tryd.func23, Tryd.ntmps23
    go_wp2_with fail
    go_ret
    exact ⟨rfl, rfl⟩
  · have h0' : ((s.size : Int) == 0) = false := by rw [beq_eq_false_iff_ne]; omega
    by_cases h16 : 16 < s.size
    · have hn : nameOK s = false := by unfold nameOK; rw [decide_eq_false]; omega
      have h16' : (16 : Int) < (s.size : Int) := by omega
      rw [hn]
      clear hn h0
      go_enter Tryd.func23, Tryd.ntmps23
      go_wp2_with fail
      go_ret
      exact ⟨rfl, rfl⟩
    · have h16' : (s.size : Int) ≤ 16 := by omega
      have hp : 0 < s.size := by omega
      have hp' : (0 : Int) < (s.size : Int) := by omega
      have hcall0 := rowSmall_any s[0].toNat w
      cases hs0 : smallP s[0].toNat with
      | false =>
        rw [nameOK_first hp hs0]
        rw [hs0] at hcall0
        have HC := Lib.hid hcall0
        clear hcall0 hs0 h0
        go_enter Tryd.func23, Tryd.ntmps23
        go_wp2_with fail
        refine HC.out.mono ?_
        rintro e w2 ⟨rfl, rfl⟩
        go_wp2_with fail
        go_ret
        exact ⟨rfl, rfl⟩
      | true =>
        rw [hs0] at hcall0
        have HC0 := Lib.hid hcall0
        have HSM := Lib.hid rowSmall_any
        have HS0 := Lib.hid hs0
        clear hcall0 hs0 h0
        go_enter Tryd.func23, Tryd.ntmps23
        go_wp2_with fail
        refine HC0.out.mono ?_
        rintro e w2 ⟨rfl, rfl⟩
        go_wp2_with fail
        go_loop [21] (fun t => ∃ i : Nat, t = .int .i64 i ∧ i ≤ s.size ∧ Hid (∀ j (h : j < s.size), j < i → cOK j s[j].toNat)) (fun t => s.size - (intOf t).toNat)
        case atStart => exact ⟨0, rfl, Nat.zero_le _, fun j _ h => absurd h (by omega)⟩
        case round =>
          obtain ⟨i, rfl, hi, hv⟩ := hrel
          by_cases hlt : i < s.size
          · have hi0 : (0 : Int) ≤ (i : Int) := by omega
            have hi1 : (i : Int) < (s.size : Int) := by omega
            have hcall := HSM.out s[i].toNat w
            have hok : cOK i s[i].toNat → ∀ j (h : j < s.size), j < i + 1 → cOK j s[j].toNat := fun hc j hj hj1 => by
              by_cases e : j = i
              · subst e; exact hc
              · exact hv.out j hj (by omega)
            have hno := fun hc => nameOK_no hlt hc
            cases hsm : smallP s[i].toNat with
            | true =>
              have HN := Lib.hid (hok (.inl hsm))
              rw [hsm] at hcall
              have HC := Lib.hid hcall
              clear hcall hok hno hsm hv
              go_wp2_with fail
              refine HC.out.mono ?_
              rintro e w2 ⟨rfl, rfl⟩
              go_wp2_with fail
              go_round
              case rel => exact ⟨i + 1, by go_num, by omega, HN.out⟩
              case measure => simp [intOf]; omega
            | false =>
              rw [hsm] at hcall
              have h0 : i ≠ 0 := fun h => by subst h; have := HS0.out; rw [hsm] at this; cases this
              by_cases h95 : s[i].toNat = 95
              · have HN := Lib.hid (hok (.inr ⟨h0, .inl h95⟩))
                have d1 : ((s[i].toNat : Int) != 95) = false := by rw [bne_eq_false_iff_eq]; omega
                have HC := Lib.hid hcall
                clear hcall hok hno hsm hv h95 h0
                go_wp2_with fail
                refine HC.out.mono ?_
                rintro e w2 ⟨rfl, rfl⟩
                go_wp2_with fail
                go_round
                case rel => exact ⟨i + 1, by go_num, by omega, HN.out⟩
                case measure => simp [intOf]; omega
              · have d1 : ((s[i].toNat : Int) != 95) = true := by rw [bne_iff_ne]; omega
                by_cases h48 : s[i].toNat < 48
                · have d2 : decide ((s[i].toNat : Int) < 48) = true := by rw [decide_eq_true_eq]; omega
                  have HN := Lib.hid (hno (fun h => by rcases h with h | ⟨_, h | h⟩; (· rw [hsm] at h; cases h); (· exact h95 h); (· omega)))
                  have HC := Lib.hid hcall
                  clear hcall hok hno hsm hv h95 h48 h0
                  go_wp2_with fail
                  refine HC.out.mono ?_
                  rintro e w2 ⟨rfl, rfl⟩
                  go_wp2_with fail
                  go_ret
                  exact ⟨retB HN.out.symm, rfl⟩
                · have d2 : decide ((s[i].toNat : Int) < 48) = false := by rw [decide_eq_false_iff_not]; omega
                  by_cases h57 : 57 < s[i].toNat
                  · have d3 : decide (57 < (s[i].toNat : Int)) = true := by rw [decide_eq_true_eq]; omega
                    have HN := Lib.hid (hno (fun h => by rcases h with h | ⟨_, h | h⟩; (· rw [hsm] at h; cases h); (· exact h95 h); (· omega)))
                    have HC := Lib.hid hcall
                    clear hcall hok hno hsm hv h95 h48 h57 h0
                    go_wp2_with fail
                    refine HC.out.mono ?_
                    rintro e w2 ⟨rfl, rfl⟩
                    go_wp2_with fail
                    go_ret
                    exact ⟨retB HN.out.symm, rfl⟩
                  · have d3 : decide (57 < (s[i].toNat : Int)) = false := by rw [decide_eq_false_iff_not]; omega
                    have HN := Lib.hid (hok (.inr ⟨h0, .inr ⟨by omega, by omega⟩⟩))
                    have HC := Lib.hid hcall
                    clear hcall hok hno hsm hv h95 h48 h57 h0
                    go_wp2_with fail
                    refine HC.out.mono ?_
                    rintro e w2 ⟨rfl, rfl⟩
                    go_wp2_with fail
                    go_round
                    case rel => exact ⟨i + 1, by go_num, by omega, HN.out⟩
                    case measure => simp [intOf]; omega
          · have hge : s.size ≤ i := by omega
            have he := nameOK_yes (fun j hj => hv.out j hj (by omega))
            have HN := Lib.hid (show true = nameOK s by rw [he, decide_eq_true]; omega)
            clear he hv
            go_wp2_with fail
            go_ret
            exact ⟨retB HN.out, rfl⟩
end Go.Proofs.YtlhhkiglpehnfaaDoor
