/-
  Number of the document's own clock, as a contract.
-/
import Derived.Test.YtakekegghpgeaaaDoorTr
import Derived.Test.YtakekegghpgeaaaDoorRefSpec
import Derived.Deep.RegionHeld3
import Derived.LoopTactic
import Derived.OwnWalk
import Derived.Laws.OwnMore
import Derived.Laws.AppendOwn
import Derived.Maps.AppendAt
import Derived.Outline
import Derived.StillTailTactics
namespace Go.Proofs.YtakekegghpgeaaaDoor
open Go.RowKit Go.Lib
set_option linter.unusedSimpArgs false

theorem drop_at {s : ByteArray} {i : Nat} (h : i < s.size) : s.data.toList.drop i = s[i] :: s.data.toList.drop (i + 1) := by
  have hl : i < s.data.toList.length := by simpa using h
  rw [List.drop_eq_getElem_cons hl]
  rfl
theorem head_at {s : ByteArray} (h : 0 < s.size) : s.data.toList.head? = some s[0] := by
  have := drop_at (s := s) (i := 0) h
  rw [List.drop_zero] at this
  rw [this]
  rfl

theorem wrapEq (x : Int) : IntKind.i64.wrap x = wrap64 x := by rw [IntKind.wrap_i64, wrap64]
theorem numOut_one (len : Nat) (n : Int) : numOut 1 len (some n) = (wrap64 (-n), decide ((1 : Int) < (len : Int))) := by
  show ((if 1 = 1 then IntKind.i64.wrap (-n) else n), decide (1 < len)) = _
  rw [if_pos rfl, wrapEq]
  congr 1
  rw [decide_eq_decide]
  omega
theorem numOut_zero {len : Nat} (h : 0 < len) (n : Int) : numOut 0 len (some n) = (n, true) := by
  show ((if 0 = 1 then IntKind.i64.wrap (-n) else n), decide (0 < len)) = _
  rw [if_neg (by omega), decide_eq_true h]
theorem numOut_none {len : Nat} (h : len = 0) (n : Int) : numOut 0 len (some n) = (n, false) := by
  show ((if 0 = 1 then IntKind.i64.wrap (-n) else n), decide (0 < len)) = _
  rw [if_neg (by omega), decide_eq_false (by omega)]
def NumPost (f len : Nat) (R : Option Int) (w : World) (e : Ending) (w' : World) : Prop := e = .returned (.tuple #[.int .i64 (numOut f len R).1, .bool (numOut f len R).2]) ∧ w = w'
set_option maxRecDepth 100000 in
set_option maxHeartbeats 1000000 in
theorem number_any (s : ByteArray) (hs : s.size ≤ 1000000) (w : World) :
    Calls Tryd.prog 28 #[.string s] w fun e w' => e = .returned (.tuple #[.int .i64 (numVal s.data.toList).1, .bool (numVal s.data.toList).2]) ∧ w = w' := by
  have hsl : s.data.toList.length = s.size := by simp
  show Calls _ _ _ w (NumPost (numFrom s.data.toList) s.data.toList.length (numGo (s.data.toList.drop (numFrom s.data.toList)) 0 0) w)
  rw [hsl]
  obtain ⟨f, hf⟩ : ∃ f, f = numFrom s.data.toList := ⟨_, rfl⟩
  obtain ⟨R, hR⟩ : ∃ R, R = numGo (s.data.toList.drop f) 0 0 := ⟨_, rfl⟩
  rw [← hf, ← hR]
  have HR := Lib.hid hR
  have hfl : f ≤ s.size ∧ f ≤ 1 := by
    rw [hf]; unfold numFrom
    split
    · rename_i h
      have : s.data.toList ≠ [] := fun e => by rw [e] at h; cases h
      have := List.length_pos_iff.2 this
      omega
    · omega
  have HFL := Lib.hid hfl
  have HSZ := Lib.hid hs
  clear hfl hR
  by_cases h0 : s.size = 0
  · obtain rfl : f = 0 := by have := HFL.out; omega
    have h0' : (s.size : Int) = 0 := by omega
    clear hf hsl
    go_enter Tryd.func28, Tryd.ntmps28
    go_wp2_with fail
    go_loop [5, 6] (fun a t => ∃ (i : Nat) (acc : Int), a = .int .i64 acc ∧ t = .int .i64 i ∧ 0 ≤ i ∧ i ≤ s.size ∧ Hid (numGo (s.data.toList.drop i) acc (i - 0) = R)) (fun _ t => s.size - (RowKit.intOf t).toNat)
    case atStart => exact ⟨0, 0, rfl, rfl, Nat.le_refl _, HFL.out.1, HR.out.symm⟩
    case round =>
      obtain ⟨i, acc, rfl, rfl, hfi, hin, HG⟩ := hrel
      by_cases hlt : i < s.size
      · exact absurd hlt (by omega)
      · have hie : i = s.size := by omega
        have hG := HG.out
        rw [hie, List.drop_eq_nil_of_le (by simp), numGo] at hG
        have HO := Lib.hid hG.symm
        clear hG HG hie
        go_wp2_with fail
        go_ret2
        exact ⟨by rw [HO.out, numOut_none (by omega)]; rfl, rfl⟩
  have h0' : (0 : Int) < (s.size : Int) := by omega
  have hp : 0 < s.size := by omega
  by_cases h45 : s[0].toNat = 45
  · obtain rfl : f = 1 := by
      rw [hf]; unfold numFrom
      rw [if_pos]
      rw [head_at hp]
      exact congrArg some (UInt8.toNat_inj.1 h45)
    have e45 : ((s[0].toNat : Int) == 45) = true := by rw [h45]; rfl
    clear hf hsl h0 h45
    go_enter Tryd.func28, Tryd.ntmps28
    go_wp2_with fail
    go_loop [5, 6] (fun a t => ∃ (i : Nat) (acc : Int), a = .int .i64 acc ∧ t = .int .i64 i ∧ 1 ≤ i ∧ i ≤ s.size ∧ Hid (numGo (s.data.toList.drop i) acc (i - 1) = R)) (fun _ t => s.size - (RowKit.intOf t).toNat)
    case atStart => exact ⟨1, 0, rfl, rfl, Nat.le_refl _, HFL.out.1, HR.out.symm⟩
    case round =>
      obtain ⟨i, acc, rfl, rfl, hfi, hin, HG⟩ := hrel
      by_cases hlt : i < s.size
      · have hi0 : (0 : Int) ≤ (i : Int) := by omega
        have hi1 : (i : Int) < (s.size : Int) := by omega
        have hG := HG.out
        rw [drop_at hlt, numGo] at hG
        have hs6 := HSZ.out
        clear HG
        generalize hc : s[i].toNat = c at hG
        by_cases c1 : c < 48
        · have hO := hG
          rw [if_pos (.inl c1)] at hO
          have HO := Lib.hid hO.symm
          have d1 : decide ((s[i].toNat : Int) < 48) = true := by rw [hc]; exact decide_eq_true (by omega)
          clear hG hO c1 hc hs6
          go_wp2_with fail
          go_ret2
          exact ⟨by rw [HO.out]; rfl, rfl⟩
        by_cases c2 : 57 < c
        · have hO := hG
          rw [if_pos (.inr c2)] at hO
          have HO := Lib.hid hO.symm
          have d1 : decide ((s[i].toNat : Int) < 48) = false := by rw [hc]; exact decide_eq_false (by omega)
          have d2 : decide (57 < (s[i].toNat : Int)) = true := by rw [hc]; exact decide_eq_true (by omega)
          clear hG hO c1 c2 hc hs6
          go_wp2_with fail
          go_ret2
          exact ⟨by rw [HO.out]; rfl, rfl⟩
        · rw [if_neg (by omega)] at hG
          have d1 : decide ((s[i].toNat : Int) < 48) = false := by rw [hc]; exact decide_eq_false (by omega)
          have d2 : decide (57 < (s[i].toNat : Int)) = false := by rw [hc]; exact decide_eq_false (by omega)
          have u1 : IntKind.u8.wrap ((s[i].toNat : Int) - 48) = (s[i].toNat : Int) - 48 := by rw [hc, IntKind.wrap_u8]; omega
          have u2 : IntKind.i64.wrap ((s[i].toNat : Int) - 48) = (s[i].toNat : Int) - 48 := by rw [hc, IntKind.wrap_i64]; omega
          have q9 : IntKind.i64.wrap ((i : Int) - 1) = (i : Int) - 1 := by rw [IntKind.wrap_i64]; omega
          rw [← hc] at hG
          by_cases c3 : 18 ≤ i - 1
          · rw [if_pos c3] at hG
            have HO := Lib.hid hG.symm
            have d3 : decide (18 ≤ (i : Int) - 1) = true := decide_eq_true (by omega)
            clear hG c1 c2 c3 hc hs6
            go_wp2_with fail
            go_ret2
            exact ⟨by rw [HO.out]; rfl, rfl⟩
          · rw [if_neg c3] at hG
            simp only [wrapEq] at hG
            have HN := Lib.hid hG
            have d3 : decide (18 ≤ (i : Int) - 1) = false := decide_eq_false (by omega)
            clear hG c1 c2 c3 hc
            go_wp2_with fail
            go_round
            case rel => exact ⟨i + 1, _, rfl, by go_num, by omega, by omega, by rw [show i + 1 - 1 = i - 1 + 1 by omega]; exact HN.out⟩
            case measure => simp [RowKit.intOf]; omega
      · have hie : i = s.size := by omega
        have hG := HG.out
        rw [hie, List.drop_eq_nil_of_le (by simp), numGo] at hG
        have HO := Lib.hid hG.symm
        clear hG HG hie
        go_wp2_with fail
        go_ret2
        exact ⟨by rw [HO.out, numOut_one]; rfl, rfl⟩
  · obtain rfl : f = 0 := by
      rw [hf]; unfold numFrom
      rw [if_neg]
      rw [head_at hp]
      intro h
      exact h45 (by rw [Option.some.inj h]; rfl)
    have e45 : ((s[0].toNat : Int) == 45) = false := by rw [beq_eq_false_iff_ne]; omega
    clear hf hsl h0 h45
    go_enter Tryd.func28, Tryd.ntmps28
    go_wp2_with fail
    go_loop [5, 6] (fun a t => ∃ (i : Nat) (acc : Int), a = .int .i64 acc ∧ t = .int .i64 i ∧ 0 ≤ i ∧ i ≤ s.size ∧ Hid (numGo (s.data.toList.drop i) acc (i - 0) = R)) (fun _ t => s.size - (RowKit.intOf t).toNat)
    case atStart => exact ⟨0, 0, rfl, rfl, Nat.le_refl _, HFL.out.1, HR.out.symm⟩
    case round =>
      obtain ⟨i, acc, rfl, rfl, hfi, hin, HG⟩ := hrel
      by_cases hlt : i < s.size
      · have hi0 : (0 : Int) ≤ (i : Int) := by omega
        have hi1 : (i : Int) < (s.size : Int) := by omega
        have hG := HG.out
        rw [drop_at hlt, numGo] at hG
        have hs6 := HSZ.out
        clear HG
        generalize hc : s[i].toNat = c at hG
        by_cases c1 : c < 48
        · have hO := hG
          rw [if_pos (.inl c1)] at hO
          have HO := Lib.hid hO.symm
          have d1 : decide ((s[i].toNat : Int) < 48) = true := by rw [hc]; exact decide_eq_true (by omega)
          clear hG hO c1 hc hs6
          go_wp2_with fail
          go_ret2
          exact ⟨by rw [HO.out]; rfl, rfl⟩
        by_cases c2 : 57 < c
        · have hO := hG
          rw [if_pos (.inr c2)] at hO
          have HO := Lib.hid hO.symm
          have d1 : decide ((s[i].toNat : Int) < 48) = false := by rw [hc]; exact decide_eq_false (by omega)
          have d2 : decide (57 < (s[i].toNat : Int)) = true := by rw [hc]; exact decide_eq_true (by omega)
          clear hG hO c1 c2 hc hs6
          go_wp2_with fail
          go_ret2
          exact ⟨by rw [HO.out]; rfl, rfl⟩
        · rw [if_neg (by omega)] at hG
          have d1 : decide ((s[i].toNat : Int) < 48) = false := by rw [hc]; exact decide_eq_false (by omega)
          have d2 : decide (57 < (s[i].toNat : Int)) = false := by rw [hc]; exact decide_eq_false (by omega)
          have u1 : IntKind.u8.wrap ((s[i].toNat : Int) - 48) = (s[i].toNat : Int) - 48 := by rw [hc, IntKind.wrap_u8]; omega
          have u2 : IntKind.i64.wrap ((s[i].toNat : Int) - 48) = (s[i].toNat : Int) - 48 := by rw [hc, IntKind.wrap_i64]; omega
          have q9 : IntKind.i64.wrap ((i : Int) - 0) = (i : Int) := by rw [IntKind.wrap_i64]; omega
          have q8 : IntKind.i64.wrap (i : Int) = (i : Int) := by rw [IntKind.wrap_i64]; omega
          rw [← hc] at hG
          by_cases c3 : 18 ≤ i - 0
          · rw [if_pos c3] at hG
            have HO := Lib.hid hG.symm
            have d3 : decide (18 ≤ (i : Int)) = true := decide_eq_true (by omega)
            clear hG c1 c2 c3 hc hs6
            go_wp2_with fail
            go_ret2
            exact ⟨by rw [HO.out]; rfl, rfl⟩
          · rw [if_neg c3] at hG
            simp only [wrapEq] at hG
            have HN := Lib.hid hG
            have d3 : decide (18 ≤ (i : Int)) = false := decide_eq_false (by omega)
            clear hG c1 c2 c3 hc
            go_wp2_with fail
            go_round
            case rel => exact ⟨i + 1, _, rfl, by go_num, by omega, by omega, by rw [show i + 1 - 0 = i - 0 + 1 by omega]; exact HN.out⟩
            case measure => simp [RowKit.intOf]; omega
      · have hie : i = s.size := by omega
        have hG := HG.out
        rw [hie, List.drop_eq_nil_of_le (by simp), numGo] at hG
        have HO := Lib.hid hG.symm
        clear hG HG hie
        go_wp2_with fail
        go_ret2
        exact ⟨by rw [HO.out, numOut_zero hp]; rfl, rfl⟩
end Go.Proofs.YtakekegghpgeaaaDoor
