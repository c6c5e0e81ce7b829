/-
  The document's own Parse of bags, as a contract.
-/
import Derived.Test.YtledgnolmiecfaaGreatDoorBp
import Derived.Test.YtledgnolmiecfaaGreatDoorJG
namespace Go.Proofs.YtledgnolmiecfaaGreatDoor
open Go.RowKit
set_option linter.unusedSimpArgs false
set_option linter.unusedVariables false

theorem no_line {z : List UInt8} (h : (32 : UInt8) ∉ z) (x : It) : z ++ [10] ≠ lineT x := fun e => by
  have : (32 : UInt8) ∈ z ++ [10] := by rw [e]; unfold lineT; simp
  rcases List.mem_append.1 this with h1 | h1
  · exact h h1
  · rw [List.mem_singleton] at h1; exact absurd h1 (by decide)
theorem no_feed {t : List UInt8} (h : (10 : UInt8) ∉ t) (x : It) : t ≠ lineT x := fun e => h (by rw [e]; unfold lineT; simp)
theorem slice_str (s : ByteArray) (i k : Nat) (hik : i ≤ k) (hks : k ≤ s.size) (W : World) : (Instr.slice 9 (.string s) (some (.int .i64 (i : Int))) (some (.int .i64 (k : Int))) none).run Tryz.prog W = .ok (.string (bs ((s.data.toList.drop i).take (k - i)))) W := by
  have p1 : (i : Int) ≤ (k : Int) := by omega
  have p2 : (k : Int) ≤ (s.size : Int) := by omega
  have i0 : (0 : Int) ≤ (i : Int) := by omega
  have k0 : (0 : Int) ≤ (k : Int) := by omega
  rw [← ext_take]
  simp [Instr.slice, run_underlying Tryz.underlying9, Instr.sliceBounds, run_sliceBound, p1, p2, i0, k0]
theorem take_more {l : List UInt8} {i k : Nat} {d c : UInt8} (hik : i ≤ k) (hk : l[k]? = some c) (hc : c ≠ d) (h : d ∉ (l.drop i).take (k - i)) : d ∉ (l.drop i).take (k + 1 - i) := by
  have hlk : k < l.length := (List.getElem?_eq_some_iff.1 hk).1
  have hl2 : k - i < (l.drop i).length := by rw [List.length_drop]; omega
  rw [show k + 1 - i = k - i + 1 by omega, List.take_succ_eq_append_getElem hl2]
  intro hm
  rcases List.mem_append.1 hm with h1 | h1
  · exact h h1
  · rw [List.mem_singleton] at h1
    have e2 : (l.drop i)[k - i]? = some c := by rw [List.getElem?_drop, show i + (k - i) = k by omega]; exact hk
    rw [List.getElem?_eq_getElem hl2] at e2
    exact hc ((Option.some.inj e2).symm.trans h1.symm)
theorem cut_here {l : List UInt8} {i k : Nat} {c : UInt8} (hik : i ≤ k) (hk : l[k]? = some c) : l.drop i = (l.drop i).take (k - i) ++ c :: l.drop (k + 1) := by
  have hlk : k < l.length := (List.getElem?_eq_some_iff.1 hk).1
  have e : l.drop k = c :: l.drop (k + 1) := by
    rw [List.drop_eq_getElem_cons hlk]
    rw [List.getElem?_eq_getElem hlk] at hk
    rw [Option.some.inj hk]
  conv => lhs; rw [← List.take_append_drop (k - i) (l.drop i)]
  rw [List.drop_drop, show i + (k - i) = k by omega, e]
theorem at_byte {s : ByteArray} {k : Nat} (h : k < s.size) : s.data.toList[k]? = some s[k] := (List.getElem?_eq_getElem (by simpa using h)).trans rfl
theorem byte_of {c : UInt8} {n : Nat} (h : c.toNat = n) (hn : n < 256) : c = UInt8.ofNat n := by rw [← h, UInt8.ofNat_toNat]

set_option maxRecDepth 100000 in
set_option maxHeartbeats 8000000 in
theorem refBagParse_any (s : ByteArray) (hs : s.size ≤ 65536) (w : World) (hE : Env w.heap.size w) :
    Calls Tryz.prog 11 #[.string s] w (BpPost (readsL [] (linesT s.data.toList)) w) := by
  obtain ⟨i0, hii, hz0, hz1, hz2⟩ := info_parts infoI
  have hsl : s.data.toList.length = s.size := by simp
  have g1 : ¬ (65536 : Int) < (s.size : Int) := by omega
  have HE := Lib.hid hE
  have HS := Lib.hid (And.intro hs hsl)
  clear hE
  go_enter Tryz.func11, Tryz.ntmps11
  go_wp2_with fail
  go_loopw [2, 3, 5] (fun o m t wr => ∃ (p : Option Addr) (cap : Nat) (rs : List ItR) (i : Nat), o = .slice p rs.length cap ∧ m = .int .i64 rs.length ∧ t = .int .i64 i ∧ i ≤ s.size ∧ Hid (validBag (vals rs) = true) ∧ Hid (OwnItems wr w.heap.size o rs) ∧ Hid (readsL [] (linesT s.data.toList) = readsL (vals rs) (linesT (s.data.toList.drop i))) ∧ Hid (Below w.heap.size w wr)) (fun _ _ t _ => s.size - (intOf t).toNat)
  case atStart => exact ⟨none, 0, [], 0, rfl, rfl, rfl, Nat.zero_le _, validBag_iff.2 ⟨Nat.zero_le _, by simp [vals], .nil⟩, OwnItems.nil _ _, rfl, Below.refl _ _⟩
  case round =>
    obtain ⟨p, cap, rs, i, rfl, rfl, rfl, hi, HV, HO, HQ, HB⟩ := hrel
    have h400 : rs.length ≤ 400 := by have := (validBag_iff.1 HV.out).1; rwa [vals_len] at this
    by_cases hlt : i < s.size
    · have j1 : (i : Int) < (s.size : Int) := by omega
      have HI := Lib.hid (And.intro hi hlt)
      have HNE := Lib.hid (show s.data.toList.drop i ≠ [] from fun e => by
        have := congrArg List.length e
        rw [List.length_drop, HS.out.2] at this
        simp only [List.length_nil] at this
        omega)
      clear hlt hi hsl
      go_wp2_with fail
      go_loop [6] (fun t => ∃ k : Nat, t = .int .i64 k ∧ i ≤ k ∧ k ≤ s.size ∧ Hid ((10 : UInt8) ∉ (s.data.toList.drop i).take (k - i))) (fun t => s.size - (intOf t).toNat)
      case atStart => exact ⟨i, rfl, Nat.le_refl _, HI.out.1, by rw [Nat.sub_self, List.take_zero]; exact fun h => by cases h⟩
      case round =>
        obtain ⟨k, rfl, hik, hks, HN⟩ := hrel
        have k0 : (0 : Int) ≤ (k : Int) := by omega
        by_cases hkl : k < s.size
        · have k1 : (k : Int) < (s.size : Int) := by omega
          have kne : ((k : Int) == (s.size : Int)) = false := by rw [beq_eq_false_iff_ne]; omega
          by_cases h10 : s[k].toNat = 10
          · have e10 : ((s[k].toNat : Int) == 10) = true := by rw [h10]; rfl
            have n10 : ((s[k].toNat : Int) != 10) = false := by rw [h10]; rfl
            have hb := at_byte hkl
            rw [byte_of h10 (by omega)] at hb
            obtain ⟨z, hz⟩ : ∃ z, z = (s.data.toList.drop i).take (k - i) := ⟨_, rfl⟩
            have hT := cut_here hik hb
            rw [← hz] at hT
            have hzn : (10 : UInt8) ∉ z := by rw [hz]; exact HN.out
            have HL := Lib.hid (show linesT (s.data.toList.drop i) = (z ++ [10]) :: linesT (s.data.toList.drop (k + 1)) by
              rw [lines_cons HNE.out, hT]
              obtain ⟨f1, f2⟩ := first_line (r := s.data.toList.drop (k + 1)) hzn
              rw [show (UInt8.ofNat 10 : UInt8) = 10 from rfl, f1, f2])
            have HZ := Lib.hid hz
            have HK := Lib.hid (And.intro hik (And.intro hks hkl))
            have HBAD := Lib.hid (fun (h : ∀ x, itOK x = true → followsB (vals rs) x = true → z ++ [10] ≠ lineT x) => (show readsL [] (linesT s.data.toList) = ([], (rs.length : Int), 2) by
              rw [HQ.out, HL.out, reads_stop (fun x hx => by
                cases hf : followsB (vals rs) x with
                | false => rfl
                | true => exact absurd hx (h x (follows_ok hf) hf)), vals_len]))
            clear HN h10 hb hz hT hzn
            go_wp2_with fail
            go_loop [7] (fun t => ∃ c : Nat, t = .int .i64 c ∧ i ≤ c ∧ c ≤ k ∧ Hid ((32 : UInt8) ∉ (s.data.toList.drop i).take (c - i))) (fun t => k - (intOf t).toNat)
            case atStart => exact ⟨i, rfl, Nat.le_refl _, HK.out.1, by rw [Nat.sub_self, List.take_zero]; exact fun h => by cases h⟩
            case round =>
              obtain ⟨c, rfl, hic, hck, HN2⟩ := hrel
              have c0 : (0 : Int) ≤ (c : Int) := by omega
              have q1 : (i : Int) ≤ (c : Int) := by omega
              by_cases hcl : c < k
              · have c1 : (c : Int) < (k : Int) := by omega
                have c2 : (c : Int) < (s.size : Int) := by omega
                have cne : ((c : Int) == (k : Int)) = false := by rw [beq_eq_false_iff_ne]; omega
                have hcs : c < s.size := by omega
                by_cases h32 : s[c].toNat = 32
                · have e32 : ((s[c].toNat : Int) == 32) = true := by rw [h32]; rfl
                  have n32 : ((s[c].toNat : Int) != 32) = false := by rw [h32]; rfl
                  have hb := at_byte hcs
                  rw [byte_of h32 (by omega)] at hb
                  obtain ⟨y, hy⟩ : ∃ y, y = (s.data.toList.drop i).take (c - i) := ⟨_, rfl⟩
                  obtain ⟨y2, hy2⟩ : ∃ y2, y2 = (s.data.toList.drop (c + 1)).take (k - (c + 1)) := ⟨_, rfl⟩
                  have hzy : z = y ++ 32 :: y2 := by
                    have h1 := cut_here hic hb
                    rw [← hy] at h1
                    have hyl : y.length = c - i := by rw [hy, List.length_take, List.length_drop, HS.out.2]; omega
                    rw [HZ.out, h1, List.take_append, hyl, show k - i - (c - i) = (k - (c + 1)) + 1 by omega, List.take_succ_cons, ← hy2, List.take_of_length_le (by omega)]
                    rfl
                  have hyn : (32 : UInt8) ∉ y := by rw [hy]; exact HN2.out
                  have HX := Lib.hid (fun (x : It) (h : z ++ [10] = lineT x) => (show y = Lib.itoa x.2 ∧ y2 = textR x.1 from lineT_split hyn (by rw [← h, hzy]; simp)))
                  have hsl1 := slice_str s i c hic (by omega)
                  rw [← hy] at hsl1
                  have hsl2 := slice_str s (c + 1) k (by omega) hks
                  rw [← hy2] at hsl2
                  have q3 : IntKind.i64.wrap ((c : Int) + 1) = (c : Int) + 1 := by rw [IntKind.wrap_i64]; omega
                  have q4 : ((c + 1 : Nat) : Int) = (c : Int) + 1 := by omega
                  rw [q4] at hsl2
                  have hys : (bs y).size ≤ 70000 := by rw [bs_size, hy, List.length_take, List.length_drop]; omega
                  have hy2s : (bs y2).size ≤ 70000 := by rw [bs_size, hy2, List.length_take, List.length_drop]; omega
                  have HNUM := Lib.hid (fun W => refNumber_any (bs y) (by omega) W)
                  rw [bs_data] at HNUM
                  have HR := Lib.hid (numVal_range y)
                  obtain ⟨n, hn⟩ : ∃ n, n = (numVal y).1 := ⟨_, rfl⟩
                  obtain ⟨ok, hok⟩ : ∃ ok, ok = (numVal y).2 := ⟨_, rfl⟩
                  have HNV := Lib.hid (show numVal y = (n, ok) by rw [hn, hok])
                  rw [← hn] at HNUM HR
                  rw [← hok] at HNUM
                  obtain ⟨xs, er, _, hP, h8, hgood, hconv⟩ := both (bs y2)
                  rw [bs_data] at hgood hconv
                  have HP := Lib.hid (fun W (hb : Below w.heap.size w W) => hP W ((HE.out.on hb).up hb.size))
                  have HG := Lib.hid (And.intro hgood (And.intro hconv h8))
                  have HTB := Lib.hid (fun W (hb : Below w.heap.size w W) => ((HE.out.on hb).up hb.size).tab)
                  have HZY := Lib.hid (And.intro hzy hyn)
                  clear HN2 h32 hb hy hy2 hzy hyn hn hok hP hgood hconv h8 q4 hcl hys hy2s
                  go_wp2_with fail
                  refine (HNUM.out _).mono ?_
                  rintro e w9 ⟨rfl, rfl⟩
                  clear HNUM
                  cases ok with
                  | false =>
                    have HOUT := Lib.hid (HBAD.out (fun x hx _ h => by
                      obtain ⟨h1, h2⟩ := HX.out x h
                      have h3 := inN_in (itOK_iff.1 hx).2
                      have h4 := HNV.out
                      rw [h1, num_itoa h3.1 h3.2] at h4
                      exact absurd (congrArg Prod.snd h4) (by simp)))
                    go_wp2_with fail
                    go_quiet (fail)
                    have HBX := Lib.hid (below_drewN HB.out nq)
                    go_wp2_with fail
                    refine bodyPost_ret (v := .tuple #[.slice none 0 0, .int .i64 rs.length, .int .i64 2]) (by simp [results, Tryz.f11, go_sem]) rfl ?_
                    exact ⟨_, [], by rw [HOUT.out]; try rfl, OwnItems.nil _ _, by rw [HOUT.out]; rfl, HBX.out⟩
                  | true =>
                    have HIT := Lib.hid (fun W (hb : Below wr.heap.size wr W) => itoa_any n HR.out.1 HR.out.2 wr.heap.size W ((HTB.out wr HB.out).onT hb))
                    rw [show (⟨(Lib.itoa n).toArray⟩ : ByteArray) = bs (Lib.itoa n) from rfl] at HIT
                    by_cases hq : Lib.itoa n = y
                    · have HYN := Lib.hid hq
                      subst hq
                      generalize hyy : bs (Lib.itoa n) = yb at hsl1 HIT
                      clear hyy
                      go_wp2_with fail
                      refine wp_region_held_drew (S := fun W' : World => Below wr.heap.size wr W') (by kernel_rfl) ((Below.refl _ _).drew) (fun hHeld => ?_)
                      refine wpAnyH_take (i := 0) (oi := _) (v := ?_) rfl (by kernel_rfl) (by kernel_rfl) (by kernel_rfl) (fun _ _ _ h => h) (Or.inl ⟨by rfl, ?_⟩) (by assumption) ?_
                      rotate_left
                      · intro w hSw
                        try dsimp only at hSw
                        go_simp
                        all_goals with_reducible rfl
                      simp only [List.getElem_toArray, List.getElem_cons_succ, List.getElem_cons_zero, Act.put, List.setIfInBounds_toArray, List.set_cons_zero, List.set_cons_succ]
                      refine wpAnyH_take (i := 1) (oi := _) (v := ?_) rfl (by kernel_rfl) (by kernel_rfl) (by kernel_rfl) (fun _ _ _ h => h) (Or.inl ⟨by rfl, ?_⟩) (by assumption) ?_
                      rotate_left
                      · intro w hSw
                        try dsimp only at hSw
                        go_simp
                        all_goals with_reducible rfl
                      simp only [List.getElem_toArray, List.getElem_cons_succ, List.getElem_cons_zero, Act.put, List.setIfInBounds_toArray, List.set_cons_zero, List.set_cons_succ]
                      refine wpAnyH_take (i := 2) (oi := _) (v := ?_) rfl (by kernel_rfl) (by kernel_rfl) (by kernel_rfl) (fun _ _ _ h => h) (Or.inl ⟨by rfl, ?_⟩) (by assumption) ?_
                      rotate_left
                      · intro w hSw
                        try dsimp only at hSw
                        go_simp
                        all_goals with_reducible rfl
                      simp only [List.getElem_toArray, List.getElem_cons_succ, List.getElem_cons_zero, Act.put, List.setIfInBounds_toArray, List.set_cons_zero, List.set_cons_succ]
                      refine wpAnyH_take (i := 3) (oi := _) (v := ?_) rfl (by kernel_rfl) (by kernel_rfl) (by kernel_rfl) (fun _ _ _ h => h) (Or.inl ⟨by rfl, ?_⟩) (by assumption) ?_
                      rotate_left
                      · intro w hSw
                        try dsimp only at hSw
                        go_simp
                        all_goals with_reducible rfl
                      simp only [List.getElem_toArray, List.getElem_cons_succ, List.getElem_cons_zero, Act.put, List.setIfInBounds_toArray, List.set_cons_zero, List.set_cons_succ]
                      refine wpAnyH_take (i := 4) (oi := _) (v := ?_) rfl (by kernel_rfl) (by kernel_rfl) (by kernel_rfl) (fun _ _ _ h => h) (Or.inl ⟨by rfl, ?_⟩) (by assumption) ?_
                      rotate_left
                      · intro w hSw
                        try dsimp only at hSw
                        go_simp
                        all_goals with_reducible rfl
                      simp only [List.getElem_toArray, List.getElem_cons_succ, List.getElem_cons_zero, Act.put, List.setIfInBounds_toArray, List.set_cons_zero, List.set_cons_succ]
                      refine wpAnyH_take (i := 5) (oi := _) (v := ?_) rfl (by kernel_rfl) (by kernel_rfl) (by kernel_rfl) (fun _ _ _ h => h) (Or.inl ⟨by rfl, ?_⟩) (by assumption) ?_
                      rotate_left
                      · intro w hSw
                        try dsimp only at hSw
                        go_simp
                        all_goals with_reducible rfl
                      simp only [List.getElem_toArray, List.getElem_cons_succ, List.getElem_cons_zero, Act.put, List.setIfInBounds_toArray, List.set_cons_zero, List.set_cons_succ]
                      refine wpAnyH_take (i := 6) (oi := _) (v := ?_) rfl (by kernel_rfl) (by kernel_rfl) (by kernel_rfl) (fun _ _ _ h => h) (Or.inl ⟨by rfl, ?_⟩) (by assumption) ?_
                      rotate_left
                      · intro w hSw
                        try dsimp only at hSw
                        go_simp
                        all_goals with_reducible rfl
                      simp only [List.getElem_toArray, List.getElem_cons_succ, List.getElem_cons_zero, Act.put, List.setIfInBounds_toArray, List.set_cons_zero, List.set_cons_succ]
                      refine wpAnyH_take (i := 7) (oi := _) (v := ?_) rfl (by kernel_rfl) (by kernel_rfl) (by kernel_rfl) (fun _ _ _ h => h) (Or.inl ⟨by rfl, ?_⟩) (by assumption) ?_
                      rotate_left
                      · intro w hSw
                        try dsimp only at hSw
                        go_simp
                        all_goals with_reducible rfl
                      simp only [List.getElem_toArray, List.getElem_cons_succ, List.getElem_cons_zero, Act.put, List.setIfInBounds_toArray, List.set_cons_zero, List.set_cons_succ]
                      refine wpAnyH_take (i := 8) (oi := _) (v := ?_) rfl (by kernel_rfl) (by kernel_rfl) (by kernel_rfl) (fun _ _ _ h => h) (Or.inl ⟨by rfl, ?_⟩) (by assumption) ?_
                      rotate_left
                      · intro w hSw
                        try dsimp only at hSw
                        go_simp
                        all_goals with_reducible rfl
                      simp only [List.getElem_toArray, List.getElem_cons_succ, List.getElem_cons_zero, Act.put, List.setIfInBounds_toArray, List.set_cons_zero, List.set_cons_succ]
                      refine wpAnyH_take (i := 10) (oi := _) (v := ?_) rfl (by kernel_rfl) (by kernel_rfl) (by kernel_rfl) (fun _ _ _ h => h) (Or.inl ⟨by rfl, ?_⟩) (by assumption) ?_
                      rotate_left
                      · intro w hSw
                        try dsimp only at hSw
                        go_simp
                        all_goals with_reducible rfl
                      simp only [List.getElem_toArray, List.getElem_cons_succ, List.getElem_cons_zero, Act.put, List.setIfInBounds_toArray, List.set_cons_zero, List.set_cons_succ]
                      refine wpAnyH_take (i := 11) (oi := _) (v := ?_) rfl (by kernel_rfl) (by kernel_rfl) (by kernel_rfl) (fun _ _ _ h => h) (Or.inl ⟨by rfl, ?_⟩) (by assumption) ?_
                      rotate_left
                      · intro w hSw
                        try dsimp only at hSw
                        go_simp
                        all_goals with_reducible rfl
                      simp only [List.getElem_toArray, List.getElem_cons_succ, List.getElem_cons_zero, Act.put, List.setIfInBounds_toArray, List.set_cons_zero, List.set_cons_succ]
                      refine wpAnyH_take (i := 12) (oi := _) (v := ?_) rfl (by kernel_rfl) (by kernel_rfl) (by kernel_rfl) (fun _ _ _ h => h) (Or.inl ⟨by rfl, ?_⟩) (by assumption) ?_
                      rotate_left
                      · intro w hSw
                        try dsimp only at hSw
                        go_simp
                        all_goals with_reducible rfl
                      simp only [List.getElem_toArray, List.getElem_cons_succ, List.getElem_cons_zero, Act.put, List.setIfInBounds_toArray, List.set_cons_zero, List.set_cons_succ]
                      refine wpAnyH_take (i := 13) (oi := _) (v := ?_) rfl (by kernel_rfl) (by kernel_rfl) (by kernel_rfl) (fun _ _ _ h => h) (Or.inl ⟨by rfl, ?_⟩) (by assumption) ?_
                      rotate_left
                      · intro w hSw
                        try dsimp only at hSw
                        go_simp
                        all_goals with_reducible rfl
                      simp only [List.getElem_toArray, List.getElem_cons_succ, List.getElem_cons_zero, Act.put, List.setIfInBounds_toArray, List.set_cons_zero, List.set_cons_succ]
                      refine wpAnyH_ready (rs := [9]) (by kernel_rfl) (by simp) ?_
                      refine AllReadyH.cons (o := _) rfl (fun K hK => ?_) AllReadyH.nil
                      go_simp
                      refine (HIT.out _ hHeld).mono ?_
                      rintro e w9 ⟨rfl, k9⟩
                      have HB99 := Lib.hid (hHeld.trans (k9.mono hHeld.size))
                      refine hK.out _ _ HB99.out (fun hHeld1 => ?_)
                      clear hHeld k9 hK K
                      try simp only [List.getElem_toArray, List.getElem_cons_succ, List.getElem_cons_zero, Act.put, List.setIfInBounds_toArray, List.set_cons_zero, List.set_cons_succ]
                      refine wpAnyH_take (i := 14) (oi := _) (v := ?_) rfl (by kernel_rfl) (by kernel_rfl) (by kernel_rfl) (fun _ _ _ h => h) (Or.inl ⟨by rfl, ?_⟩) (by assumption) ?_
                      rotate_left
                      · intro w hSw
                        try dsimp only at hSw
                        go_simp
                        all_goals with_reducible rfl
                      simp only [List.getElem_toArray, List.getElem_cons_succ, List.getElem_cons_zero, Act.put, List.setIfInBounds_toArray, List.set_cons_zero, List.set_cons_succ]
                      refine wpAnyH_take (i := 15) (oi := _) (v := ?_) rfl (by kernel_rfl) (by kernel_rfl) (by kernel_rfl) (fun _ _ _ h => h) (Or.inl ⟨by rfl, ?_⟩) (by assumption) ?_
                      rotate_left
                      · intro w hSw
                        try dsimp only at hSw
                        go_simp
                        all_goals with_reducible rfl
                      simp only [List.getElem_toArray, List.getElem_cons_succ, List.getElem_cons_zero, Act.put, List.setIfInBounds_toArray, List.set_cons_zero, List.set_cons_succ]
                      refine wpAnyH_done (by kernel_rfl) ?_ _
                      clear hHeld1
                      have HB9 := Lib.hid (HB.out.trans (HB99.out.mono HB.out.size))
                      have HO9 := Lib.hid (HO.out.below HB99.out)
                      clear HB99
                      go_wp2_with fail
                      refine (HP.out _ HB9.out).mono ?_
                      rintro e w4 ⟨u, rfl, o4, k4⟩
                      obtain ⟨q, qc, rfl⟩ := slice_of_owns o4
                      have HB4 := Lib.hid (HB9.out.trans (k4.mono HB9.out.size))
                      have HX4 := Lib.hid (ownsRow_base o4 HB9.out.size)
                      have HO4 := Lib.hid (HO9.out.below k4)
                      clear k4 o4 HP HO9
                      by_cases he : er = 0
                      · subst he
                        obtain ⟨hvx, htx⟩ := HG.out.1 rfl
                        have h8 := HG.out.2.2
                        have hbz := HB4.out.size
                        go_wp2_with (at_builtin; refine wpList_append_own _ rfl _ _ 23 rfl w.heap.size 38 i0 (.agg #[.slice none 0 0, .int .i64 0]) 2 32 Tryz.underlying23 hii hz0 hz1 hz2 rfl (by decide) _ _ _ rfl (HO4.out.1.alloc _) ⟨w4.heap.size, 0, none⟩ 1 1 (cellsI ((q, xs, qc), n)) rfl rfl (cells_new _ _ _) (by simp [cellsI, rowv, Value.oneCell']) (by unfold maxLen; omega) (by omega) (by simp; omega) ?_; intro v3 w3 hown3 hgrow3 _; have HO3 := Lib.hid (HO4.out.appended (x := ((q, xs, qc), n)) HX4.out hown3 hgrow3); have HB3 := Lib.hid (show Below w.heap.size w w3 from (HB4.out.alloc HB4.out.size _).grown hgrow3 (by simp; omega) (fun k e => (HO4.out.1.lt k e).1)); clear hown3 hgrow3)
                        obtain ⟨p3, c3, rfl⟩ := slice_of_owns HO3.out.1
                        have hl3 : (rs ++ [(((q, xs, qc) : RowV), n)]).length = rs.length + 1 := by simp
                        have h89 : ∀ r ∈ rs ++ [(((q, xs, qc) : RowV), n)], r.1.2.1.length ≤ 9223372036854775807 := fun r hr => by
                          rcases List.mem_append.1 hr with hr | hr
                          · have h1 := (validBag_iff.1 HV.out).2.1 (itv r) (List.mem_map_of_mem hr)
                            have h2 := (valid_split (itOK_iff.1 h1).1).1
                            dsimp only [itv] at h2
                            omega
                          · rw [List.mem_singleton] at hr
                            subst hr
                            dsimp only
                            omega
                        have HVV := Lib.hid (refBagValid_any p3 (rs ++ [(((q, xs, qc) : RowV), n)]) c3 (by rw [hl3]; omega) w3 (HO3.out.items rfl h89))
                        rw [show vals (rs ++ [(((q, xs, qc) : RowV), n)]) = vals rs ++ [(xs, n)] from vals_app rs [(((q, xs, qc) : RowV), n)], valid_snoc, HV.out, Bool.true_and] at HVV
                        have HLX := Lib.hid (show z ++ [10] = lineT (xs, n) by rw [HZY.out.1, ← htx]; unfold lineT; simp)
                        have HSM := Lib.hid (And.intro hvx htx)
                        clear hvx htx h89 HO4 HX4
                        cases hf : followsB (vals rs) (xs, n) with
                        | true =>
                          rw [hf] at HVV
                          have HFV := Lib.hid (show validBag (vals (rs ++ [(((q, xs, qc) : RowV), n)])) = true by rw [show vals (rs ++ [(((q, xs, qc) : RowV), n)]) = vals rs ++ [(xs, n)] from vals_app rs [(((q, xs, qc) : RowV), n)]]; exact valid_follow HV.out hf)
                          have HGO := Lib.hid (show readsL [] (linesT s.data.toList) = readsL (vals (rs ++ [(((q, xs, qc) : RowV), n)])) (linesT (s.data.toList.drop (k + 1))) by
                            rw [HQ.out, HL.out, reads_go HLX.out hf, show vals (rs ++ [(((q, xs, qc) : RowV), n)]) = vals rs ++ [(xs, n)] from vals_app rs [(((q, xs, qc) : RowV), n)]])
                          clear hf
                          go_wp2_with fail
                          refine HVV.out.mono ?_
                          rintro e w5 ⟨rfl, k5⟩
                          have HB5 := Lib.hid (HB3.out.trans (k5.mono HB3.out.size))
                          have HO5 := Lib.hid (HO3.out.below k5)
                          clear k5 HO3
                          go_wp2_with fail
                          go_roundw
                          case rel => exact ⟨p3, c3, rs ++ [(((q, xs, qc) : RowV), n)], k + 1, by rw [hl3], by rw [hl3]; go_num, by have := HK.out; go_num, HK.out.2.2, HFV.out, Lib.hid (by have := HO5.out; rwa [hl3] at this), HGO.out, HB5.out⟩
                          case measure => have := HK.out; have := HI.out; simp [intOf]; omega
                        | false =>
                          rw [hf] at HVV
                          have HOUT := Lib.hid (HBAD.out (fun x hx hf2 h => by
                            obtain ⟨h1, h2⟩ := HX.out x h
                            have h3 := inN_in (itOK_iff.1 hx).2
                            have h4 := HNV.out
                            rw [h1, num_itoa h3.1 h3.2] at h4
                            have h5 := textR_inj (itOK_iff.1 hx).1 HSM.out.1 (by rw [← h2, HSM.out.2])
                            have h6 : x = (xs, n) := Prod.ext h5 (congrArg Prod.fst h4)
                            rw [h6, hf] at hf2
                            cases hf2))
                          clear hf
                          go_wp2_with fail
                          refine HVV.out.mono ?_
                          rintro e w5 ⟨rfl, k5⟩
                          have HBX := Lib.hid (HB3.out.trans (k5.mono HB3.out.size))
                          clear k5
                          go_wp2_with fail
                          refine bodyPost_ret (v := .tuple #[.slice none 0 0, .int .i64 rs.length, .int .i64 2]) (by simp [results, Tryz.f11, go_sem]) rfl ?_
                          exact ⟨_, [], by rw [HOUT.out]; try rfl, OwnItems.nil _ _, by rw [HOUT.out]; rfl, HBX.out⟩
                      · have e1 : (er != 0) = true := by simpa using he
                        have HOUT := Lib.hid (HBAD.out (fun x hx _ h => by
                          obtain ⟨h1, h2⟩ := HX.out x h
                          exact he (HG.out.2.1 ⟨x.1, (itOK_iff.1 hx).1, h2.symm⟩)))
                        have HBX := HB4
                        go_wp2_with fail
                        refine bodyPost_ret (v := .tuple #[.slice none 0 0, .int .i64 rs.length, .int .i64 2]) (by simp [results, Tryz.f11, go_sem]) rfl ?_
                        exact ⟨_, [], by rw [HOUT.out]; try rfl, OwnItems.nil _ _, by rw [HOUT.out]; rfl, HBX.out⟩
                    · have hne := bs_ne hq
                      have HOUT := Lib.hid (HBAD.out (fun x hx _ h => by
                        obtain ⟨h1, h2⟩ := HX.out x h
                        have h3 := inN_in (itOK_iff.1 hx).2
                        have h4 := HNV.out
                        rw [h1, num_itoa h3.1 h3.2] at h4
                        exact hq (by rw [h1, show x.2 = n from congrArg Prod.fst h4])))
                      clear hq
                      generalize bs (Lib.itoa n) = yb at HIT hne
                      generalize bs y = yc at hsl1 hne
                      have hzy : (yb.toList == yc.toList) = false := by simpa using hne
                      go_wp2_with fail
                      refine wp_region_held_drew (S := fun W' : World => Below wr.heap.size wr W') (by kernel_rfl) ((Below.refl _ _).drew) (fun hHeld => ?_)
                      refine wpAnyH_take (i := 0) (oi := _) (v := ?_) rfl (by kernel_rfl) (by kernel_rfl) (by kernel_rfl) (fun _ _ _ h => h) (Or.inl ⟨by rfl, ?_⟩) (by assumption) ?_
                      rotate_left
                      · intro w hSw
                        try dsimp only at hSw
                        go_simp
                        all_goals with_reducible rfl
                      simp only [List.getElem_toArray, List.getElem_cons_succ, List.getElem_cons_zero, Act.put, List.setIfInBounds_toArray, List.set_cons_zero, List.set_cons_succ]
                      refine wpAnyH_take (i := 1) (oi := _) (v := ?_) rfl (by kernel_rfl) (by kernel_rfl) (by kernel_rfl) (fun _ _ _ h => h) (Or.inl ⟨by rfl, ?_⟩) (by assumption) ?_
                      rotate_left
                      · intro w hSw
                        try dsimp only at hSw
                        go_simp
                        all_goals with_reducible rfl
                      simp only [List.getElem_toArray, List.getElem_cons_succ, List.getElem_cons_zero, Act.put, List.setIfInBounds_toArray, List.set_cons_zero, List.set_cons_succ]
                      refine wpAnyH_take (i := 2) (oi := _) (v := ?_) rfl (by kernel_rfl) (by kernel_rfl) (by kernel_rfl) (fun _ _ _ h => h) (Or.inl ⟨by rfl, ?_⟩) (by assumption) ?_
                      rotate_left
                      · intro w hSw
                        try dsimp only at hSw
                        go_simp
                        all_goals with_reducible rfl
                      simp only [List.getElem_toArray, List.getElem_cons_succ, List.getElem_cons_zero, Act.put, List.setIfInBounds_toArray, List.set_cons_zero, List.set_cons_succ]
                      refine wpAnyH_take (i := 3) (oi := _) (v := ?_) rfl (by kernel_rfl) (by kernel_rfl) (by kernel_rfl) (fun _ _ _ h => h) (Or.inl ⟨by rfl, ?_⟩) (by assumption) ?_
                      rotate_left
                      · intro w hSw
                        try dsimp only at hSw
                        go_simp
                        all_goals with_reducible rfl
                      simp only [List.getElem_toArray, List.getElem_cons_succ, List.getElem_cons_zero, Act.put, List.setIfInBounds_toArray, List.set_cons_zero, List.set_cons_succ]
                      refine wpAnyH_take (i := 4) (oi := _) (v := ?_) rfl (by kernel_rfl) (by kernel_rfl) (by kernel_rfl) (fun _ _ _ h => h) (Or.inl ⟨by rfl, ?_⟩) (by assumption) ?_
                      rotate_left
                      · intro w hSw
                        try dsimp only at hSw
                        go_simp
                        all_goals with_reducible rfl
                      simp only [List.getElem_toArray, List.getElem_cons_succ, List.getElem_cons_zero, Act.put, List.setIfInBounds_toArray, List.set_cons_zero, List.set_cons_succ]
                      refine wpAnyH_take (i := 5) (oi := _) (v := ?_) rfl (by kernel_rfl) (by kernel_rfl) (by kernel_rfl) (fun _ _ _ h => h) (Or.inl ⟨by rfl, ?_⟩) (by assumption) ?_
                      rotate_left
                      · intro w hSw
                        try dsimp only at hSw
                        go_simp
                        all_goals with_reducible rfl
                      simp only [List.getElem_toArray, List.getElem_cons_succ, List.getElem_cons_zero, Act.put, List.setIfInBounds_toArray, List.set_cons_zero, List.set_cons_succ]
                      refine wpAnyH_take (i := 6) (oi := _) (v := ?_) rfl (by kernel_rfl) (by kernel_rfl) (by kernel_rfl) (fun _ _ _ h => h) (Or.inl ⟨by rfl, ?_⟩) (by assumption) ?_
                      rotate_left
                      · intro w hSw
                        try dsimp only at hSw
                        go_simp
                        all_goals with_reducible rfl
                      simp only [List.getElem_toArray, List.getElem_cons_succ, List.getElem_cons_zero, Act.put, List.setIfInBounds_toArray, List.set_cons_zero, List.set_cons_succ]
                      refine wpAnyH_take (i := 7) (oi := _) (v := ?_) rfl (by kernel_rfl) (by kernel_rfl) (by kernel_rfl) (fun _ _ _ h => h) (Or.inl ⟨by rfl, ?_⟩) (by assumption) ?_
                      rotate_left
                      · intro w hSw
                        try dsimp only at hSw
                        go_simp
                        all_goals with_reducible rfl
                      simp only [List.getElem_toArray, List.getElem_cons_succ, List.getElem_cons_zero, Act.put, List.setIfInBounds_toArray, List.set_cons_zero, List.set_cons_succ]
                      refine wpAnyH_take (i := 8) (oi := _) (v := ?_) rfl (by kernel_rfl) (by kernel_rfl) (by kernel_rfl) (fun _ _ _ h => h) (Or.inl ⟨by rfl, ?_⟩) (by assumption) ?_
                      rotate_left
                      · intro w hSw
                        try dsimp only at hSw
                        go_simp
                        all_goals with_reducible rfl
                      simp only [List.getElem_toArray, List.getElem_cons_succ, List.getElem_cons_zero, Act.put, List.setIfInBounds_toArray, List.set_cons_zero, List.set_cons_succ]
                      refine wpAnyH_take (i := 10) (oi := _) (v := ?_) rfl (by kernel_rfl) (by kernel_rfl) (by kernel_rfl) (fun _ _ _ h => h) (Or.inl ⟨by rfl, ?_⟩) (by assumption) ?_
                      rotate_left
                      · intro w hSw
                        try dsimp only at hSw
                        go_simp
                        all_goals with_reducible rfl
                      simp only [List.getElem_toArray, List.getElem_cons_succ, List.getElem_cons_zero, Act.put, List.setIfInBounds_toArray, List.set_cons_zero, List.set_cons_succ]
                      refine wpAnyH_take (i := 11) (oi := _) (v := ?_) rfl (by kernel_rfl) (by kernel_rfl) (by kernel_rfl) (fun _ _ _ h => h) (Or.inl ⟨by rfl, ?_⟩) (by assumption) ?_
                      rotate_left
                      · intro w hSw
                        try dsimp only at hSw
                        go_simp
                        all_goals with_reducible rfl
                      simp only [List.getElem_toArray, List.getElem_cons_succ, List.getElem_cons_zero, Act.put, List.setIfInBounds_toArray, List.set_cons_zero, List.set_cons_succ]
                      refine wpAnyH_take (i := 12) (oi := _) (v := ?_) rfl (by kernel_rfl) (by kernel_rfl) (by kernel_rfl) (fun _ _ _ h => h) (Or.inl ⟨by rfl, ?_⟩) (by assumption) ?_
                      rotate_left
                      · intro w hSw
                        try dsimp only at hSw
                        go_simp
                        all_goals with_reducible rfl
                      simp only [List.getElem_toArray, List.getElem_cons_succ, List.getElem_cons_zero, Act.put, List.setIfInBounds_toArray, List.set_cons_zero, List.set_cons_succ]
                      refine wpAnyH_take (i := 13) (oi := _) (v := ?_) rfl (by kernel_rfl) (by kernel_rfl) (by kernel_rfl) (fun _ _ _ h => h) (Or.inl ⟨by rfl, ?_⟩) (by assumption) ?_
                      rotate_left
                      · intro w hSw
                        try dsimp only at hSw
                        go_simp
                        all_goals with_reducible rfl
                      simp only [List.getElem_toArray, List.getElem_cons_succ, List.getElem_cons_zero, Act.put, List.setIfInBounds_toArray, List.set_cons_zero, List.set_cons_succ]
                      refine wpAnyH_ready (rs := [9]) (by kernel_rfl) (by simp) ?_
                      refine AllReadyH.cons (o := _) rfl (fun K hK => ?_) AllReadyH.nil
                      go_simp
                      refine (HIT.out _ hHeld).mono ?_
                      rintro e w9 ⟨rfl, k9⟩
                      have HB99 := Lib.hid (hHeld.trans (k9.mono hHeld.size))
                      refine hK.out _ _ HB99.out (fun hHeld1 => ?_)
                      clear hHeld k9 hK K
                      try simp only [List.getElem_toArray, List.getElem_cons_succ, List.getElem_cons_zero, Act.put, List.setIfInBounds_toArray, List.set_cons_zero, List.set_cons_succ]
                      refine wpAnyH_take (i := 14) (oi := _) (v := ?_) rfl (by kernel_rfl) (by kernel_rfl) (by kernel_rfl) (fun _ _ _ h => h) (Or.inl ⟨by rfl, ?_⟩) (by assumption) ?_
                      rotate_left
                      · intro w hSw
                        try dsimp only at hSw
                        go_simp
                        all_goals with_reducible rfl
                      simp only [List.getElem_toArray, List.getElem_cons_succ, List.getElem_cons_zero, Act.put, List.setIfInBounds_toArray, List.set_cons_zero, List.set_cons_succ]
                      refine wpAnyH_take (i := 15) (oi := _) (v := ?_) rfl (by kernel_rfl) (by kernel_rfl) (by kernel_rfl) (fun _ _ _ h => h) (Or.inl ⟨by rfl, ?_⟩) (by assumption) ?_
                      rotate_left
                      · intro w hSw
                        try dsimp only at hSw
                        go_simp
                        all_goals with_reducible rfl
                      simp only [List.getElem_toArray, List.getElem_cons_succ, List.getElem_cons_zero, Act.put, List.setIfInBounds_toArray, List.set_cons_zero, List.set_cons_succ]
                      refine wpAnyH_done (by kernel_rfl) ?_ _
                      clear hHeld1
                      have HB9 := Lib.hid (HB.out.trans (HB99.out.mono HB.out.size))
                      have HO9 := Lib.hid (HO.out.below HB99.out)
                      clear HB99
                      have HBX := HB9
                      go_wp2_with fail
                      refine bodyPost_ret (v := .tuple #[.slice none 0 0, .int .i64 rs.length, .int .i64 2]) (by simp [results, Tryz.f11, go_sem]) rfl ?_
                      exact ⟨_, [], by rw [HOUT.out]; try rfl, OwnItems.nil _ _, by rw [HOUT.out]; rfl, HBX.out⟩
                · have e32 : ((s[c].toNat : Int) == 32) = false := by rw [beq_eq_false_iff_ne]; omega
                  have n32 : ((s[c].toNat : Int) != 32) = true := by rw [bne_iff_ne]; omega
                  have HNX := Lib.hid (take_more hic (at_byte hcs) (fun e => h32 (by rw [e]; rfl)) HN2.out)
                  have HCL := Lib.hid (And.intro hic (show c + 1 ≤ k by omega))
                  clear HN2 h32
                  go_wp2_with fail
                  go_round
                  case rel => exact ⟨c + 1, by have := HS.out.1; have := HK.out; go_num, by have := HCL.out; omega, HCL.out.2, HNX.out⟩
                  case measure => have := HCL.out; simp [intOf]; omega
              · have hce : c = k := by omega
                subst hce
                have c1 : ¬ (c : Int) < (c : Int) := by omega
                have HOUT := Lib.hid (HBAD.out (fun x hx _ => no_line (by rw [HZ.out]; exact HN2.out) x))
                have hsl1 := slice_str s i c hic (by omega)
                have hys : (bs ((s.data.toList.drop i).take (c - i))).size ≤ 70000 := by rw [bs_size, List.length_take, List.length_drop]; omega
                have HNUM := Lib.hid (fun W => refNumber_any (bs ((s.data.toList.drop i).take (c - i))) (by omega) W)
                rw [bs_data] at HNUM
                generalize bs ((s.data.toList.drop i).take (c - i)) = yb at hsl1 HNUM
                obtain ⟨n, hn⟩ : ∃ n, n = (numVal ((s.data.toList.drop i).take (c - i))).1 := ⟨_, rfl⟩
                obtain ⟨ok, hok⟩ : ∃ ok, ok = (numVal ((s.data.toList.drop i).take (c - i))).2 := ⟨_, rfl⟩
                rw [← hn, ← hok] at HNUM
                have cee : ((c : Int) == (c : Int)) = true := by simp
                clear HN2 hn hok hys hcl
                go_wp2_with fail
                refine (HNUM.out _).mono ?_
                rintro e w9 ⟨rfl, rfl⟩
                cases ok with
                | false =>
                  go_wp2_with fail
                  go_quiet (fail)
                  have HBX := Lib.hid (below_drewN HB.out nq)
                  go_wp2_with fail
                  refine bodyPost_ret (v := .tuple #[.slice none 0 0, .int .i64 rs.length, .int .i64 2]) (by simp [results, Tryz.f11, go_sem]) rfl ?_
                  exact ⟨_, [], by rw [HOUT.out]; try rfl, OwnItems.nil _ _, by rw [HOUT.out]; rfl, HBX.out⟩
                | true =>
                  go_wp2_with fail
                  go_quiet (fail)
                  have HBX := Lib.hid (below_drewN HB.out nq)
                  go_wp2_with fail
                  refine bodyPost_ret (v := .tuple #[.slice none 0 0, .int .i64 rs.length, .int .i64 2]) (by simp [results, Tryz.f11, go_sem]) rfl ?_
                  exact ⟨_, [], by rw [HOUT.out]; try rfl, OwnItems.nil _ _, by rw [HOUT.out]; rfl, HBX.out⟩
          · have e10 : ((s[k].toNat : Int) == 10) = false := by rw [beq_eq_false_iff_ne]; omega
            have n10 : ((s[k].toNat : Int) != 10) = true := by rw [bne_iff_ne]; omega
            have HNX := Lib.hid (take_more hik (at_byte hkl) (fun e => h10 (by rw [e]; rfl)) HN.out)
            have HKL := Lib.hid (And.intro hik hkl)
            clear HN h10
            go_wp2_with fail
            go_round
            case rel => exact ⟨k + 1, by have := HS.out.1; go_num, by have := HKL.out; omega, HKL.out.2, HNX.out⟩
            case measure => have := HKL.out; simp [intOf]; omega
        · have hke : k = s.size := by omega
          have k1 : ¬ (k : Int) < (s.size : Int) := by omega
          have kee : ((k : Int) == (s.size : Int)) = true := by rw [beq_iff_eq]; omega
          have HOUT := Lib.hid (show readsL [] (linesT s.data.toList) = ([], (rs.length : Int), 2) by
            have hno : (10 : UInt8) ∉ s.data.toList.drop i := by
              have := HN.out
              rwa [hke, List.take_of_length_le (by rw [List.length_drop, HS.out.2]; omega)] at this
            rw [HQ.out, lines_cons HNE.out, (first_last hno).1, reads_stop (fun x hx => absurd hx (no_feed hno x)), vals_len])
          have HBX := HB
          clear HN hkl hke
          go_wp2_with fail
          refine bodyPost_ret (v := .tuple #[.slice none 0 0, .int .i64 rs.length, .int .i64 2]) (by simp [results, Tryz.f11, go_sem]) rfl ?_
          exact ⟨_, [], by rw [HOUT.out]; try rfl, OwnItems.nil _ _, by rw [HOUT.out]; rfl, HBX.out⟩
    · have hie : i = s.size := by omega
      have j1 : ¬ (i : Int) < (s.size : Int) := by omega
      have HOUT := Lib.hid (show readsL [] (linesT s.data.toList) = (vals rs, 0, 0) by
        rw [HQ.out, hie, List.drop_eq_nil_of_le (by rw [HS.out.2]; exact Nat.le_refl _), lines_nil]; rfl)
      clear hlt hie
      go_wp2_with fail
      refine bodyPost_ret (v := .tuple #[.slice p rs.length cap, .int .i64 0, .int .i64 0]) (by simp [results, Tryz.f11, go_sem]) rfl ?_
      exact ⟨_, rs, by rw [HOUT.out]; try rfl, HO.out, by rw [HOUT.out], HB.out⟩
end Go.Proofs.YtledgnolmiecfaaGreatDoor
