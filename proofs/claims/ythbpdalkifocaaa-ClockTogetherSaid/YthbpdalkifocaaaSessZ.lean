/-
  clock's checkSessions and merged sessions at whatever times came in; both Sessions under one contract.
-/
import Derived.Test.YthbpdalkifocaaaRefSess
namespace Go.Proofs.Ythbpdalkifocaaa
open Go.RowKit

theorem indexTime_zero (p : Option Addr) (cap : Nat) (w : World) :
    Calls Try.prog 51 #[.slice p 0 cap, .func (.func 41) #[] #[]] w fun e w' => e = .returned (.int .i64 (-1)) ∧ w' = w := by
  go_enter Try.func51, Try.ntmps51
  go_wp2
  refine wp_loop_rounds 1 ?_
  rw [rounds_succ]
  go_wp2
  go_ret
  exact ⟨rfl, rfl⟩
theorem containsTime_zero (p : Option Addr) (cap : Nat) (w : World) :
    Calls Try.prog 43 #[.slice p 0 cap, .func (.func 41) #[] #[]] w fun e w' => e = .returned (.bool false) ∧ w' = w := by
  go_enter Try.func43, Try.ntmps43
  go_wp2_with (go_at_call 51; refine (indexTime_zero _ _ _).mono ?_; rintro e w' ⟨rfl, rfl⟩)
  go_ret
  exact ⟨rfl, rfl⟩
theorem checkSessions_zero (g : Int) (p : Option Addr) (cap : Nat) (w : World) :
    Calls Try.prog 24 #[.int .i64 g, .slice p 0 cap] w fun e w' => e = .returned (.int .i64 (sessErr g [])) ∧ w' = w := by
  have hw := fun W => within_any g 1 1000000000 W
  by_cases hg : 1 ≤ g ∧ g ≤ 1000000000
  · rw [inR_yes hg] at hw
    have he : sessErr g [] = 0 := by unfold sessErr; rw [if_neg (by simp), if_pos ⟨hg.1, hg.2, rfl⟩]
    rw [he]
    have HW := Lib.hid hw
    clear he hw hg
    go_enter Try.func24, Try.ntmps24
    go_wp2_with (first | (go_at_call 42; refine (HW.out _).mono ?_; rintro e w' ⟨rfl, rfl⟩) | (go_at_call 43; refine (containsTime_zero _ _ _).mono ?_; rintro e w' ⟨rfl, rfl⟩))
    go_ret
    exact ⟨rfl, rfl⟩
  · rw [inR_no hg] at hw
    have he : sessErr g [] = 7 := by unfold sessErr; rw [if_neg (by simp), if_neg (fun h => hg ⟨h.1, h.2.1⟩)]
    rw [he]
    have HW := Lib.hid hw
    clear he hw hg
    go_enter Try.func24, Try.ntmps24
    go_wp2_with (go_at_call 42; refine (HW.out _).mono ?_; rintro e w' ⟨rfl, rfl⟩)
    go_ret
    exact ⟨rfl, rfl⟩
theorem checkSessions_any (g : Int) (p : Option Addr) (cap : Nat) (ts : List Int) (w : World) (hX : IntsIn w p ts) :
    Calls Try.prog 24 #[.int .i64 g, .slice p ts.length cap] w fun e w' => e = .returned (.int .i64 (sessErr g ts)) ∧ w' = w := by
  cases ts with
  | nil => exact checkSessions_zero g p cap w
  | cons t ts =>
    obtain ⟨b, off, rfl, _, hx⟩ := hX (by simp)
    exact checkSessions_some g b off cap _ w hx

set_option maxRecDepth 100000 in
theorem times1_nil (n : Nat) (hn : 1 ≤ n) (l Bt Bg cap : Nat) (p : Option Addr) (J Jx : List (Int × Int) → World → Prop) (W : World)
    (hS : W.cell? ⟨Bt, 0, none⟩ = some (.slice p 0 cap)) (h0 : J [] W) :
    CallsIn Fence.wide n Try.prog 44 #[.func (.yield l) #[] #[], .pointer (some ⟨Bt, 0, none⟩), .pointer (some ⟨Bg, 0, none⟩)] W fun e W' => (∃ v, e = .returned v) ∧
      ((∃ ys, ys = [] ∧ J ys W') ∨ (∃ pre, pre <+: [] ∧ Jx pre W')) := by
  have h1 := hn
  refine callsIn_of_wp Try.func44 rfl trivial ?_ rfl
  simp only [Try.ntmps44, List.size_toArray, List.length_cons, List.length_nil, Nat.reduceAdd, Nat.reduceSub, Array.replicate_succ, Array.replicate_zero, List.push_toArray, List.append_toArray, List.nil_append, List.cons_append]
  gi_wp2_with fail
  gi_loopw [8] (fun a wr => a = .int .i64 0 ∧ J [] wr) (fun a _ => 0)
  case atStart => exact ⟨rfl, h0⟩
  case round =>
    obtain ⟨rfl, hJi⟩ := hrel
    gi_wp2_with fail
    go_end0
    exact ⟨⟨_, rfl⟩, .inl ⟨[], rfl, hJi⟩⟩

/-- merged over the windows of times that came in. -/
theorem mergedTimes (g : Int) (p : Option Addr) (cap : Nat) (ts : List Int) (h : sessErr g ts = 0) (w : World) (hX : IntsIn w p ts) :
    Calls Try.prog 20 #[.func (.func 44) #[] #[.pointer (some ⟨w.heap.size + 1, 0, none⟩), .pointer (some ⟨w.heap.size, 0, none⟩)], .func (.func 11) #[] #[]] ((w.alloc (.cells #[.int .i64 g] 3)).alloc (.cells #[.slice p ts.length cap] 23)) fun e w' =>
      ∃ v ys, e = .returned v ∧ Sep ys ∧ (∀ p, cov ys p ↔ cov (sessW g ts) p) ∧ ys.length ≤ (sessW g ts).length ∧ w'.ownsRow w.heap.size 31 2 v ys.length (flatW ys) ∧ Below w.heap.size w w' := by
  have hall : ts.length ≤ 400 ∧ 1 ≤ g ∧ g ≤ 1000000000 ∧ badTimes ts = false := by
    unfold sessErr at h
    by_cases h1 : 400 < ts.length
    · rw [if_pos h1] at h; omega
    · rw [if_neg h1] at h
      by_cases h2 : 1 ≤ g ∧ g ≤ 1000000000 ∧ badTimes ts = false
      · exact ⟨by omega, h2⟩
      · rw [if_neg h2] at h; omega
  obtain ⟨hm, hg, hg', hb⟩ := hall
  have hin := inTime_of_bad hb
  have eg : ∀ args w, (callFunc 44 args).run Try.prog w = .ok (.enter 44 args) w := enters_of Try.func44 (by kernel_rfl) rfl
  have hB2 := ((Below.refl w.heap.size w).alloc (Nat.le_refl _) (.cells #[.int .i64 g] 3)).alloc (by simp) (.cells #[.slice p ts.length cap] 23)
  have hz : ((w.alloc (.cells #[.int .i64 g] 3)).alloc (.cells #[.slice p ts.length cap] 23)).heap.size = w.heap.size + 1 + 1 := by simp
  have hcg : ((w.alloc (.cells #[.int .i64 g] 3)).alloc (.cells #[.slice p ts.length cap] 23)).cell? ⟨w.heap.size, 0, none⟩ = some (.int .i64 g) := by
    refine Lib.cell?_alloc_some _ ?_
    simp [World.cell?_alloc_new]
  have hct : ((w.alloc (.cells #[.int .i64 g] 3)).alloc (.cells #[.slice p ts.length cap] 23)).cell? ⟨w.heap.size + 1, 0, none⟩ = some (.slice p ts.length cap) := by
    have e : w.heap.size + 1 = (w.alloc (.cells #[.int .i64 g] 3)).heap.size := by simp
    rw [e]
    exact (Blk.new _ _ _).cell 0
  have hX2 := hX.belowV hB2
  generalize (w.alloc (.cells #[.int .i64 g] 3)).alloc (.cells #[.slice p ts.length cap] 23) = w2 at hB2 hcg hct hz hX2 ⊢
  cases ts with
  | nil =>
    have hst : SeqStopsK Fence.wide 1 Try.prog 44 #[.pointer (some ⟨w.heap.size + 1, 0, none⟩), .pointer (some ⟨w.heap.size, 0, none⟩)] encW (Below w2.heap.size) (fun ys => ys = []) (fun pre => pre <+: []) 0 w2 := fun l J Jx W hW _ _ _ h0 =>
      times1_nil 1 (by omega) l (w.heap.size + 1) w.heap.size cap p J Jx W ((hW.cell (p := ⟨w.heap.size + 1, 0, none⟩) (by show w.heap.size + 1 < w2.heap.size; omega)).trans hct) h0
    refine (merged_in 3 (by omega) _ _ eg w2.heap.size (fun ys => ys = []) (fun pre => pre <+: []) 0 (by unfold maxLen; omega) (by omega) (fun ys h => by rw [h]; simp) w2 (Nat.le_refl _) hst).mono ?_
    rintro e w3 ⟨v, xs', zs, rfl, rfl, hp, ha, hl, hrow, hB3⟩
    obtain rfl : zs = [] := hp.eq_nil
    exact ⟨v, [], rfl, ⟨by simp, by simp⟩, fun q => Iff.rfl, Nat.le_refl _, ownsRow_base hrow (by omega), hB2.trans (hB3.mono hB2.size)⟩
  | cons t ts =>
    obtain ⟨bk, off, rfl, hbk, hx⟩ := hX (by simp)
    obtain ⟨bk', off', he, _, hx2⟩ := hX2 (by simp)
    cases he
    have hst := times_stops 1 (by omega) (w.heap.size + 1) w.heap.size bk off cap w2.heap.size g hg hg' (t :: ts) (by omega) hin w2 (Nat.le_refl _) (by omega) (by omega) (by omega) hct hcg hx2
    refine (merged_in 3 (by omega) _ _ eg w2.heap.size (fun ys => ys = sessW g (t :: ts)) (fun pre => pre <+: sessW g (t :: ts)) (t :: ts).length (by unfold maxLen; omega) (by omega) (fun ys h => by rw [h, sessW_len]; omega) w2 (Nat.le_refl _) hst).mono ?_
    rintro e w3 ⟨v, xs', zs, rfl, rfl, hp, ha, hl, hrow, hB3⟩
    obtain ⟨s1, s2⟩ := sweep_sorted hp ha (sessW_ok hg hg' hin)
    exact ⟨v, sweep zs, rfl, s1, s2, hl, ownsRow_base hrow (by omega), hB2.trans (hB3.mono hB2.size)⟩

/-- clock.Sessions, whatever the times that came in. -/
theorem clkSessions_any (g : Int) (p : Option Addr) (cap : Nat) (ts : List Int) (w : World) (hX : IntsIn w p ts) :
    Calls Try.prog 12 #[.int .i64 g, .slice p ts.length cap] w (SessPost w g ts) := by
  have hc := checkSessions_any g p cap ts w hX
  by_cases h : sessErr g ts = 0
  · have hmg := mergedTimes g p cap ts h w hX
    rw [h] at hc
    have HC := Lib.hid hc
    have HM := Lib.hid hmg
    have HH := Lib.hid h
    clear hc hmg h hX
    go_enter Try.func12, Try.ntmps12
    go_wp2_with (first
      | (go_at_call 24; refine HC.out.mono ?_; rintro e w' ⟨rfl, rfl⟩)
      | (go_at_call 25; refine (sessionsOf_any _ _ _ _ _).mono ?_; rintro e w2 ⟨rfl, rfl⟩)
      | (go_at_call 20; refine HM.out.mono ?_; rintro e w3 ⟨v, ys, rfl, h1, h2, h3, hrow, hB3⟩))
    go_ret2
    exact .inr ⟨HH.out, ys, h1, h2, h3, _, rfl, hrow, hB3⟩
  · have hne : (sessErr g ts != 0) = true := by rw [bne_iff_ne]; exact h
    have HH := Lib.hid h
    unfold SessPost
    generalize hE : sessErr g ts = er at hc hne HH
    have HE := Lib.hid hE
    have HC := Lib.hid hc
    clear hc hX h hE
    go_enter Try.func12, Try.ntmps12
    go_wp2_with (go_at_call 24; refine HC.out.mono ?_; rintro e w' ⟨rfl, rfl⟩)
    go_ret2
    exact .inl ⟨HH.out, _, rfl, World.ownsRow_nil _ _ _ _, Below.refl _ _⟩
#print axioms clkSessions_any
end Go.Proofs.Ythbpdalkifocaaa
