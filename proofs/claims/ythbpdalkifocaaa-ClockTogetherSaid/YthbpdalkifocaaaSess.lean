/-
  clock.Sessions, as a contract.
-/
import Derived.Test.YthbpdalkifocaaaCheck
namespace Go.Proofs.Ythbpdalkifocaaa
open Go.RowKit

theorem TimesAt.lt {W : World} {bk off : Nat} {ts : List Int} (h : TimesAt W bk off ts) (ht : ts ≠ []) : bk < W.heap.size := by
  cases ts with
  | nil => exact absurd rfl ht
  | cons t ts => exact World.block_lt_of_cell? W _ (h 0 (by simp))

theorem Sessions_err (g : Int) (bk off cap : Nat) (ts : List Int) (h : sessErr g ts ≠ 0) (w : World) (hX : TimesAt w bk off ts) :
    Calls Try.prog 12 #[.int .i64 g, .slice (some ⟨bk, off, none⟩) ts.length cap] w (RowPost2 w.heap.size w [] (sessErr g ts)) := by
  have hc := checkSessions_some g bk off cap ts w hX
  have hne : (sessErr g ts != 0) = true := by rw [bne_iff_ne]; exact h
  generalize sessErr g ts = er at hc hne ⊢
  have HC := Lib.hid hc
  clear hc hX h
  go_enter Try.func12, Try.ntmps12
  go_wp2_with (go_at_call 24; refine HC.out.mono ?_; rintro e w' ⟨rfl, rfl⟩)
  go_ret2
  exact ⟨_, rfl, World.ownsRow_nil _ _ _ _, Below.refl _ _⟩

theorem Sessions_ok (g : Int) (bk off cap : Nat) (ts : List Int) (h : sessErr g ts = 0) (w : World) (hbk : bk < w.heap.size) (hX : TimesAt w bk off ts) :
    Calls Try.prog 12 #[.int .i64 g, .slice (some ⟨bk, off, none⟩) ts.length cap] w (MergeOK w (sessW g ts)) := by
  have hc := checkSessions_some g bk off cap ts w hX
  rw [h] at hc
  have hall : ts.length ≤ 400 ∧ 1 ≤ g ∧ g ≤ 1000000000 ∧ badTimes ts = false := by
    unfold sessErr at h
    by_cases h1 : 400 < ts.length
    · rw [if_pos h1] at h; omega
    · rw [if_neg h1] at h
      by_cases h2 : 1 ≤ g ∧ g ≤ 1000000000 ∧ badTimes ts = false
      · exact ⟨by omega, h2⟩
      · rw [if_neg h2] at h; omega
  obtain ⟨hm, hg, hg', hb⟩ := hall
  have hin := inTime_of_bad hb
  have HC := Lib.hid hc
  have HX := Lib.hid hX
  have eg : ∀ args w, (callFunc 44 args).run Try.prog w = .ok (.enter 44 args) w := enters_of Try.func44 (by kernel_rfl) rfl
  have hmg : Calls Try.prog 20 #[.func (.func 44) #[] #[.pointer (some ⟨w.heap.size + 1, 0, none⟩), .pointer (some ⟨w.heap.size, 0, none⟩)], .func (.func 11) #[] #[]] ((w.alloc (.cells #[.int .i64 g] 3)).alloc (.cells #[.slice (some ⟨bk, off, none⟩) ts.length cap] 23)) fun e w' =>
      ∃ v ys, e = .returned v ∧ Sep ys ∧ (∀ p, cov ys p ↔ cov (sessW g ts) p) ∧ ys.length ≤ (sessW g ts).length ∧ w'.ownsRow w.heap.size 31 2 v ys.length (flatW ys) ∧ Below w.heap.size w w' := by
    have hB2 := ((Below.refl w.heap.size w).alloc (Nat.le_refl _) (.cells #[.int .i64 g] 3)).alloc (by simp) (.cells #[.slice (some ⟨bk, off, none⟩) ts.length cap] 23)
    have hz : ((w.alloc (.cells #[.int .i64 g] 3)).alloc (.cells #[.slice (some ⟨bk, off, none⟩) ts.length cap] 23)).heap.size = w.heap.size + 1 + 1 := by simp
    have hcg : ((w.alloc (.cells #[.int .i64 g] 3)).alloc (.cells #[.slice (some ⟨bk, off, none⟩) ts.length cap] 23)).cell? ⟨w.heap.size, 0, none⟩ = some (.int .i64 g) := by
      refine Lib.cell?_alloc_some _ ?_
      simp [World.cell?_alloc_new]
    have hct : ((w.alloc (.cells #[.int .i64 g] 3)).alloc (.cells #[.slice (some ⟨bk, off, none⟩) ts.length cap] 23)).cell? ⟨w.heap.size + 1, 0, none⟩ = some (.slice (some ⟨bk, off, none⟩) ts.length cap) := by
      have e : w.heap.size + 1 = (w.alloc (.cells #[.int .i64 g] 3)).heap.size := by simp
      rw [e]
      exact (Blk.new _ _ _).cell 0
    have hX2 := HX.out.belowV hB2 hbk
    generalize (w.alloc (.cells #[.int .i64 g] 3)).alloc (.cells #[.slice (some ⟨bk, off, none⟩) ts.length cap] 23) = w2 at hB2 hcg hct hz hX2 ⊢
    have hst := times_stops 1 (by omega) (w.heap.size + 1) w.heap.size bk off cap w2.heap.size g hg hg' ts (by omega) hin w2 (Nat.le_refl _) (by omega) (by omega) (by omega) hct hcg hX2
    refine (merged_in 3 (by omega) _ _ eg w2.heap.size (fun ys => ys = sessW g ts) (fun pre => pre <+: sessW g ts) ts.length (by unfold maxLen; omega) (by omega) (fun ys h => by rw [h, sessW_len]; omega) w2 (Nat.le_refl _) hst).mono ?_
    rintro e w3 ⟨v, xs', zs, rfl, rfl, hp, ha, hl, hrow, hB3⟩
    obtain ⟨s1, s2⟩ := sweep_sorted hp ha (sessW_ok hg hg' hin)
    exact ⟨v, sweep zs, rfl, s1, s2, hl, ownsRow_base hrow (by omega), hB2.trans (hB3.mono hB2.size)⟩
  have HM := Lib.hid hmg
  clear hc hX hb hmg eg h
  go_enter Try.func12, Try.ntmps12
  go_wp2_with (first
    | (go_at_call 24; refine HC.out.mono ?_; rintro e w' ⟨rfl, rfl⟩)
    | (go_at_call 25; refine (sessionsOf_any _ _ _ _ _).mono ?_; rintro e w2 ⟨rfl, rfl⟩)
    | (go_at_call 20; refine HM.out.mono ?_; rintro e w3 ⟨v, ys, rfl, h1, h2, h3, hrow, hB3⟩))
  go_ret2
  exact ⟨ys, h1, h2, h3, _, rfl, hrow, hB3⟩
#print axioms Sessions_ok
end Go.Proofs.Ythbpdalkifocaaa
