/-
  clock.Windows, as a contract: at every spec and every number.
-/
import Derived.Test.YtakekegghpgeaaaDoorSpec
import Derived.Test.YtakekegghpgeaaaDoorCollect
namespace Go.Proofs.YtakekegghpgeaaaDoor
open Go.RowKit Go.Shelf

/-- What a function that makes a list of windows leaves. -/
def RowPost (base : Nat) (W : World) (xs : List (Int × Int)) (e : Ending) (w' : World) : Prop :=
  ∃ v, e = .returned v ∧ w'.ownsRow base 36 2 v xs.length (flatW xs) ∧ Below W.heap.size W w'
def RowPost2 (base : Nat) (W : World) (xs : List (Int × Int)) (r : Int) (e : Ending) (w' : World) : Prop :=
  ∃ v, e = .returned (.tuple #[v, .int .i64 r]) ∧ w'.ownsRow base 36 2 v xs.length (flatW xs) ∧ Below base W w'

theorem clockValid_any (t : Int) (w : World) :
    Calls Tryd.prog 20 #[.int .i64 t] w fun e w' => e = .returned (.bool (inR t (-1000000000000) 1000000000000)) ∧ w = w' := by
  go_enter Tryd.func20, Tryd.ntmps20
  go_wp2_with (go_at_call 17; refine (within_any _ _ _ _).mono ?_; rintro e w' ⟨rfl, rfl⟩)
  go_ret
  exact ⟨rfl, rfl⟩

theorem sessionOf_any (g t : Int) (hg : 1 ≤ g) (hg' : g ≤ 1000000000) (ht : -1000000000000 ≤ t) (ht' : t ≤ 1000000000000) (w : World) :
    Calls Tryd.prog 21 #[.int .i64 g, .int .i64 t] w fun e w' => e = .returned (.agg #[.int .i64 t, .int .i64 (t + g)]) ∧ Below w.heap.size w w' := by
  go_enter Tryd.func21, Tryd.ntmps21
  go_wp2
  refine bodyPost_ret (v := .agg #[.int .i64 t, .int .i64 (t + g)]) (by simp [results, Tryd.results21, go_sem]) rfl ⟨rfl, ?_⟩
  exact (Below.refl _ _).alloc (Nat.le_refl _) _

/-- Collect of what 'covering' has handed back. -/
theorem covered (k sz st g sh fr to : Int) (hd : 1 ≤ stepOf k sz st) (hd' : stepOf k sz st ≤ 1000000000) (hs : 0 ≤ sh) (hs' : sh ≤ 1000000000)
    (hz : 1 ≤ sz) (hz' : sz ≤ 1000000000) (hf : -1000000000000 ≤ fr) (hft : fr ≤ to) (ht : to ≤ 1000000000000) (Bs Bf Bt : Nat) (W : World) (hBs : Bs < W.heap.size) (hBf : Bf < W.heap.size) (hBt : Bt < W.heap.size)
    (hS : SpecAt W Bs k sz st g sh) (hF : W.cell? ⟨Bf, 0, none⟩ = some (.int .i64 fr)) (hT : W.cell? ⟨Bt, 0, none⟩ = some (.int .i64 to)) :
    Calls Tryd.prog 22 #[.func (.func 30) #[] #[.pointer (some ⟨Bs, 0, none⟩), .pointer (some ⟨Bf, 0, none⟩), .pointer (some ⟨Bt, 0, none⟩)]] W (RowPost W.heap.size W (range k sz st sh fr to)) := by
  have hab := after_bounds (stepOf k sz st) sh (fr - sz) hd
  have hN := nWin_le (after (stepOf k sz st) sh (fr - sz)) (stepOf k sz st) to 3000000000000 hd (by omega) (by omega)
  refine (collect_in 3 (by omega) 30 _ (enters_of Tryd.func30 (by kernel_rfl) rfl) W.heap.size _ _ _ (by unfold maxLen; omega) (by omega) W (Nat.le_refl _)
    (cover_stops 1 (Nat.le_refl _) Bs Bf Bt W.heap.size k sz st g sh fr to hd hd' hs hs' hz hz' hf hft ht W hBs hBf hBt (Nat.le_refl _) hS hF hT)).mono ?_
  rintro e w' ⟨v, xs, rfl, rfl, hrow, hb⟩
  exact ⟨v, rfl, hrow, hb⟩

theorem ownsRow_base {W : World} {base base' : Nat} {e : TypeId} {size : Nat} {v : Value} {k : Nat} {xs : List Value} (h : W.ownsRow base e size v k xs) (hb : base' ≤ base) : W.ownsRow base' e size v k xs := by
  refine ⟨h.1, ?_⟩
  rcases h.2 with hn | ⟨g, cap, cur, hv, hbg, rest⟩
  · exact .inl hn
  · exact .inr ⟨g, cap, cur, hv, Nat.le_trans hb hbg, rest⟩

theorem ownsRow_lit' (W : World) (base n : Nat) (hn : n = W.heap.size) (hb : base ≤ W.heap.size) (a b : Int) :
    (W.alloc (.cells #[.int .i64 a, .int .i64 b] 36)).ownsRow base 36 2 (.slice (some ⟨n, 0, none⟩) 1 1) 1 (flatW [(a, b)]) := by
  subst hn
  exact ⟨rfl, .inr ⟨_, 1, _, rfl, hb, World.alloc_heap_new W _, Nat.le_refl _, (by decide), rfl, rfl⟩⟩
theorem ownsRow_lit (W : World) (base : Nat) (hb : base ≤ W.heap.size) (a b : Int) :
    (W.alloc (.cells #[.int .i64 a, .int .i64 b] 36)).ownsRow base 36 2 (.slice (some ⟨W.heap.size, 0, none⟩) 1 1) 1 (flatW [(a, b)]) :=
  ⟨rfl, .inr ⟨_, 1, _, rfl, hb, World.alloc_heap_new W _, Nat.le_refl _, (by decide), rfl, rfl⟩⟩

theorem Windows_1 (k sz st g sh t : Int) (h : specOK k sz st g sh = false) (w : World) :
    Calls Tryd.prog 10 #[.agg #[.int .i64 k, .int .i64 sz, .int .i64 st, .int .i64 g, .int .i64 sh], .int .i64 t] w (RowPost2 w.heap.size w [] 1) := by
  have hv := fun W => ValidSpec_any k sz st g sh W
  unfold specV at hv
  have Hv := Lib.hid hv
  clear hv
  go_enter Tryd.func10, Tryd.ntmps10
  go_wp2_with (go_at_call 8; refine (Hv.out _).mono ?_; rintro e w' ⟨rfl, rfl⟩)
  go_ret2
  exact ⟨_, rfl, World.ownsRow_nil _ _ _ _, ((Below.refl _ _).alloc (Nat.le_refl _) _).alloc (by simp) _⟩

theorem Windows_7 (k sz st g sh t : Int) (h : specOK k sz st g sh = true) (h2 : inR t (-1000000000000) 1000000000000 = false) (w : World) :
    Calls Tryd.prog 10 #[.agg #[.int .i64 k, .int .i64 sz, .int .i64 st, .int .i64 g, .int .i64 sh], .int .i64 t] w (RowPost2 w.heap.size w [] 7) := by
  have hv := fun W => ValidSpec_any k sz st g sh W
  unfold specV at hv
  have Hv := Lib.hid hv
  clear hv
  go_enter Tryd.func10, Tryd.ntmps10
  go_wp2_with (first
    | (go_at_call 8; refine (Hv.out _).mono ?_; rintro e w' ⟨rfl, rfl⟩)
    | (go_at_call 20; refine (clockValid_any _ _).mono ?_; rintro e w' ⟨rfl, rfl⟩))
  go_ret2
  exact ⟨_, rfl, World.ownsRow_nil _ _ _ _, ((Below.refl _ _).alloc (Nat.le_refl _) _).alloc (by simp) _⟩

set_option maxHeartbeats 1000000 in
theorem Windows_3 (g t : Int) (h : specOK 3 0 0 g 0 = true) (h2 : inR t (-1000000000000) 1000000000000 = true) (hg : 1 ≤ g) (hg' : g ≤ 1000000000) (ht : -1000000000000 ≤ t) (ht' : t ≤ 1000000000000) (w : World) :
    Calls Tryd.prog 10 #[.agg #[.int .i64 3, .int .i64 0, .int .i64 0, .int .i64 g, .int .i64 0], .int .i64 t] w (RowPost2 w.heap.size w [(t, t + g)] 0) := by
  have hv := fun W => ValidSpec_any 3 0 0 g 0 W
  unfold specV at hv
  have Hv := Lib.hid hv
  clear hv
  go_enter Tryd.func10, Tryd.ntmps10
  go_wp2_with (first
    | (go_at_call 8; refine (Hv.out _).mono ?_; rintro e w' ⟨rfl, rfl⟩)
    | (go_at_call 20; refine (clockValid_any _ _).mono ?_; rintro e w' ⟨rfl, rfl⟩)
    | (go_at_call 21; refine (sessionOf_any _ _ hg hg' ht ht' _).mono ?_; rintro e w3 ⟨rfl, hb3⟩))
  go_ret2
  have hs : w.heap.size + 1 + 1 ≤ w3.heap.size := by have := hb3.size; simpa using this
  refine ⟨_, rfl, ownsRow_lit _ _ (by omega) _ _, ?_⟩
  exact ((((Below.refl _ _).alloc (Nat.le_refl _) _).alloc (by simp) _).trans (hb3.mono (by simp; omega))).alloc (by omega) _

set_option maxHeartbeats 1000000 in
theorem Windows_4 (t : Int) (h : specOK 4 0 0 0 0 = true) (h2 : inR t (-1000000000000) 1000000000000 = true) (w : World) :
    Calls Tryd.prog 10 #[.agg #[.int .i64 4, .int .i64 0, .int .i64 0, .int .i64 0, .int .i64 0], .int .i64 t] w (RowPost2 w.heap.size w [(-1000000000000, 1000000000001)] 0) := by
  have hv := fun W => ValidSpec_any 4 0 0 0 0 W
  unfold specV at hv
  have Hv := Lib.hid hv
  clear hv
  go_enter Tryd.func10, Tryd.ntmps10
  go_wp2_with (first
    | (go_at_call 8; refine (Hv.out _).mono ?_; rintro e w' ⟨rfl, rfl⟩)
    | (go_at_call 20; refine (clockValid_any _ _).mono ?_; rintro e w' ⟨rfl, rfl⟩))
  go_ret2
  refine ⟨_, rfl, ownsRow_lit' _ _ _ ?_ ?_ _ _, ?_⟩
  · simp
  · simp; omega
  exact (((Below.refl _ _).alloc (Nat.le_refl _) _).alloc (by simp) _).alloc (by simp; omega) _

set_option maxHeartbeats 1000000 in
theorem Windows_12 (k sz st g sh t : Int) (h : specOK k sz st g sh = true) (h2 : inR t (-1000000000000) 1000000000000 = true) (hk : k = 1 ∨ k = 2) (w : World) :
    Calls Tryd.prog 10 #[.agg #[.int .i64 k, .int .i64 sz, .int .i64 st, .int .i64 g, .int .i64 sh], .int .i64 t] w (RowPost2 w.heap.size w (range k sz st sh t t) 0) := by
  have hp := (specOK_iff _ _ _ _ _).1 h
  have ht := (inR_iff _ _ _).1 h2
  obtain ⟨hd, hd', hs, hs', hz, hz'⟩ : 1 ≤ stepOf k sz st ∧ stepOf k sz st ≤ 1000000000 ∧ 0 ≤ sh ∧ sh ≤ 1000000000 ∧ 1 ≤ sz ∧ sz ≤ 1000000000 := by
    unfold specP at hp
    rcases hk with rfl | rfl <;> simp [stepOf] <;> omega
  have e3 : (k == 3) = false := by simp; omega
  have e4 : (k == 4) = false := by simp; omega
  have hv := fun W => ValidSpec_any k sz st g sh W
  have hc := fun W => covering_any k sz st g sh t t W
  have hl := fun Bs Bf Bt W => covered k sz st g sh t t hd hd' hs hs' hz hz' ht.1 (Int.le_refl _) ht.2 Bs Bf Bt W
  unfold specV at hv hc
  have Hv := Lib.hid hv
  have Hc := Lib.hid hc
  have Hl := Lib.hid hl
  clear hv hc hl hp ht hk
  go_enter Tryd.func10, Tryd.ntmps10
  go_wp2_with (first
    | (go_at_call 8; refine (Hv.out _).mono ?_; rintro e w' ⟨rfl, rfl⟩)
    | (go_at_call 20; refine (clockValid_any _ _).mono ?_; rintro e w' ⟨rfl, rfl⟩)
    | (go_at_call 23; refine (Hc.out _).mono ?_; rintro e w' ⟨rfl, rfl⟩))
  refine (Hl.out _ _ _ _ ?_ ?_ ?_ ?_ ?_ ?_).mono ?_
  · simp
  · simp
  · simp
  · refine ⟨?_, ?_, ?_, ?_, ?_⟩ <;> go_simp
  · go_simp
  · go_simp
  rintro e w' ⟨v, rfl, hrow, hb⟩
  go_wp2_with fail
  go_ret2
  refine ⟨v, rfl, ownsRow_base hrow (by simp; omega), ?_⟩
  exact (((((Below.refl _ _).alloc (Nat.le_refl _) _).alloc (by simp) _).alloc (by simp; omega) _).alloc (by simp; omega) _ |>.alloc (by simp; omega) _).trans (hb.mono (by simp; omega))

theorem Windows_any (k sz st g sh t : Int) (w : World) :
    Calls Tryd.prog 10 #[.agg #[.int .i64 k, .int .i64 sz, .int .i64 st, .int .i64 g, .int .i64 sh], .int .i64 t] w (RowPost2 w.heap.size w (windowsOf k sz st g sh t) (windowsErr k sz st g sh t)) := by
  by_cases h : specOK k sz st g sh = true
  · by_cases h2 : inR t (-1000000000000) 1000000000000 = true
    · have hE : windowsErr k sz st g sh t = 0 := by simp [windowsErr, h, h2]
      have hp := (specOK_iff _ _ _ _ _).1 h
      have ht := (inR_iff _ _ _).1 h2
      rw [hE, show windowsOf k sz st g sh t = windowsAt k sz st g sh t by simp [windowsOf, hE]]
      by_cases h3 : k = 3
      · obtain ⟨rfl, rfl, rfl, rfl, hg⟩ : k = 3 ∧ sz = 0 ∧ st = 0 ∧ sh = 0 ∧ 1 ≤ g ∧ g ≤ 1000000000 := by unfold specP at hp; omega
        exact Windows_3 g t h h2 hg.1 hg.2 ht.1 ht.2 w
      · by_cases h4 : k = 4
        · obtain ⟨rfl, rfl, rfl, rfl, rfl⟩ : k = 4 ∧ sz = 0 ∧ st = 0 ∧ sh = 0 ∧ g = 0 := by unfold specP at hp; omega
          exact Windows_4 t h h2 w
        · have := Windows_12 k sz st g sh t h h2 (by unfold specP at hp; omega) w
          simpa [windowsAt, h3, h4] using this
    · have h2' : inR t (-1000000000000) 1000000000000 = false := by simpa using h2
      have hE : windowsErr k sz st g sh t = 7 := by simp [windowsErr, h, h2']
      rw [hE, show windowsOf k sz st g sh t = [] by simp [windowsOf, hE]]
      exact Windows_7 k sz st g sh t h h2' w
  · have h' : specOK k sz st g sh = false := by simpa using h
    have hE : windowsErr k sz st g sh t = 1 := by simp [windowsErr, h']
    rw [hE, show windowsOf k sz st g sh t = [] by simp [windowsOf, hE]]
    exact Windows_1 k sz st g sh t h' w
end Go.Proofs.YtakekegghpgeaaaDoor
