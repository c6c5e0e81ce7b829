/-
  Between, of package clock, as a contract.
-/
import Derived.Test.YtbiaalpnabkkfaaNext
namespace Go.Proofs.Ytbiaalpnabkkfaa
open Go.RowKit Go.Shelf
attribute [local go_sem] Oper.semAt_some

def rangeOK (fr to : Int) : Prop := (-1000000000000 ≤ fr ∧ fr ≤ 1000000000000) ∧ (-1000000000000 ≤ to ∧ to ≤ 1000000000000) ∧ fr ≤ to
instance (fr to : Int) : Decidable (rangeOK fr to) := by unfold rangeOK; infer_instance
def betweenErr (k sz st g sh fr to : Int) : Int :=
  if specOK k sz st g sh = false then 1 else if ¬ rangeOK fr to then 7 else if ¬ (k = 1 ∨ k = 2) then 11 else if 400 < (range k sz st sh fr to).length then 4 else 0
def betweenOf (k sz st g sh fr to : Int) : List (Int × Int) := if betweenErr k sz st g sh fr to = 0 then range k sz st sh fr to else []

set_option maxRecDepth 100000 in
set_option maxHeartbeats 2000000 in
theorem Between_1 (k sz st g sh fr to : Int) (h : specOK k sz st g sh = false) (w : World) :
    Calls Try.prog 35 #[.agg #[.int .i64 k, .int .i64 sz, .int .i64 st, .int .i64 g, .int .i64 sh], .int .i64 fr, .int .i64 to] w (RowPost2 w.heap.size w [] 1) := by
  have hv := fun W => ValidSpec_any k sz st g sh W
  unfold specV at hv
  have Hv := Lib.hid hv
  clear hv
  go_enter Try.func35, Try.ntmps35
  go_wp2_with (go_at_call 14; refine (Hv.out _).mono ?_; rintro e w' ⟨rfl, rfl⟩)
  refine bodyPost_ret (v := .tuple #[.slice none 0 0, .int .i64 1]) (by simp [results, Try.results35, go_sem]) rfl ⟨_, rfl, World.ownsRow_nil _ _ _ _, ?_⟩
  repeat (first | exact Below.refl _ _ | refine Below.setCell ?_ (by simp; try omega) _ | refine Below.alloc ?_ (by simp; try omega) _)

set_option maxRecDepth 100000 in
set_option maxHeartbeats 2000000 in
theorem Between_7a (k sz st g sh fr to : Int) (h : specOK k sz st g sh = true) (h2 : inR fr (-1000000000000) 1000000000000 = false) (w : World) :
    Calls Try.prog 35 #[.agg #[.int .i64 k, .int .i64 sz, .int .i64 st, .int .i64 g, .int .i64 sh], .int .i64 fr, .int .i64 to] w (RowPost2 w.heap.size w [] 7) := by
  have hv := fun W => ValidSpec_any k sz st g sh W
  unfold specV at hv
  have Hv := Lib.hid hv
  clear hv
  go_enter Try.func35, Try.ntmps35
  go_wp2_with (first | (go_at_call 14; refine (Hv.out _).mono ?_; rintro e w' ⟨rfl, rfl⟩) | (go_at_call 10; refine (clkValid_any _ _).mono ?_; rintro e w' ⟨rfl, rfl⟩))
  refine bodyPost_ret (v := .tuple #[.slice none 0 0, .int .i64 7]) (by simp [results, Try.results35, go_sem]) rfl ⟨_, rfl, World.ownsRow_nil _ _ _ _, ?_⟩
  repeat (first | exact Below.refl _ _ | refine Below.setCell ?_ (by simp; try omega) _ | refine Below.alloc ?_ (by simp; try omega) _)

set_option maxRecDepth 100000 in
set_option maxHeartbeats 2000000 in
theorem Between_7b (k sz st g sh fr to : Int) (h : specOK k sz st g sh = true) (h2 : inR fr (-1000000000000) 1000000000000 = true) (h3 : inR to (-1000000000000) 1000000000000 = false) (w : World) :
    Calls Try.prog 35 #[.agg #[.int .i64 k, .int .i64 sz, .int .i64 st, .int .i64 g, .int .i64 sh], .int .i64 fr, .int .i64 to] w (RowPost2 w.heap.size w [] 7) := by
  have hv := fun W => ValidSpec_any k sz st g sh W
  unfold specV at hv
  have Hv := Lib.hid hv
  clear hv
  go_enter Try.func35, Try.ntmps35
  go_wp2_with (first | (go_at_call 14; refine (Hv.out _).mono ?_; rintro e w' ⟨rfl, rfl⟩) | (go_at_call 10; refine (clkValid_any _ _).mono ?_; rintro e w' ⟨rfl, rfl⟩))
  refine bodyPost_ret (v := .tuple #[.slice none 0 0, .int .i64 7]) (by simp [results, Try.results35, go_sem]) rfl ⟨_, rfl, World.ownsRow_nil _ _ _ _, ?_⟩
  repeat (first | exact Below.refl _ _ | refine Below.setCell ?_ (by simp; try omega) _ | refine Below.alloc ?_ (by simp; try omega) _)

set_option maxRecDepth 100000 in
set_option maxHeartbeats 2000000 in
theorem Between_7c (k sz st g sh fr to : Int) (h : specOK k sz st g sh = true) (h2 : inR fr (-1000000000000) 1000000000000 = true) (h3 : inR to (-1000000000000) 1000000000000 = true) (h4 : to < fr) (w : World) :
    Calls Try.prog 35 #[.agg #[.int .i64 k, .int .i64 sz, .int .i64 st, .int .i64 g, .int .i64 sh], .int .i64 fr, .int .i64 to] w (RowPost2 w.heap.size w [] 7) := by
  have hv := fun W => ValidSpec_any k sz st g sh W
  unfold specV at hv
  have Hv := Lib.hid hv
  clear hv
  go_enter Try.func35, Try.ntmps35
  go_wp2_with (first | (go_at_call 14; refine (Hv.out _).mono ?_; rintro e w' ⟨rfl, rfl⟩) | (go_at_call 10; refine (clkValid_any _ _).mono ?_; rintro e w' ⟨rfl, rfl⟩))
  refine bodyPost_ret (v := .tuple #[.slice none 0 0, .int .i64 7]) (by simp [results, Try.results35, go_sem]) rfl ⟨_, rfl, World.ownsRow_nil _ _ _ _, ?_⟩
  repeat (first | exact Below.refl _ _ | refine Below.setCell ?_ (by simp; try omega) _ | refine Below.alloc ?_ (by simp; try omega) _)

set_option maxRecDepth 100000 in
set_option maxHeartbeats 2000000 in
theorem Between_11 (k sz st g sh fr to : Int) (h : specOK k sz st g sh = true) (h2 : inR fr (-1000000000000) 1000000000000 = true) (h3 : inR to (-1000000000000) 1000000000000 = true) (h4 : fr ≤ to) (h12 : ¬ (k = 1 ∨ k = 2)) (w : World) :
    Calls Try.prog 35 #[.agg #[.int .i64 k, .int .i64 sz, .int .i64 st, .int .i64 g, .int .i64 sh], .int .i64 fr, .int .i64 to] w (RowPost2 w.heap.size w [] 11) := by
  have hv := fun W => ValidSpec_any k sz st g sh W
  unfold specV at hv
  have Hv := Lib.hid hv
  clear hv
  have hk := fun W => step_any k sz st g sh W
  unfold specV at hk
  have hk := Lib.hid hk
  have e0 : (stepOf k sz st == 0) = true := by unfold stepOf; rw [if_neg (fun h => h12 (.inl h)), if_neg (fun h => h12 (.inr h))]; rfl
  clear h12
  go_enter Try.func35, Try.ntmps35
  go_wp2_with (first | (go_at_call 14; refine (Hv.out _).mono ?_; rintro e w' ⟨rfl, rfl⟩) | (go_at_call 10; refine (clkValid_any _ _).mono ?_; rintro e w' ⟨rfl, rfl⟩) | (go_at_call 54; refine (hk.out _).mono ?_; rintro e w' ⟨rfl, rfl⟩))
  refine bodyPost_ret (v := .tuple #[.slice none 0 0, .int .i64 11]) (by simp [results, Try.results35, go_sem]) rfl ⟨_, rfl, World.ownsRow_nil _ _ _ _, ?_⟩
  repeat (first | exact Below.refl _ _ | refine Below.setCell ?_ (by simp; try omega) _ | refine Below.alloc ?_ (by simp; try omega) _)

theorem between_setup (k sz st g sh fr to : Int) (w : World) :
    ((((((((((w.alloc (.cells #[.int .i64 k, .int .i64 sz, .int .i64 st, .int .i64 g, .int .i64 sh] 23)).alloc (.cells #[.slice none 0 0] 38)).alloc (.cells #[.int .i64 0] 33)).alloc (.cells #[.int .i64 k, .int .i64 sz, .int .i64 st, .int .i64 g, .int .i64 sh] 23)).alloc (.cells #[.int .i64 k, .int .i64 sz, .int .i64 st, .int .i64 g, .int .i64 sh] 23)).alloc (.cells #[.slice none 0 0] 38)).alloc (.cells #[.int .i64 k, .int .i64 sz, .int .i64 st, .int .i64 g, .int .i64 sh] 23)).alloc (.cells #[.int .i64 fr] 3)).alloc (.cells #[.int .i64 to] 3))).heap.size = w.heap.size + 9 ∧ SpecAt ((((((((((w.alloc (.cells #[.int .i64 k, .int .i64 sz, .int .i64 st, .int .i64 g, .int .i64 sh] 23)).alloc (.cells #[.slice none 0 0] 38)).alloc (.cells #[.int .i64 0] 33)).alloc (.cells #[.int .i64 k, .int .i64 sz, .int .i64 st, .int .i64 g, .int .i64 sh] 23)).alloc (.cells #[.int .i64 k, .int .i64 sz, .int .i64 st, .int .i64 g, .int .i64 sh] 23)).alloc (.cells #[.slice none 0 0] 38)).alloc (.cells #[.int .i64 k, .int .i64 sz, .int .i64 st, .int .i64 g, .int .i64 sh] 23)).alloc (.cells #[.int .i64 fr] 3)).alloc (.cells #[.int .i64 to] 3))) (w.heap.size + 1 + 1 + 1 + 1 + 1 + 1) k sz st g sh ∧ ((((((((((w.alloc (.cells #[.int .i64 k, .int .i64 sz, .int .i64 st, .int .i64 g, .int .i64 sh] 23)).alloc (.cells #[.slice none 0 0] 38)).alloc (.cells #[.int .i64 0] 33)).alloc (.cells #[.int .i64 k, .int .i64 sz, .int .i64 st, .int .i64 g, .int .i64 sh] 23)).alloc (.cells #[.int .i64 k, .int .i64 sz, .int .i64 st, .int .i64 g, .int .i64 sh] 23)).alloc (.cells #[.slice none 0 0] 38)).alloc (.cells #[.int .i64 k, .int .i64 sz, .int .i64 st, .int .i64 g, .int .i64 sh] 23)).alloc (.cells #[.int .i64 fr] 3)).alloc (.cells #[.int .i64 to] 3))).cell? ⟨w.heap.size + 1 + 1 + 1 + 1 + 1 + 1 + 1, 0, none⟩ = some (.int .i64 fr) ∧ ((((((((((w.alloc (.cells #[.int .i64 k, .int .i64 sz, .int .i64 st, .int .i64 g, .int .i64 sh] 23)).alloc (.cells #[.slice none 0 0] 38)).alloc (.cells #[.int .i64 0] 33)).alloc (.cells #[.int .i64 k, .int .i64 sz, .int .i64 st, .int .i64 g, .int .i64 sh] 23)).alloc (.cells #[.int .i64 k, .int .i64 sz, .int .i64 st, .int .i64 g, .int .i64 sh] 23)).alloc (.cells #[.slice none 0 0] 38)).alloc (.cells #[.int .i64 k, .int .i64 sz, .int .i64 st, .int .i64 g, .int .i64 sh] 23)).alloc (.cells #[.int .i64 fr] 3)).alloc (.cells #[.int .i64 to] 3))).cell? ⟨w.heap.size + 1 + 1 + 1 + 1 + 1 + 1 + 1 + 1, 0, none⟩ = some (.int .i64 to) ∧
    Boxed ((((((((((w.alloc (.cells #[.int .i64 k, .int .i64 sz, .int .i64 st, .int .i64 g, .int .i64 sh] 23)).alloc (.cells #[.slice none 0 0] 38)).alloc (.cells #[.int .i64 0] 33)).alloc (.cells #[.int .i64 k, .int .i64 sz, .int .i64 st, .int .i64 g, .int .i64 sh] 23)).alloc (.cells #[.int .i64 k, .int .i64 sz, .int .i64 st, .int .i64 g, .int .i64 sh] 23)).alloc (.cells #[.slice none 0 0] 38)).alloc (.cells #[.int .i64 k, .int .i64 sz, .int .i64 st, .int .i64 g, .int .i64 sh] 23)).alloc (.cells #[.int .i64 fr] 3)).alloc (.cells #[.int .i64 to] 3))) (w.heap.size + 1) 38 (.slice none 0 0) ∧ Boxed ((((((((((w.alloc (.cells #[.int .i64 k, .int .i64 sz, .int .i64 st, .int .i64 g, .int .i64 sh] 23)).alloc (.cells #[.slice none 0 0] 38)).alloc (.cells #[.int .i64 0] 33)).alloc (.cells #[.int .i64 k, .int .i64 sz, .int .i64 st, .int .i64 g, .int .i64 sh] 23)).alloc (.cells #[.int .i64 k, .int .i64 sz, .int .i64 st, .int .i64 g, .int .i64 sh] 23)).alloc (.cells #[.slice none 0 0] 38)).alloc (.cells #[.int .i64 k, .int .i64 sz, .int .i64 st, .int .i64 g, .int .i64 sh] 23)).alloc (.cells #[.int .i64 fr] 3)).alloc (.cells #[.int .i64 to] 3))) (w.heap.size + 1 + 1) 33 (.int .i64 0) ∧ Boxed ((((((((((w.alloc (.cells #[.int .i64 k, .int .i64 sz, .int .i64 st, .int .i64 g, .int .i64 sh] 23)).alloc (.cells #[.slice none 0 0] 38)).alloc (.cells #[.int .i64 0] 33)).alloc (.cells #[.int .i64 k, .int .i64 sz, .int .i64 st, .int .i64 g, .int .i64 sh] 23)).alloc (.cells #[.int .i64 k, .int .i64 sz, .int .i64 st, .int .i64 g, .int .i64 sh] 23)).alloc (.cells #[.slice none 0 0] 38)).alloc (.cells #[.int .i64 k, .int .i64 sz, .int .i64 st, .int .i64 g, .int .i64 sh] 23)).alloc (.cells #[.int .i64 fr] 3)).alloc (.cells #[.int .i64 to] 3))) (w.heap.size + 1 + 1 + 1 + 1 + 1) 38 (.slice none 0 0) ∧ Below w.heap.size w ((((((((((w.alloc (.cells #[.int .i64 k, .int .i64 sz, .int .i64 st, .int .i64 g, .int .i64 sh] 23)).alloc (.cells #[.slice none 0 0] 38)).alloc (.cells #[.int .i64 0] 33)).alloc (.cells #[.int .i64 k, .int .i64 sz, .int .i64 st, .int .i64 g, .int .i64 sh] 23)).alloc (.cells #[.int .i64 k, .int .i64 sz, .int .i64 st, .int .i64 g, .int .i64 sh] 23)).alloc (.cells #[.slice none 0 0] 38)).alloc (.cells #[.int .i64 k, .int .i64 sz, .int .i64 st, .int .i64 g, .int .i64 sh] 23)).alloc (.cells #[.int .i64 fr] 3)).alloc (.cells #[.int .i64 to] 3))) := by
  refine ⟨by simp, ⟨?_, ?_, ?_, ?_, ?_⟩, ?_, ?_, ?_, ?_, ?_, ?_⟩
  · go_simp
  · go_simp
  · go_simp
  · go_simp
  · go_simp
  · go_simp
  · go_simp
  · have := Boxed.new (w.alloc (.cells #[.int .i64 k, .int .i64 sz, .int .i64 st, .int .i64 g, .int .i64 sh] 23)) 38 (.slice none 0 0)
    simp only [World.size_alloc] at this
    exact (((((((this.alloc _).alloc _).alloc _).alloc _).alloc _).alloc _).alloc _)
  · have := Boxed.new ((w.alloc (.cells #[.int .i64 k, .int .i64 sz, .int .i64 st, .int .i64 g, .int .i64 sh] 23)).alloc (.cells #[.slice none 0 0] 38)) 33 (.int .i64 0)
    simp only [World.size_alloc] at this
    exact ((((((this.alloc _).alloc _).alloc _).alloc _).alloc _).alloc _)
  · have := Boxed.new (((((w.alloc (.cells #[.int .i64 k, .int .i64 sz, .int .i64 st, .int .i64 g, .int .i64 sh] 23)).alloc (.cells #[.slice none 0 0] 38)).alloc (.cells #[.int .i64 0] 33)).alloc (.cells #[.int .i64 k, .int .i64 sz, .int .i64 st, .int .i64 g, .int .i64 sh] 23)).alloc (.cells #[.int .i64 k, .int .i64 sz, .int .i64 st, .int .i64 g, .int .i64 sh] 23)) 38 (.slice none 0 0)
    simp only [World.size_alloc] at this
    exact (((this.alloc _).alloc _).alloc _)
  · repeat (first | exact Below.refl _ _ | refine Below.alloc ?_ (by simp; try omega) _)

theorem keeps3_b {Bs Bf Bt : Nat} {w : World} (h1 : Bs < w.heap.size) (h2 : Bf < w.heap.size) (h3 : Bt < w.heap.size) (W : World) (l : Nat) (o o' : Obj) (hl : w.heap.size ≤ l) (_ : W.heap[l]? = some o) (_ : o.isCells = false) (_ : o.isWalk = false) : Keeps3 Bs Bf Bt W (W.putObj l o') :=
  ⟨World.putObj_heap_other (by omega), World.putObj_heap_other (by omega), World.putObj_heap_other (by omega)⟩

set_option maxRecDepth 100000 in
set_option maxHeartbeats 4000000 in
theorem Between_12 (k sz st g sh fr to : Int) (h : specOK k sz st g sh = true) (h2 : inR fr (-1000000000000) 1000000000000 = true) (h3 : inR to (-1000000000000) 1000000000000 = true) (h4 : fr ≤ to) (h12 : k = 1 ∨ k = 2) (n : Nat) (hn : 4 ≤ n) (xs : List (Int × Int)) (r : Int)
    (hR : (400 < (range k sz st sh fr to).length ∧ xs = [] ∧ r = 4) ∨ ((range k sz st sh fr to).length ≤ 400 ∧ xs = range k sz st sh fr to ∧ r = 0)) (w : World) :
    CallsIn Fence.wide n Try.prog 35 #[.agg #[.int .i64 k, .int .i64 sz, .int .i64 st, .int .i64 g, .int .i64 sh], .int .i64 fr, .int .i64 to] w (RowPost2 w.heap.size w xs r) := by
  have hp := (specOK_iff _ _ _ _ _).1 h
  obtain ⟨hf1, hf2⟩ := (inR_iff _ _ _).1 h2
  obtain ⟨ht1, ht2⟩ := (inR_iff _ _ _).1 h3
  obtain ⟨hd, hd', hs, hs', hz, hz', hdz⟩ := spec_steps hp h12
  have h1 : 1 ≤ n := by omega
  have e0 : (stepOf k sz st == 0) = false := by simp; omega
  have hv := fun W => ValidSpec_any k sz st g sh W
  have hk := fun W => step_any k sz st g sh W
  have hc := fun W => covering_any k sz st g sh fr to W
  unfold specV at hv hk hc
  have Hv := Lib.hid hv
  have Hk := Lib.hid hk
  have Hc := Lib.hid hc
  have HR := Lib.hid hR
  obtain ⟨b1, b2, b3, b4, b5, b6, b7, b8⟩ := between_setup k sz st g sh fr to w
  obtain ⟨i0, hi, hz0, hz1, hz2⟩ := info_parts infoW
  clear hv hk hc hp h12 hR
  have HB := Lib.hid (And.intro b1 (And.intro b2 (And.intro b3 (And.intro b4 (And.intro b5 (And.intro b6 (And.intro b7 b8)))))))
  clear b1 b2 b3 b4 b5 b6 b7 b8
  refine callsIn_of_wp_marks Try.func35 rfl trivial ?_ rfl
  simp only [Try.ntmps35, List.size_toArray, List.length_cons, List.length_nil, Nat.reduceAdd, Nat.reduceSub, Array.replicate_succ, Array.replicate_zero, List.push_toArray, List.append_toArray, List.nil_append, List.cons_append]
  gi_wp2_with (first
    | (refine ⟨trivial, ?_⟩; gi_at_call 14; refine (callsIn_wide.2 (Hv.out _)).mono ?_; rintro e w' ⟨rfl, rfl⟩)
    | (refine ⟨trivial, ?_⟩; gi_at_call 10; refine (callsIn_wide.2 (clkValid_any _ _)).mono ?_; rintro e w' ⟨rfl, rfl⟩)
    | (refine ⟨trivial, ?_⟩; gi_at_call 54; refine (callsIn_wide.2 (Hk.out _)).mono ?_; rintro e w' ⟨rfl, rfl⟩)
    | (refine ⟨trivial, ?_⟩; gi_at_call 45; refine (callsIn_wide.2 (Hc.out _)).mono ?_; rintro e w' ⟨rfl, rfl⟩))
  have hbs := HB.out
  clear HB
  obtain ⟨W0, hW0⟩ : ∃ W0, (((((((((w.alloc (.cells #[.int .i64 k, .int .i64 sz, .int .i64 st, .int .i64 g, .int .i64 sh] 23)).alloc (.cells #[.slice none 0 0] 38)).alloc (.cells #[.int .i64 0] 33)).alloc (.cells #[.int .i64 k, .int .i64 sz, .int .i64 st, .int .i64 g, .int .i64 sh] 23)).alloc (.cells #[.int .i64 k, .int .i64 sz, .int .i64 st, .int .i64 g, .int .i64 sh] 23)).alloc (.cells #[.slice none 0 0] 38)).alloc (.cells #[.int .i64 k, .int .i64 sz, .int .i64 st, .int .i64 g, .int .i64 sh] 23)).alloc (.cells #[.int .i64 fr] 3)).alloc (.cells #[.int .i64 to] 3)) = W0 := ⟨_, rfl⟩
  rw [hW0] at hbs ⊢
  clear hW0
  obtain ⟨hsz, hS, hF, hT, bA, bE, bL, hB0⟩ := hbs
  refine wpIn_rangeFunc_ownH (F := Fence.wide) rfl h1 (gf := 60) (lb := #[.pointer (some ⟨w.heap.size + 1 + 1 + 1 + 1 + 1 + 1, 0, none⟩), .pointer (some ⟨w.heap.size + 1 + 1 + 1 + 1 + 1 + 1 + 1, 0, none⟩), .pointer (some ⟨w.heap.size + 1 + 1 + 1 + 1 + 1 + 1 + 1 + 1, 0, none⟩)]) rfl trivial (enters_of Try.func60 (by kernel_rfl) rfl)
    (cover_stops3 (n - 1) (by omega) (w.heap.size + 1 + 1 + 1 + 1 + 1 + 1) (w.heap.size + 1 + 1 + 1 + 1 + 1 + 1 + 1) (w.heap.size + 1 + 1 + 1 + 1 + 1 + 1 + 1 + 1) k sz st g sh fr to hd hd' hs hs' hz hz' hf1 h4 ht2 W0 (by omega) (by omega) (by omega) hS hF hT) Keeps3.trans (keeps3_b (by omega) (by omega) (by omega)) (Below.refl _ _) (fun _ => rfl)
    (fun pre W => (((∃ v, Boxed W (w.heap.size + 1 + 1 + 1 + 1 + 1) 38 v ∧ W.ownsRow W0.heap.size 25 2 v pre.length (flatW pre) ∧ pre.length ≤ 400) ∧ Boxed W (w.heap.size + 1) 38 (.slice none 0 0)) ∧ Boxed W (w.heap.size + 1 + 1) 33 (.int .i64 0)) ∧ (Below w.heap.size w W ∧ W0.heap.size ≤ W.heap.size))
    (fun c pre W => ((c = .ret ∧ 400 < pre.length) ∧ (Boxed W (w.heap.size + 1) 38 (.slice none 0 0) ∧ Boxed W (w.heap.size + 1 + 1) 33 (.int .i64 4))) ∧ Below w.heap.size w W)
    (OwnFrom.and (OwnFrom.and (OwnFrom.and (Own.from (holdsRow_own W0.heap.size (w.heap.size + 1 + 1 + 1 + 1 + 1) 38 25 2 (fun pre => pre.length) (fun pre => flatW pre) (fun pre _ => pre.length ≤ 400)) _) (Own.from (boxed_own _ _ _) _)) (Own.from (boxed_own _ _ _) _)) (OwnFrom.and (ownFrom_below (Nat.le_refl _) (by omega)) (fun _ _ _ _ hs hg _ => Nat.le_trans hs hg.size)))
    (fun c => OwnFrom.and (OwnFrom.and (ownFrom_pure _ _) (OwnFrom.and (Own.from (boxed_own _ _ _) _) (Own.from (boxed_own _ _ _) _))) (ownFrom_below (Nat.le_refl _) (by omega)))
    ⟨⟨⟨⟨_, bL, World.ownsRow_nil _ _ _ _, by simp⟩, bA⟩, bE⟩, hB0, Nat.le_refl _⟩
    (fun x a' W => ∃ Bx, W0.heap.size ≤ Bx ∧ Blk W Bx 25 #[.int .i64 x.1, .int .i64 x.2] ∧ a' = { tmps := #[.agg #[.int .i64 k, .int .i64 sz, .int .i64 st, .int .i64 g, .int .i64 sh], .int .i64 fr, .int .i64 to, .pointer (some ⟨w.heap.size, 0, none⟩), undef, undef, .pointer (some ⟨w.heap.size + 1, 0, none⟩), .pointer (some ⟨w.heap.size + 1 + 1, 0, none⟩), .pointer (some ⟨w.heap.size + 1 + 1 + 1 + 1 + 1, 0, none⟩), .pointer (some ⟨Bx, 0, none⟩), .agg #[.int .i64 k, .int .i64 sz, .int .i64 st, .int .i64 g, .int .i64 sh], .bool true, .bool false, .int .i64 fr, .bool true, .bool false, .bool false, .int .i64 to, .bool true, .bool false, .bool false, .bool false, .int .i64 to, .int .i64 fr, .bool (decide (to < fr)), .bool (decide (to < fr)), .agg #[.int .i64 k, .int .i64 sz, .int .i64 st, .int .i64 g, .int .i64 sh], .int .i64 (stepOf k sz st), .bool false, .agg #[.int .i64 k, .int .i64 sz, .int .i64 st, .int .i64 g, .int .i64 sh], .int .i64 fr, .int .i64 to, .func (.func 60) #[] #[.pointer (some ⟨w.heap.size + 1 + 1 + 1 + 1 + 1 + 1, 0, none⟩), .pointer (some ⟨w.heap.size + 1 + 1 + 1 + 1 + 1 + 1 + 1, 0, none⟩), .pointer (some ⟨w.heap.size + 1 + 1 + 1 + 1 + 1 + 1 + 1 + 1, 0, none⟩)], .agg #[.int .i64 x.1, .int .i64 x.2], undef, undef, undef, undef, undef, undef, undef, undef], defers := [] })
    (fun x a' _ X Y row hs hg hr => by obtain ⟨Bx, h1, h2, h3⟩ := hs; exact ⟨Bx, h1, blk_own Bx 25 (fun (_ : Unit) => #[.int .i64 x.1, .int .i64 x.2]) () X Y row h2 hg (fun r e => (hr r e).2), h3⟩)
    ?assign ?body ?done ?stop
  case assign =>
    rintro l pre x W K ⟨⟨⟨⟨v, hv, hrow, hp⟩, hA⟩, hE⟩, hB, hW0⟩ hK
    simp only [encW]
    gi_wp2_with fail
    exact hK _ _ ((KeepsOthers.alloc _ _).from _) (Keeps3.alloc _ (by omega) (by omega) (by omega)) ⟨⟨⟨⟨v, hv.alloc _, hrow.alloc _, hp⟩, hA.alloc _⟩, hE.alloc _⟩, hB.alloc hB.size _, by simp; omega⟩ ⟨W.heap.size, hW0, Blk.new W _ _, rfl⟩
  case body =>
    rintro l pre x a' W hl ⟨r, hr⟩ ⟨⟨⟨⟨v, hv, hrow, hp⟩, hA⟩, hE⟩, hB, hW0⟩ ⟨Bx, hBx, bX, rfl⟩ hlt
    obtain ⟨p, cap, rfl⟩ : ∃ p cap, v = .slice p pre.length cap := by
      rcases hrow.2 with ⟨rfl, h0⟩ | ⟨gb, cap, _, rfl, _⟩
      · exact ⟨none, 0, by rw [h0]⟩
      · exact ⟨some ⟨gb, 0, none⟩, cap, rfl⟩
    have hc := hv.cell
    have hA1 := hA.cell
    have hA2 := hA.frozen
    have hE1 := hE.cell
    have hE2 := hE.frozen
    have x0 : W.cell? ⟨Bx, 0, none⟩ = some (.int .i64 x.1) := bX.cell 0
    have x1 : W.cell? ⟨Bx, 1, none⟩ = some (.int .i64 x.2) := bX.cell 1
    have hle : w.heap.size ≤ W0.heap.size := by omega
    by_cases h400 : pre.length = 400
    · have h400' : ((pre.length : Int) == 400) = true := by rw [h400]; rfl
      have H4 := Lib.hid h400
      clear h400 hlt hp
      have hE2' : (W.setCell ⟨w.heap.size + 1, 0, none⟩ (.slice none 0 0)).frozen? ⟨w.heap.size + 1 + 1, 0, none⟩ = false := by rw [World.frozen?_setCell]; exact hE2
      have hE1' := (hE.other (B' := w.heap.size + 1) (by omega) (.slice none 0 0)).cell
      gi_wp2_with fail
      refine ⟨((KeepsOthers.setCell _ _ _).trans (KeepsOthers.setCell _ _ _)).from _, ⟨⟨rfl, by have := H4.out; simp; try omega⟩, (hA.set _).other (by omega) _, (hE.other (by omega) _).set _⟩, (hB.setCell (p := ⟨w.heap.size + 1, 0, none⟩) (by simp; try omega) _).setCell (p := ⟨w.heap.size + 1 + 1, 0, none⟩) (by simp; try omega) _⟩
    · have h400' : ((pre.length : Int) == 400) = false := by rw [beq_eq_false_iff_ne]; omega
      have h399 : pre.length ≤ 399 := by omega
      clear h400
      gi_wp2_with (gi_at_builtin; refine wpListIn_append_own _ rfl _ _ 38 rfl W0.heap.size 25 i0 (.agg #[.int .i64 0, .int .i64 0]) 2 16 Try.underlying38 hi hz0 hz1 hz2 rfl (by decide) _ _ _ rfl (hrow.alloc _) ⟨W.heap.size, 0, none⟩ 1 1 (cellsW x) rfl rfl (cells_two_new _ _ _ _) (by simp [cellsW, Value.oneCell']) (by unfold maxLen; omega) (by omega) (by simp; omega) ?_; intro v' w1 hown' hgrow _; obtain ⟨g', cap', rfl⟩ := ownsRow_succ hown'; obtain ⟨hv1, hv2, _, hk2, hb2⟩ := hv.appended (by decide) (ownsRow_base hrow hle) hB.size (by omega) (ownsRow_base hown' hle) hgrow; have hc1 := hv1.cell; have hf1 := hv1.frozen)
      have hr2 := hown'.kept (grownBy_setCell' w1 (w.heap.size + 1 + 1 + 1 + 1 + 1) (.slice (some ⟨g', 0, none⟩) (pre.length + 1) cap')) (.inr (hv1.not_row (by decide) hown').symm)
      have hbW : Below W0.heap.size W w1 := ((Below.refl _ W).alloc hW0 _).grown hgrow (by simp; omega) (fun k e => (hrow.lt k e).1)
      have hk3 : Keeps3 (w.heap.size + 1 + 1 + 1 + 1 + 1 + 1) (w.heap.size + 1 + 1 + 1 + 1 + 1 + 1 + 1) (w.heap.size + 1 + 1 + 1 + 1 + 1 + 1 + 1 + 1) W (w1.setCell ⟨w.heap.size + 1 + 1 + 1 + 1 + 1, 0, none⟩ (.slice (some ⟨g', 0, none⟩) (pre.length + 1) cap')) :=
        (Keeps3.of_below hbW (by omega) (by omega) (by omega)).trans ⟨Below.heap_setCell _ _ _ _ (by simp), Below.heap_setCell _ _ _ _ (by simp; omega), Below.heap_setCell _ _ _ _ (by simp; omega)⟩
      have hA3 := ((hA.alloc (.cells (cellsW x).toArray 25)).kept hgrow (hA.not_row (by decide) hrow)).other (B' := w.heap.size + 1 + 1 + 1 + 1 + 1) (by omega) (.slice (some ⟨g', 0, none⟩) (pre.length + 1) cap')
      have hE3 := ((hE.alloc (.cells (cellsW x).toArray 25)).kept hgrow (hE.not_row (by decide) hrow)).other (B' := w.heap.size + 1 + 1 + 1 + 1 + 1) (by omega) (.slice (some ⟨g', 0, none⟩) (pre.length + 1) cap')
      refine ⟨hk2.from _, hk3, ⟨⟨⟨_, hv2, ?_, by simp; omega⟩, hA3⟩, hE3⟩, hB.trans hb2, ?_⟩
      · rw [flatW_snoc, List.length_append]
        exact hr2
      · have := hbW.size
        simp [World.setCell]
        omega
  case done =>
    rintro D ys W hD rfl ⟨⟨⟨⟨v, hv, hrow, hp⟩, hA⟩, hE⟩, hB, hW0⟩ hK
    have hrr : (range k sz st sh fr to).length ≤ 400 := hp
    obtain ⟨rfl, rfl⟩ : xs = range k sz st sh fr to ∧ r = 0 := by
      rcases HR.out with ⟨h, _⟩ | ⟨_, h1, h2⟩
      · omega
      · exact ⟨h1, h2⟩
    change W.ownsRow W0.heap.size 25 2 v (range k sz st sh fr to).length (flatW (range k sz st sh fr to)) at hrow
    generalize range k sz st sh fr to = xs at *
    obtain ⟨p, cap, rfl⟩ : ∃ p cap, v = .slice p xs.length cap := by
      rcases hrow.2 with ⟨rfl, h0⟩ | ⟨gb, cap, _, rfl, _⟩
      · exact ⟨none, 0, by rw [h0]⟩
      · exact ⟨some ⟨gb, 0, none⟩, cap, rfl⟩
    have hc := hv.cell
    have hA1 := hA.cell
    have hA2 := hA.frozen
    have hE2' : (W.setCell ⟨w.heap.size + 1, 0, none⟩ (.slice p xs.length cap)).frozen? ⟨w.heap.size + 1 + 1, 0, none⟩ = false := by rw [World.frozen?_setCell]; exact hE.frozen
    have hE1' := (hE.other (B' := w.heap.size + 1) (by omega) (.slice p xs.length cap)).cell
    clear hp hrr
    gi_wp2_with fail
    have hK2 := ((KeepsOthers.setCell W ⟨w.heap.size + 1, 0, none⟩ (.slice p xs.length cap)).trans (KeepsOthers.setCell _ ⟨w.heap.size + 1 + 1, 0, none⟩ (.int .i64 0))).same D _ hK rfl
    refine ⟨by simp, .inl ⟨_, _, rfl, run_takeDeferred hK2, ?_⟩⟩
    have bA := (hA.set (.slice p xs.length cap)).other (B' := w.heap.size + 1 + 1) (by omega) (.int .i64 0)
    have bE := (hE.other (B' := w.heap.size + 1) (by omega) (.slice p xs.length cap)).set (.int .i64 0)
    have hrow2 := (hrow.kept (grownBy_setCell' W (w.heap.size + 1) (.slice p xs.length cap)) (.inr (hA.not_row (by decide) hrow).symm)).kept (grownBy_setCell' _ (w.heap.size + 1 + 1) (.int .i64 0)) (.inr ((hE.other (B' := w.heap.size + 1) (by omega) (.slice p xs.length cap)).not_row (by decide) (hrow.kept (grownBy_setCell' W (w.heap.size + 1) (.slice p xs.length cap)) (.inr (hA.not_row (by decide) hrow).symm))).symm)
    have hk5 := cell_kept bA.cell (grownBy_putObj' _ D (.deferred none)) (fun r e => by cases e; exact ⟨_, hK2, rfl⟩)
    have hb5 := cell_kept bE.cell (grownBy_putObj' _ D (.deferred none)) (fun r e => by cases e; exact ⟨_, hK2, rfl⟩)
    refine ⟨.tuple #[.slice p xs.length cap, .int .i64 0], ?_, _, rfl, ownsRow_base (ownsRow_putObj hrow2 _ hK2 rfl) (by omega), ((hB.setCell (p := ⟨w.heap.size + 1, 0, none⟩) (by simp; try omega) _).setCell (p := ⟨w.heap.size + 1 + 1, 0, none⟩) (by simp; try omega) _).trans (belowK_b (w := w) (Nat.le_refl _) _ D _ _ (by omega) hK2 rfl rfl)⟩
    simp [results, Try.f35, go_sem, hk5, hb5]
  case stop =>
    rintro D c pre W hD hpre ⟨⟨⟨rfl, hlen⟩, hA, hE⟩, hB⟩ hK
    have hrr : 400 < (range k sz st sh fr to).length := Nat.lt_of_lt_of_le hlen hpre.length_le
    obtain ⟨rfl, rfl⟩ : xs = [] ∧ r = 4 := by
      rcases HR.out with ⟨_, h1, h2⟩ | ⟨h, _⟩
      · exact ⟨h1, h2⟩
      · omega
    gi_wp2_with fail
    refine ⟨by simp, .inl ⟨_, _, rfl, run_takeDeferred hK, ?_⟩⟩
    have hk5 := cell_kept hA.cell (grownBy_putObj' _ D (.deferred none)) (fun r e => by cases e; exact ⟨_, hK, rfl⟩)
    have hb5 := cell_kept hE.cell (grownBy_putObj' _ D (.deferred none)) (fun r e => by cases e; exact ⟨_, hK, rfl⟩)
    refine ⟨.tuple #[.slice none 0 0, .int .i64 4], ?_, _, rfl, World.ownsRow_nil _ _ _ _, hB.trans (belowK_b (w := w) (Nat.le_refl _) W D _ _ (by omega) hK rfl rfl)⟩
    simp [results, Try.f35, go_sem, hk5, hb5]

theorem Between_any (k sz st g sh fr to : Int) (w : World) :
    Calls Try.prog 35 #[.agg #[.int .i64 k, .int .i64 sz, .int .i64 st, .int .i64 g, .int .i64 sh], .int .i64 fr, .int .i64 to] w (RowPost2 w.heap.size w (betweenOf k sz st g sh fr to) (betweenErr k sz st g sh fr to)) := by
  by_cases h : specOK k sz st g sh = true
  · by_cases h2 : inR fr (-1000000000000) 1000000000000 = true
    · have hf := (inR_iff _ _ _).1 h2
      by_cases h3 : inR to (-1000000000000) 1000000000000 = true
      · have ht := (inR_iff _ _ _).1 h3
        by_cases h4 : fr ≤ to
        · have hr : rangeOK fr to := ⟨hf, ht, h4⟩
          by_cases h12 : k = 1 ∨ k = 2
          · refine callsIn_wide.1 (Between_12 k sz st g sh fr to h h2 h3 h4 h12 4 (Nat.le_refl _) _ _ ?_ w)
            by_cases hl : 400 < (range k sz st sh fr to).length
            · have hE : betweenErr k sz st g sh fr to = 4 := by simp [betweenErr, h, hr, h12, hl]
              exact .inl ⟨hl, by simp [betweenOf, hE], hE⟩
            · have hE : betweenErr k sz st g sh fr to = 0 := by simp [betweenErr, h, hr, h12, hl]
              exact .inr ⟨by omega, by simp [betweenOf, hE], hE⟩
          · have hE : betweenErr k sz st g sh fr to = 11 := by simp [betweenErr, h, hr, h12]
            rw [hE, show betweenOf k sz st g sh fr to = [] by simp [betweenOf, hE]]
            exact Between_11 k sz st g sh fr to h h2 h3 h4 h12 w
        · have hr : ¬ rangeOK fr to := fun h => h4 h.2.2
          have hE : betweenErr k sz st g sh fr to = 7 := by simp [betweenErr, h, hr]
          rw [hE, show betweenOf k sz st g sh fr to = [] by simp [betweenOf, hE]]
          exact Between_7c k sz st g sh fr to h h2 h3 (by omega) w
      · have hr : ¬ rangeOK fr to := fun h => h3 (inR_yes h.2.1)
        have hE : betweenErr k sz st g sh fr to = 7 := by simp [betweenErr, h, hr]
        rw [hE, show betweenOf k sz st g sh fr to = [] by simp [betweenOf, hE]]
        exact Between_7b k sz st g sh fr to h h2 (by simpa using h3) w
    · have hr : ¬ rangeOK fr to := fun h => h2 (inR_yes h.1)
      have hE : betweenErr k sz st g sh fr to = 7 := by simp [betweenErr, h, hr]
      rw [hE, show betweenOf k sz st g sh fr to = [] by simp [betweenOf, hE]]
      exact Between_7a k sz st g sh fr to h (by simpa using h2) w
  · have h' : specOK k sz st g sh = false := by simpa using h
    have hE : betweenErr k sz st g sh fr to = 1 := by simp [betweenErr, h']
    rw [hE, show betweenOf k sz st g sh fr to = [] by simp [betweenOf, hE]]
    exact Between_1 k sz st g sh fr to h' w
end Go.Proofs.Ytbiaalpnabkkfaa
