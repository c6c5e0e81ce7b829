/-
  A range over a function whose iterator writes one block of its own (B), and whose body goes on always: the body's invariant speaks of other blocks than B.
-/
import Derived.Test.YtlhhkiglpehnfaaDoorProg
import Derived.RangeFuncNested
namespace Go.Proofs.YtlhhkiglpehnfaaDoor
open Go.RowKit

/-- What holds of a world holds still where one block, B, was written and blocks were laid. -/
def Abide {β : Type} (B : Nat) (J : β → World → Prop) : Prop := ∀ s W W', J s W → W.grownBy W' (some B) → J s W'
/-- An iterator that hands on the elements xs, one by one: each is as Ok says in the world in which it is handed on; between two of them block B alone is written. -/
def SeqB {α : Type} (F : Fence) (n : Nat) (P : Program) (gf : Nat) (lb : Array Value) (encs : α → Array Value) (B : Nat) (Kp : World → World → Prop) (Ok : List α → α → World → Prop) (S : List α → Prop) (w : World) : Prop :=
  ∀ (l : Nat) (J : List α → World → Prop) (W : World), Below w.heap.size w W → Abide B J →
    (∀ pre x W1, J pre W1 → Ok pre x W1 → YieldAt F (n - 1) P l (encs x) W1 fun e W' => e = .returned (.bool true) ∧ J (pre ++ [x]) W' ∧ Kp W1 W') →
    J [] W →
    CallsIn F n P gf (#[.func (.yield l) #[] #[]] ++ lb) W fun e W' => (∃ v, e = .returned v) ∧ ∃ xs, S xs ∧ J xs W'

theorem grown_some {W W' : World} {B : Nat} (h : W.grownBy W' none) : W.grownBy W' (some B) := ⟨h.os, h.tape, h.output, h.size, fun k hk _ => h.block k hk (by simp)⟩

/-- A body's end: it goes on. -/
def goOn {α : Type} (b : Nat) (Kp : World → World → Prop) (I : List α → World → Prop) (xs : List α) (W : World) : Exit → Act → World → Prop
  | .normal, _, W' => KeepsFrom b W W' ∧ Kp W W' ∧ I xs W'
  | _, _, _ => False

theorem range_own {α : Type} {F : Fence} {n : Nat} {P : Program} {w : World} {g : Operand} {ps : Array Tmp} {assign body : Code} {Q : Exit → Act → World → Prop} {a : Act} (B : Nat) (hBw : B < w.heap.size)
    (hro : F.round = none) (h1 : 1 ≤ n) {gf : Nat} {lb : Array Value} (hg : a.eval g = .func (.func gf) #[] lb) (hFg : F.fn gf) (eg : ∀ args w, (callFunc gf args).run P w = .ok (.enter gf args) w)
    {encs : α → Array Value} {Kp : World → World → Prop} {Ok : List α → α → World → Prop} {S : List α → Prop} (hseq : SeqB F (n - 1) P gf lb encs B Kp Ok S w)
    (hKt : ∀ {X Y Z : World}, Kp X Y → Kp Y Z → Kp X Z) (hKb : ∀ (W : World) (l : Nat) (o o' : Obj), w.heap.size ≤ l → W.heap[l]? = some o → o.isCells = false → Kp W (W.putObj l o')) (hps : ∀ x, (encs x).size = ps.size)
    (I : List α → World → Prop) (hI : OwnFrom w.heap.size I) (hIB : Abide B I) (h0 : I [] w) (Ax : List α → α → Act → World → Prop) (hAx : ∀ pre x a', OwnFrom w.heap.size (fun (_ : Unit) W => Ax pre x a' W))
    (hassign : ∀ (l : Nat) (pre : List α) (x : α) (W : World) (K : Act → World → Prop), I pre W → Ok pre x W → (∀ a' W', KeepsFrom w.heap.size W W' → Kp W W' → I pre W' → Ax pre x a' W' → K a' W') →
      assign.wpIn (F.inRound l) (n - 1 - 1) P (Exit.then K (fun _ _ _ => False)) { tmps := (ps.zip (encs x)).foldl (fun t (p, v) => t.setIfInBounds p v) a.tmps, defers := [] } W)
    (hbody : ∀ (l : Nat) (pre : List α) (x : α) (a' : Act) (W : World), I pre W → Ax pre x a' W → body.wpIn (F.inRound l) (n - 1 - 1) P (goOn w.heap.size Kp I (pre ++ [x]) W) a' W)
    (hdone : ∀ (D : Nat) (xs : List α) (W : World), w.heap.size ≤ D → S xs → I xs W → W.heap[D]? = some (.deferred (some [])) → Q .normal { a with defers := { target := .collected D, args := #[] } :: a.defers } W) :
    (Code.rangeFunc g ps assign body).wpIn F n P Q a w := by
  refine wpIn_rangeFunc fun fn hfn => ?_
  rw [hro]
  -- the two blocks of book-keeping: the rounds' deferred calls at D, the loop's record at L
  have key : ∃ rec : LoopState → Option Code → Loop, rec = fun st pe => { state := st, pending := pe, fn, tmps := a.tmps, params := ps, assign, body, defers := w.heap.size } := ⟨_, rfl⟩
  obtain ⟨rec, hrec⟩ := key
  let R0 : Obj := .loop (rec .ready none)
  let RB : Obj := .loop { rec .ready none with state := .busy }
  let Wd := w.alloc (.deferred (some []))
  have hdsz : Wd.heap.size = w.heap.size + 1 := by simp [Wd]
  obtain ⟨V, hV⟩ : ∃ V, Wd.alloc R0 = V := ⟨_, rfl⟩
  have hVL : V.heap[w.heap.size + 1]? = some R0 := by
    rw [← hV, ← hdsz]; exact World.alloc_heap_new Wd R0
  have hVD : V.heap[w.heap.size]? = some (.deferred (some [])) := by
    rw [← hV]; exact (Below.heap_alloc _ _ _ (by rw [hdsz]; omega)).trans (World.alloc_heap_new w _)
  have hVI : I [] V := by rw [← hV]; exact hI.alloc _ (hI.alloc _ h0)
  have hVb : Below w.heap.size w V := by
    rw [← hV]; exact ((Below.refl _ w).alloc (Nat.le_refl _) _).alloc (by rw [hdsz]; omega) _
  let J : List α → World → Prop := fun pre W => I pre W ∧ W.heap[w.heap.size + 1]? = some R0 ∧ W.heap[w.heap.size]? = some (.deferred (some []))
  have hJ : Abide B J := fun s X Y hs hg' =>
    ⟨hIB s X Y hs.1 hg', (hg'.block _ (Array.getElem?_eq_some_iff.1 hs.2.1).1 (by simp only [ne_eq, Option.some.injEq]; omega)).trans hs.2.1, (hg'.block _ (Array.getElem?_eq_some_iff.1 hs.2.2).1 (by simp only [ne_eq, Option.some.injEq]; omega)).trans hs.2.2⟩
  refine ⟨w.heap.size + 1, [{ target := .collected w.heap.size, args := #[] }], V, { target := .fn (.func gf) lb, args := #[.func (.yield (w.heap.size + 1)) #[] #[]] }, V, gf, #[.func (.yield (w.heap.size + 1)) #[] #[]] ++ lb, V, ?_, ?_, ?_, ?_, fun _ => h1, ?_⟩
  · rw [← hV]; show _ = Result.ok _ (Wd.alloc (.loop (rec .ready none))); rw [hrec]; exact run_enterLoop_outer _ _ _ _ _
  · simp only [resolve, hg]
    simp [go_sem]
  · intro f' hf'
    simp [Target.leads] at hf'
    subst hf'
    exact hFg
  · simp [invoke, go_sem, eg]
  refine (hseq (w.heap.size + 1) J V hVb hJ ?_ ⟨hVI, hVL, hVD⟩).mono ?_
  · -- a round
    rintro pre x W ⟨hi, hl, hd⟩ hok
    have hy := run_yield (P := P) (args := encs x) hl (by rw [hrec]; exact hps x)
    rw [hrec] at hy
    refine ⟨fn, _, assign, body, hy, roundIn_of_wpIn hfn (hassign _ pre x W _ hi hok ?_)⟩
    clear hy
    intro a' X hkX hpX hiX haX
    have hlX := hkX.same _ _ (by omega) hl rfl
    have hdX := hkX.same _ _ (Nat.le_refl _) hd rfl
    have hltX : w.heap.size + 1 < X.heap.size := (Array.getElem?_eq_some_iff.1 hlX).1
    refine ⟨_, run_beginRound hlX (by rw [hrec]), ?_⟩
    have hlB : (X.putObj (w.heap.size + 1) RB).heap[w.heap.size + 1]? = some RB := World.putObj_heap_same hltX
    have hdB : (X.putObj (w.heap.size + 1) RB).heap[w.heap.size]? = some (.deferred (some [])) := (World.putObj_heap_other (by omega)).trans hdX
    have hpB : Kp X (X.putObj (w.heap.size + 1) RB) := hKb _ _ _ _ (by omega) hlX rfl
    refine wpIn_mono (hbody _ pre x a' _ (hI.putObj _ hiX (by omega) hlX rfl) ((hAx pre x a').putObj (s := ()) _ haX (by omega) hlX rfl)) ?_
    rintro e a3 Z hp
    cases e with
    | normal =>
      obtain ⟨hkZ, hpZ, hiZ⟩ := hp
      have hlZ := hkZ.same _ _ (by omega) hlB rfl
      have hdZ := hkZ.same _ _ (Nat.le_refl _) hdB rfl
      have hr := run_endRound (P := P) none hlZ
      rw [hrec] at hr
      have hend : (Z.putObj (w.heap.size + 1) R0).heap[w.heap.size + 1]? = some R0 := World.putObj_heap_same (Array.getElem?_eq_some_iff.1 hlZ).1
      have hend2 : (Z.putObj (w.heap.size + 1) R0).heap[w.heap.size]? = some (.deferred (some [])) := (World.putObj_heap_other (by omega)).trans hdZ
      refine ⟨.bool true, Z.putObj (w.heap.size + 1) R0, ?_, rfl, ⟨hI.putObj _ hiZ (by omega) hlZ rfl, hend, hend2⟩, hKt hpX (hKt (hKt hpB hpZ) (hKb _ _ _ _ (by omega) hlZ rfl))⟩
      show _ = Result.ok _ (Z.putObj (w.heap.size + 1) (.loop (rec .ready none)))
      rw [hrec]
      exact hr
    | ret => exact hp.elim
    | exit id => exact hp.elim
    | goto t => exact hp.elim
    | panic ch => exact hp.elim
    | outgrown => exact hp.elim
  · -- behind the iterator
    rintro e Z ⟨⟨v, rfl⟩, xs, hS, hi, hl, hd⟩
    refine ⟨none, _, by have := run_endLoop (P := P) hl (by rw [hrec]; simp); rw [hrec] at this; exact this, hdone _ xs _ (Nat.le_refl _) hS (hI.putObj _ hi (by omega) hl rfl) ((World.putObj_heap_other (by omega)).trans hd)⟩
#print axioms range_own
end Go.Proofs.YtlhhkiglpehnfaaDoor
