/-
  Several texts in one.
-/
import Derived.Test.YtledgnolmiecfaaGreatDoorProg
import Derived.RangeFuncNested
import Derived.RangeFuncBound
import Derived.RangeFuncCalls
import Derived.OrdersIn
import Derived.TacticsIn
import Derived.Deep.RegionHeld3
import Derived.StillTail
/-!
  A range over a function whose iterator writes one block of its own (B), and whose body goes on or returns: the body's invariant speaks of other blocks than B.
-/
namespace Go.Proofs.YtledgnolmiecfaaGreatDoor
open Go.RowKit
set_option linter.unusedSimpArgs false

/-- What holds of a world holds still where one block, B, was written and blocks were laid. -/
def Abide {β : Type} (B : Nat) (J : β → World → Prop) : Prop := ∀ s W W', J s W → W.grownBy W' (some B) → J s W'
/-- An iterator that hands on the elements xs, one by one: each is as Ok says in the world in which it is handed on; between two of them block B alone is written. -/
def SeqBX {α : Type} (F : Fence) (n : Nat) (P : Program) (gf : Nat) (lb : Array Value) (encs : α → Array Value) (B : Nat) (Kp : World → World → Prop) (Ok : List α → α → World → Prop) (S Sp : List α → Prop) (w : World) : Prop :=
  ∀ (l : Nat) (J Jx : List α → World → Prop) (W : World), Below w.heap.size w W → Abide B J → Abide B Jx →
    (∀ pre x W1, J pre W1 → Ok pre x W1 → YieldAt F (n - 1) P l (encs x) W1 fun e W' => (e = .returned (.bool true) ∧ J (pre ++ [x]) W' ∧ Kp W1 W') ∨ (e = .returned (.bool false) ∧ Jx (pre ++ [x]) W')) →
    J [] W →
    CallsIn F n P gf (#[.func (.yield l) #[] #[]] ++ lb) W fun e W' => (∃ v, e = .returned v) ∧ ((∃ xs, S xs ∧ J xs W') ∨ (∃ pre, Sp pre ∧ Jx pre W'))

theorem grown_some {W W' : World} {B : Nat} (h : W.grownBy W' none) : W.grownBy W' (some B) := ⟨h.os, h.tape, h.output, h.size, fun k hk _ => h.block k hk (by simp)⟩

/-- A body's end: it goes on, or returns. -/
def goOnX {α : Type} (b : Nat) (Kp : World → World → Prop) (I Ix : List α → World → Prop) (xs : List α) (W : World) : Exit → Act → World → Prop
  | .normal, _, W' => KeepsFrom b W W' ∧ Kp W W' ∧ I xs W'
  | .ret, _, W' => KeepsFrom b W W' ∧ Ix xs W'
  | _, _, _ => False

theorem range_ownX {α : Type} {F : Fence} {n : Nat} {P : Program} {w : World} {g : Operand} {ps : Array Tmp} {assign body : Code} {Q : Exit → Act → World → Prop} {a : Act} (B : Nat) (hBw : B < w.heap.size)
    (hro : F.round = none) (h1 : 1 ≤ n) {gf : Nat} {lb : Array Value} (hg : a.eval g = .func (.func gf) #[] lb) (hFg : F.fn gf) (eg : ∀ args w, (callFunc gf args).run P w = .ok (.enter gf args) w)
    {encs : α → Array Value} {Kp : World → World → Prop} {Ok : List α → α → World → Prop} {S Sp : List α → Prop} (hseq : SeqBX F (n - 1) P gf lb encs B Kp Ok S Sp w)
    (hKt : ∀ {X Y Z : World}, Kp X Y → Kp Y Z → Kp X Z) (hKb : ∀ (W : World) (l : Nat) (o o' : Obj), w.heap.size ≤ l → W.heap[l]? = some o → o.isCells = false → Kp W (W.putObj l o')) (hps : ∀ x, (encs x).size = ps.size)
    (I Ix : List α → World → Prop) (hI : OwnFrom w.heap.size I) (hIx : OwnFrom w.heap.size Ix) (hIB : Abide B I) (hIxB : Abide B Ix) (h0 : I [] w) (Ax : List α → α → Act → World → Prop) (hAx : ∀ pre x a', OwnFrom w.heap.size (fun (_ : Unit) W => Ax pre x a' W))
    (hassign : ∀ (l : Nat) (pre : List α) (x : α) (W : World) (K : Act → World → Prop), I pre W → Ok pre x W → (∀ a' W', KeepsFrom w.heap.size W W' → Kp W W' → I pre W' → Ax pre x a' W' → K a' W') →
      assign.wpIn (F.inRound l) (n - 1 - 1) P (Exit.then K (fun _ _ _ => False)) { tmps := (ps.zip (encs x)).foldl (fun t (p, v) => t.setIfInBounds p v) a.tmps, defers := [] } W)
    (hbody : ∀ (l : Nat) (pre : List α) (x : α) (a' : Act) (W : World), I pre W → Ax pre x a' W → body.wpIn (F.inRound l) (n - 1 - 1) P (goOnX w.heap.size Kp I Ix (pre ++ [x]) W) a' W)
    (hdone : ∀ (D : Nat) (xs : List α) (W : World), w.heap.size ≤ D → S xs → I xs W → W.heap[D]? = some (.deferred (some [])) → Q .normal { a with defers := { target := .collected D, args := #[] } :: a.defers } W)
    (hstop : ∀ (D : Nat) (xs : List α) (W : World), w.heap.size ≤ D → Sp xs → Ix xs W → W.heap[D]? = some (.deferred (some [])) → Code.ret.wpIn F n P Q { a with defers := { target := .collected D, args := #[] } :: a.defers } W) :
    (Code.rangeFunc g ps assign body).wpIn F n P Q a w := by
  refine wpIn_rangeFunc fun fn hfn => ?_
  rw [hro]
  -- the two blocks of book-keeping: the rounds' deferred calls at D, the loop's record at L
  have key : ∃ rec : LoopState → Option Code → Loop, rec = fun st pe => { state := st, pending := pe, fn, tmps := a.tmps, params := ps, assign, body, defers := w.heap.size } := ⟨_, rfl⟩
  obtain ⟨rec, hrec⟩ := key
  let R0 : Obj := .loop (rec .ready none)
  let RB : Obj := .loop { rec .ready none with state := .busy }
  let Wd := w.alloc (.deferred (some []))
  have hdsz : Wd.heap.size = w.heap.size + 1 := by simp [Wd]
  obtain ⟨V, hV⟩ : ∃ V, Wd.alloc R0 = V := ⟨_, rfl⟩
  have hVL : V.heap[w.heap.size + 1]? = some R0 := by
    rw [← hV, ← hdsz]; exact World.alloc_heap_new Wd R0
  have hVD : V.heap[w.heap.size]? = some (.deferred (some [])) := by
    rw [← hV]; exact (Below.heap_alloc _ _ _ (by rw [hdsz]; omega)).trans (World.alloc_heap_new w _)
  have hVI : I [] V := by rw [← hV]; exact hI.alloc _ (hI.alloc _ h0)
  have hVb : Below w.heap.size w V := by
    rw [← hV]; exact ((Below.refl _ w).alloc (Nat.le_refl _) _).alloc (by rw [hdsz]; omega) _
  let J : List α → World → Prop := fun pre W => I pre W ∧ W.heap[w.heap.size + 1]? = some R0 ∧ W.heap[w.heap.size]? = some (.deferred (some []))
  have hJ : Abide B J := fun s X Y hs hg' =>
    ⟨hIB s X Y hs.1 hg', (hg'.block _ (Array.getElem?_eq_some_iff.1 hs.2.1).1 (by simp only [ne_eq, Option.some.injEq]; omega)).trans hs.2.1, (hg'.block _ (Array.getElem?_eq_some_iff.1 hs.2.2).1 (by simp only [ne_eq, Option.some.injEq]; omega)).trans hs.2.2⟩
  refine ⟨w.heap.size + 1, [{ target := .collected w.heap.size, args := #[] }], V, { target := .fn (.func gf) lb, args := #[.func (.yield (w.heap.size + 1)) #[] #[]] }, V, gf, #[.func (.yield (w.heap.size + 1)) #[] #[]] ++ lb, V, ?_, ?_, ?_, ?_, fun _ => h1, ?_⟩
  · rw [← hV]; show _ = Result.ok _ (Wd.alloc (.loop (rec .ready none))); rw [hrec]; exact run_enterLoop_outer _ _ _ _ _
  · simp only [resolve, hg]
    simp [go_sem]
  · intro f' hf'
    simp [Target.leads] at hf'
    subst hf'
    exact hFg
  · simp [invoke, go_sem, eg]
  let Jx : List α → World → Prop := fun pre W => Ix pre W ∧ W.heap[w.heap.size + 1]? = some (.loop (rec .done (some .ret))) ∧ W.heap[w.heap.size]? = some (.deferred (some []))
  have hJx : Abide B Jx := fun s X Y hs hg' =>
    ⟨hIxB s X Y hs.1 hg', (hg'.block _ (Array.getElem?_eq_some_iff.1 hs.2.1).1 (by simp only [ne_eq, Option.some.injEq]; omega)).trans hs.2.1, (hg'.block _ (Array.getElem?_eq_some_iff.1 hs.2.2).1 (by simp only [ne_eq, Option.some.injEq]; omega)).trans hs.2.2⟩
  refine (hseq (w.heap.size + 1) J Jx V hVb hJ hJx ?_ ⟨hVI, hVL, hVD⟩).mono ?_
  · -- a round
    rintro pre x W ⟨hi, hl, hd⟩ hok
    have hy := run_yield (P := P) (args := encs x) hl (by rw [hrec]; exact hps x)
    rw [hrec] at hy
    refine ⟨fn, _, assign, body, hy, roundIn_of_wpIn hfn (hassign _ pre x W _ hi hok ?_)⟩
    clear hy
    intro a' X hkX hpX hiX haX
    have hlX := hkX.same _ _ (by omega) hl rfl
    have hdX := hkX.same _ _ (Nat.le_refl _) hd rfl
    have hltX : w.heap.size + 1 < X.heap.size := (Array.getElem?_eq_some_iff.1 hlX).1
    refine ⟨_, run_beginRound hlX (by rw [hrec]), ?_⟩
    have hlB : (X.putObj (w.heap.size + 1) RB).heap[w.heap.size + 1]? = some RB := World.putObj_heap_same hltX
    have hdB : (X.putObj (w.heap.size + 1) RB).heap[w.heap.size]? = some (.deferred (some [])) := (World.putObj_heap_other (by omega)).trans hdX
    have hpB : Kp X (X.putObj (w.heap.size + 1) RB) := hKb _ _ _ _ (by omega) hlX rfl
    refine wpIn_mono (hbody _ pre x a' _ (hI.putObj _ hiX (by omega) hlX rfl) ((hAx pre x a').putObj (s := ()) _ haX (by omega) hlX rfl)) ?_
    rintro e a3 Z hp
    cases e with
    | normal =>
      obtain ⟨hkZ, hpZ, hiZ⟩ := hp
      have hlZ := hkZ.same _ _ (by omega) hlB rfl
      have hdZ := hkZ.same _ _ (Nat.le_refl _) hdB rfl
      have hr := run_endRound (P := P) none hlZ
      rw [hrec] at hr
      have hend : (Z.putObj (w.heap.size + 1) R0).heap[w.heap.size + 1]? = some R0 := World.putObj_heap_same (Array.getElem?_eq_some_iff.1 hlZ).1
      have hend2 : (Z.putObj (w.heap.size + 1) R0).heap[w.heap.size]? = some (.deferred (some [])) := (World.putObj_heap_other (by omega)).trans hdZ
      refine ⟨.bool true, Z.putObj (w.heap.size + 1) R0, ?_, .inl ⟨rfl, ⟨hI.putObj _ hiZ (by omega) hlZ rfl, hend, hend2⟩, hKt hpX (hKt (hKt hpB hpZ) (hKb _ _ _ _ (by omega) hlZ rfl))⟩⟩
      show _ = Result.ok _ (Z.putObj (w.heap.size + 1) (.loop (rec .ready none)))
      rw [hrec]
      exact hr
    | ret =>
      obtain ⟨hkZ, hiZ⟩ := hp
      have hlZ := hkZ.same _ _ (by omega) hlB rfl
      have hdZ := hkZ.same _ _ (Nat.le_refl _) hdB rfl
      have hr := run_endRound (P := P) (some .ret) hlZ
      rw [hrec] at hr
      have hend : (Z.putObj (w.heap.size + 1) (.loop (rec .done (some .ret)))).heap[w.heap.size + 1]? = some (.loop (rec .done (some .ret))) := World.putObj_heap_same (Array.getElem?_eq_some_iff.1 hlZ).1
      have hend2 : (Z.putObj (w.heap.size + 1) (.loop (rec .done (some .ret)))).heap[w.heap.size]? = some (.deferred (some [])) := (World.putObj_heap_other (by omega)).trans hdZ
      refine ⟨.bool false, Z.putObj (w.heap.size + 1) (.loop (rec .done (some .ret))), ?_, .inr ⟨rfl, hIx.putObj _ hiZ (by omega) hlZ rfl, hend, hend2⟩⟩
      rw [hrec]
      exact hr
    | exit id => exact hp.elim
    | goto t => exact hp.elim
    | panic ch => exact hp.elim
    | outgrown => exact hp.elim
  · -- behind the iterator
    rintro e Z ⟨⟨v, rfl⟩, (⟨xs, hS, hi, hl, hd⟩ | ⟨xs, hS, hi, hl, hd⟩)⟩
    rotate_left
    · exact ⟨some .ret, _, by have := run_endLoop (P := P) hl (by rw [hrec]; simp); rw [hrec] at this; exact this, hstop _ xs _ (Nat.le_refl _) hS (hIx.putObj _ hi (by omega) hl rfl) ((World.putObj_heap_other (by omega)).trans hd)⟩
    refine ⟨none, _, by have := run_endLoop (P := P) hl (by rw [hrec]; simp); rw [hrec] at this; exact this, hdone _ xs _ (Nat.le_refl _) hS (hI.putObj _ hi (by omega) hl rfl) ((World.putObj_heap_other (by omega)).trans hd)⟩
end Go.Proofs.YtledgnolmiecfaaGreatDoor

/-!
  A region that draws its order, in a round of a range over a function, at the wide fence: by the plain rules.
-/
namespace Go.Proofs.YtledgnolmiecfaaGreatDoor

def calm (o : Oper) : Bool := match o.op with | .defer _ => false | _ => true
theorem calm_ne {o : Oper} (h : calm o = true) : ∀ c, o.op ≠ .defer c := fun c e => by unfold calm at h; rw [e] at h; cases h
theorem rows_round {l n : Nat} {P : Program} {row : String} {args : Array Value} {w : World} {R : Value → World → Prop} (h : Rows P row args w R) : RowsIn (Fence.wide.inRound l) n P row args w R :=
  fun c cs _ => let ⟨v, w', r, s⟩ := h c cs; ⟨v, w', r, stepsIn_wide.2 s⟩
theorem calls_round {l n : Nat} {P : Program} {f : FuncId} {args : Array Value} {w : World} {R : Ending → World → Prop} (h : Calls P f args w R) : CallsIn (Fence.wide.inRound l) n P f args w R := CallsIn.inRound l (callsIn_wide.2 h)
theorem oper_round {l n : Nat} {P : Program} {o : Oper} {a : Act} {w : World} {K K' : Act → World → Prop} {Q : Exit → Act → World → Prop} (hc : calm o = true) (hK : ∀ a w, K a w → K' a w) (h : o.wp P a w K Q) : o.wpIn (Fence.wide.inRound l) n P a w K' Q := by
  refine ⟨fun _ _ => trivial, ?_⟩
  show o.uponIn _ n P a K' Q ((o.semAt (some l) a.eval).run P w)
  rw [Oper.semAt_some l _ o (calm_ne hc)]
  unfold Oper.wp at h
  generalize (execOp a.eval o).run P w = r at h
  cases r with
  | ok x w' =>
    cases x with
    | value v => exact hK _ _ h
    | skip => exact hK _ _ h
    | defer d => exact hK _ _ h
    | enter f args =>
      refine ⟨(fun h => by cases h), (calls_round (l := l) h).mono fun e w'' he => ?_⟩
      cases e with
      | returned v => exact hK _ _ he
      | panicked c => exact he
      | outgrown => exact he
    | row row args => exact ⟨(fun h => by cases h), (rows_round (l := l) h).mono fun v w'' he => hK _ _ he⟩
    | _ => first | exact h.elim | exact absurd h (by simp [Oper.upon])
  | halt x w' => cases x <;> first | exact h | exact h.elim
theorem any_round {l n : Nat} {P : Program} {md : Region.Mode} {ops : Array Oper} {Q : Exit → Act → World → Prop} (hl : ¬ LetsOut Q) (hc : ops.toList.all calm = true) : ∀ (fuel : Nat) (listed : Array Bool) (a : Act) (w : World),
    wpAny P md ops Q fuel listed a w → wpAnyIn (Fence.wide.inRound l) n P md ops Q fuel listed a w
  | 0, _, _, _, h => h
  | fuel + 1, listed, a, w, h => by
    refine ⟨h.1, fun i hi => ?_⟩
    have h2 := h.2 i hi
    unfold wpOp at h2
    unfold wpOpIn
    cases ho : ops[i]? with
    | none => rw [ho] at h2; exact any_round hl hc fuel _ _ _ h2
    | some o =>
      rw [ho] at h2
      dsimp only at h2 ⊢
      have hcal : calm o = true := List.all_eq_true.1 hc o (by have := Array.mem_of_getElem? ho; simpa using this)
      split
      · rename_i hw
        rw [if_pos hw] at h2
        exact oper_round hcal (fun a w h => any_round hl hc fuel _ a w h) (h2.resolve_right fun h => hl h.2)
      · rename_i hw
        rw [if_neg hw] at h2
        exact ⟨fun _ _ => trivial, any_round hl hc fuel _ _ _ h2⟩
theorem region_round {l n id : Nat} {P : Program} {ops : Array Oper} {Q : Exit → Act → World → Prop} {a : Act} {w : World} (hl : ¬ LetsOut Q) (hc : ops.toList.all calm = true) (hm : P.follows .mixedOrders = true)
    (h : wpAny P .any ops Q ops.size (Array.replicate ops.size false) a w.drew) : (Code.region id ops true).wpIn (Fence.wide.inRound l) n P Q a w :=
  wpIn_region_any hm (any_round hl hc _ _ _ _ h)
theorem region_round_held {l n id : Nat} {P : Program} {ops : Array Oper} {Q : Exit → Act → World → Prop} {S : World → Prop} {a : Act} {w : World} (hl : ¬ LetsOut Q) (hc : ops.toList.all calm = true) (hm : P.follows .mixedOrders = true)
    (hS : S w.drew) (h : S w.drew → wpAnyH P .any ops Q S ops.size (Array.replicate ops.size false) a w.drew) : (Code.region id ops true).wpIn (Fence.wide.inRound l) n P Q a w :=
  region_round hl hc hm (wpAny_of_held _ _ _ _ (h hS))
end Go.Proofs.YtledgnolmiecfaaGreatDoor

