/-
  From a walk to the row: what every law's proof does the same way.
-/
import Derived.Test.YtakekegghpgeaaaDoorChecked
import Derived.ProofKit
import Derived.OpenShut
import Derived.Carry
namespace Go.Proofs.YtakekegghpgeaaaDoor
open Go.ChangeShapes Go.WideShapes Go.ChangeAt Go.RowKit

theorem own : ownKnob Tryd.prog.godebug = none := by kernel_rfl
theorem laidOut : laidOutB Tryd.prog = true := by kernel_rfl

/-- Arguments read afterwards as before, whatever their types, where all that was there lies as it lay. -/
theorem trodAll_below {H : Type} {enc : TypeId × Value → H} {P : Program} (hl : laidOutB P = true) {W W' : World} (hb : Below W.heap.size W W') : ∀ {ts : List TypeId} {vs : List Value} {ds : List (DataW H)} {ps : List MemPlace},
    (∀ t ∈ ts, P.readableRec t = true ∧ t < P.types.size) → DataW.TrodAll enc P W 0 (fun _ => true) true ts vs ds ps → (∀ x ∈ ps, x.block < W.heap.size) →
    DataW.TrodAll enc P W' 0 (fun b => decide (b < W.heap.size)) true ts vs ds ps
  | [], _, _, _, _, h, _ => by
    obtain ⟨rfl, rfl, rfl⟩ := trodAll_nil h
    exact trodAll_mk0
  | t :: ts, _, _, _, ht, h, hlt => by
    obtain ⟨v, vs, d, ds, p, q, rfl, rfl, rfl, h1, h2⟩ := trodAll_cons h
    refine trodAll_cons_mk (Below.trod hl (ht t (by simp)).1 (ht t (by simp)).2 h1 hb fun x hx => hlt x (by simp [hx])) ?_
    exact trodAll_below hl hb (fun t h => ht t (by simp [h])) h2 fun x hx => hlt x (by simp [hx])

/-- An aggregate all of whose cells are whole numbers: its numbers. -/
theorem ints_of_row {P : Program} {w : World} {r : Reach} {b : Nat} {t ti : TypeId} {n : Nat} {cs : Array Value} (hts : P.cellTypes P.depth t = some (List.replicate n ti)) (hti : P.underlying ti = some (.int .i64)) (hn : cs.size = n) (h : Row.okWide P w r b t cs) :
    ∃ ns : List Int, ns.length = n ∧ cs = (ns.map (Value.int .i64)).toArray := by
  obtain ⟨ts, h1, _, h3⟩ := h
  rw [hts] at h1
  cases h1
  have hv : ∀ (i : Nat) (v : Value), cs[i]? = some v → ∃ m, v = .int .i64 m := fun i v hi => by
    obtain ⟨u, hu, hc⟩ := h3 i v hi
    have : u = ti := (List.mem_replicate.1 (List.mem_of_getElem? hu)).2
    subst this
    simp only [Cell.okWide, hti] at hc
    cases v <;> simp_all [Cell.ok]
  refine ⟨cs.toList.map intOf, by simp [hn], ?_⟩
  apply Array.ext
  · simp
  · intro i h1 h2
    obtain ⟨m, hm⟩ := hv i cs[i] (by simp [h1])
    simp [hm, intOf]

theorem open_nums_struct {P : Program} {w : World} {r : Reach} {b : Nat} {t ti : TypeId} {n : Nat} {v : Value} {fs : Array Field} (ht : P.underlying t = some (.struct fs)) (hC : P.cellsOf t = n) (hts : P.cellTypes P.depth t = some (List.replicate n ti)) (hti : P.underlying ti = some (.int .i64))
    (h : Value.okWide P w r b t v) : ∃ ns : List Int, ns.length = n ∧ v = .agg (ns.map (Value.int .i64)).toArray := by
  simp only [Value.okWide, ht] at h
  obtain ⟨cs, rfl, h2, h3⟩ := h
  obtain ⟨ns, hl, rfl⟩ := ints_of_row hts hti (h2.trans hC) h3
  exact ⟨ns, hl, rfl⟩
theorem open_nums_array {P : Program} {w : World} {r : Reach} {b : Nat} {t ti te : TypeId} {n m : Nat} {v : Value} (ht : P.underlying t = some (.array m te)) (hC : P.cellsOf t = n) (hts : P.cellTypes P.depth t = some (List.replicate n ti)) (hti : P.underlying ti = some (.int .i64))
    (h : Value.okWide P w r b t v) : ∃ ns : List Int, ns.length = n ∧ v = .agg (ns.map (Value.int .i64)).toArray := by
  simp only [Value.okWide, ht] at h
  obtain ⟨cs, rfl, h2, h3⟩ := h
  obtain ⟨ns, hl, rfl⟩ := ints_of_row hts hti (h2.trans hC) h3
  exact ⟨ns, hl, rfl⟩

set_option maxRecDepth 100000 in
theorem open_spec {w : World} {r : Reach} {b : Nat} {v : Value} (h : Value.okWide Tryd.prog w r b 23 v) : ∃ k sz st g sh : Int, v = .agg #[.int .i64 k, .int .i64 sz, .int .i64 st, .int .i64 g, .int .i64 sh] := by
  obtain ⟨ns, hl, rfl⟩ := open_nums_struct (n := 5) (ti := 3) Tryd.underlying23 (by kernel_rfl) (by kernel_rfl) Tryd.underlying3 h
  match ns, hl with
  | [k, sz, st, g, sh], _ => exact ⟨k, sz, st, g, sh, rfl⟩
end Go.Proofs.YtakekegghpgeaaaDoor
