/-
  What the library's variables hold; Atoi at any word, as a contract; what filling numbers from words comes to.
-/
import Derived.Test.YtakekegghpgeaaaDoorFr
import Derived.Lib.AtoiBound
namespace Go.Proofs.YtakekegghpgeaaaDoor
open Go.RowKit Go.Lib
set_option linter.unusedSimpArgs false

/-- What the library's variables hold, as long as no old block turns. -/
structure Env (B : Nat) (w : World) : Prop where
  tab : Tab B w
  max : ∀ w', Below B w w' → ∃ k, w'.cell? ⟨1, 0, none⟩ = some (.int .i64 k)
  err : ∀ w', Below B w w' → ∃ te pe, w'.cell? ⟨2, 0, none⟩ = some (.iface te pe)
  rng : ∀ w', Below B w w' → ∃ te pe, w'.cell? ⟨3, 0, none⟩ = some (.iface te pe)
theorem Env.on {B : Nat} {w w1 : World} (h : Env B w) (k : Below B w w1) : Env B w1 := ⟨h.tab.on k, fun w' hb => h.max w' (k.trans hb), fun w' hb => h.err w' (k.trans hb), fun w' hb => h.rng w' (k.trans hb)⟩
theorem Env.up {B : Nat} {w : World} (h : Env B w) (hB : B ≤ w.heap.size) : Env w.heap.size w := ⟨fun w' hb => h.tab w' (hb.mono hB), fun w' hb => h.max w' (hb.mono hB), fun w' hb => h.err w' (hb.mono hB), fun w' hb => h.rng w' (hb.mono hB)⟩
theorem below_bytes (w : World) (e : TypeId) (s : ByteArray) : Below w.heap.size w (Lib.bytesWorld w e s) := by
  have h1 : Below w.heap.size w (w.drew.alloc (.cells (Lib.bytesCells w e s) e)) := ((Below.refl w.heap.size w).drew).alloc (Nat.le_refl _) _
  unfold Lib.bytesWorld
  exact ⟨h1.os, h1.tape, h1.output, Nat.le_trans h1.size (by simp [World.freeze]), fun i hi => by
    have := h1.block i hi
    rw [← this]
    have hne : i ≠ w.heap.size := by omega
    simp [World.freeze, Array.getElem?_modify, Ne.symm hne]⟩
def wordNum (x : List UInt8) : Option Int := match Lib.atoiAll x with
  | .ok v => some v
  | _ => none
def AtoiPost (x : List UInt8) (w : World) (e : Ending) (w' : World) : Prop := ∃ v r, e = .returned (.tuple #[.int .i64 v, r]) ∧ ((wordNum x = some v ∧ r = .nilIface) ∨ (wordNum x = none ∧ ∃ t q, r = .iface t q)) ∧ Below w.heap.size w w'
theorem atoi_any (s : ByteArray) (hs : s.size ≤ 1000000) (B : Nat) (w : World) (hE : Env B w) : Calls Tryd.prog 34 #[.string s] w (AtoiPost s.data.toList w) := by
  unfold AtoiPost wordNum
  cases h : Lib.atoiAll s.data.toList with
  | ok v =>
    refine (Tryd.strconv_Atoi_ok s (by omega) v h w).mono ?_
    rintro e w' ⟨he, hw | ⟨t, hw⟩⟩
    · exact ⟨v, _, he, .inl ⟨rfl, rfl⟩, hw ▸ Below.refl _ _⟩
    · exact ⟨v, _, he, .inl ⟨rfl, rfl⟩, hw ▸ below_bytes _ _ _⟩
  | «syntax» =>
    obtain ⟨te, pe, hv⟩ := hE.err w (Below.refl _ _)
    refine (Tryd.strconv_Atoi_syntax s (by omega) h (.iface te pe) w hv (.inr ⟨te, pe, rfl⟩)).mono ?_
    rintro e w' ⟨N, he, _, _, hb⟩
    exact ⟨0, _, he, .inr ⟨rfl, _, _, rfl⟩, hb⟩
  | range =>
    obtain ⟨te, pe, hv⟩ := hE.rng w (Below.refl _ _)
    refine (Tryd.strconv_Atoi_range s (by omega) h (.iface te pe) w hv (.inr ⟨te, pe, rfl⟩)).mono ?_
    rintro e w' ⟨N, he, _, _, hb⟩
    exact ⟨_, _, he, .inr ⟨rfl, _, _, rfl⟩, hb⟩
/-- Numbers are set, word by word, until one is none. -/
def fillGo : List (Nat × List UInt8) → List Int → List Int × Bool
  | [], cs => (cs, true)
  | (o, x) :: r, cs => match wordNum x with
    | some v => fillGo r (cs.set o v)
    | none => (cs, false)
theorem fillGo_len : ∀ (l : List (Nat × List UInt8)) (cs : List Int), (fillGo l cs).1.length = cs.length
  | [], cs => rfl
  | (o, x) :: r, cs => by
    unfold fillGo
    cases wordNum x with
    | none => rfl
    | some v => rw [fillGo_len r]; simp
/-- A spec's cells, as a list. -/
def SpL (w : World) (S : Nat) (cs : List Int) : Prop := w.heap[S]? = some (.cells (cs.map (Value.int .i64)).toArray 23 (0, 0))
theorem SpL.cell {w : World} {S : Nat} {cs : List Int} (h : SpL w S cs) {j : Nat} (hj : j < cs.length) : w.cell? ⟨S, j, none⟩ = some (.int .i64 (cs[j]?.getD 0)) := by
  unfold SpL at h
  simp [World.cell?, h, hj]
theorem SpL.froz {w : World} {S : Nat} {cs : List Int} (h : SpL w S cs) (j : Nat) : w.frozen? ⟨S, j, none⟩ = false := by
  unfold SpL at h
  simp [World.frozen?, h]
theorem SpL.lt {w : World} {S : Nat} {cs : List Int} (h : SpL w S cs) : S < w.heap.size := (Array.getElem?_eq_some_iff.1 h).1
theorem SpL.belowV {n : Nat} {w w' : World} {S : Nat} {cs : List Int} (h : SpL w S cs) (hb : Below n w w') (hn : S < n) : SpL w' S cs := (hb.block S hn).trans h
theorem SpL.setG {w : World} {S : Nat} {cs : List Int} (h : SpL w S cs) (j : Nat) (v : Int) : SpL (w.setCell ⟨S, j, none⟩ (.int .i64 v)) S (cs.set j v) := by
  have hb : w.heap[S]? = _ := h
  unfold SpL World.setCell
  simp [Array.getElem?_modify, hb, List.map_set]
abbrev Grew (w : World) (B : Nat) (w' : World) : Prop := w.grownBy w' (some B)
theorem grew_refl (w : World) (B : Nat) : Grew w B w := ⟨rfl, rfl, rfl, Nat.le_refl _, fun _ _ _ => rfl⟩
theorem Grew.set {w w1 : World} {B : Nat} (h : Grew w B w1) (j : Nat) (u : Value) : Grew w B (w1.setCell ⟨B, j, none⟩ u) :=
  ⟨h.os, h.tape, h.output, Nat.le_trans h.size (by simp [World.setCell]), fun k hk hne => (Below.heap_setCell w1 ⟨B, j, none⟩ u k (by rintro rfl; exact hne rfl)).trans (h.block k hk hne)⟩
theorem Grew.belowG {w w1 w2 : World} {B : Nat} (h : Grew w B w1) (k : Below w1.heap.size w1 w2) : Grew w B w2 :=
  ⟨k.os.trans h.os, k.tape.trans h.tape, k.output.trans h.output, Nat.le_trans h.size k.size, fun i hi hne => (k.block i (Nat.lt_of_lt_of_le hi h.size)).trans (h.block i hi hne)⟩
theorem Grew.toBelow {w w1 : World} {B n₀ : Nat} (h : Grew w B w1) (hB : n₀ ≤ B) (hn : n₀ ≤ w.heap.size) : Below n₀ w w1 := (Below.refl _ _).grown h hn (fun k e => by simp at e; omega)
end Go.Proofs.YtakekegghpgeaaaDoor
