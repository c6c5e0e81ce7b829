/-
  clock's sessionsOf, as an iterator: the window of each time, in their order.
-/
import Derived.Test.YthbpdalkifocaaaMergeZ
namespace Go.Proofs.Ythbpdalkifocaaa
open Go.RowKit Go.Shelf
attribute [local go_sem] Oper.semAt_some

/-- The slice reads as these numbers, in this world. -/
def TimesAt (W : World) (b off : Nat) (ts : List Int) : Prop := ∀ i, i < ts.length → W.cell? ⟨b, off + i, none⟩ = some (.int .i64 (ts[i]?.getD 0))
theorem TimesAt.belowV {n₀ bk off : Nat} {W W' : World} {ts : List Int} (h : TimesAt W bk off ts) (hb : Below n₀ W W') (hbk : bk < n₀) : TimesAt W' bk off ts := fun i hi =>
  (hb.cell (p := ⟨bk, off + i, none⟩) hbk).trans (h i hi)
def inTime (t : Int) : Prop := -1000000000000 ≤ t ∧ t ≤ 1000000000000
def sessW (g : Int) (ts : List Int) : List Win := ts.map fun t => (t, t + g)
theorem sessW_len (g : Int) (ts : List Int) : (sessW g ts).length = ts.length := by simp [sessW]
theorem sessW_snoc {g : Int} {ts : List Int} {i : Nat} (hi : i < ts.length) : sessW g (ts.take i) ++ [(ts[i]?.getD 0, ts[i]?.getD 0 + g)] = sessW g (ts.take (i + 1)) := by
  rw [List.take_succ_eq_append_getElem hi]; unfold sessW; rw [List.map_append]; simp [hi]

set_option maxRecDepth 100000 in
set_option maxHeartbeats 2000000 in
theorem times1_in (n : Nat) (hn : 1 ≤ n) (l Bt Bg bk off cap n₀ : Nat) (g : Int) (hg : 1 ≤ g) (hg' : g ≤ 1000000000) (ts : List Int) (hm : ts.length ≤ 10000) (hok : ∀ t ∈ ts, inTime t) (J Jx : List (Int × Int) → World → Prop) (W : World)
    (hJ : AbidesFrom W.heap.size J) (hn₀ : n₀ ≤ W.heap.size) (hBg : Bg < n₀) (hbk : bk < n₀)
    (hS : W.cell? ⟨Bt, 0, none⟩ = some (.slice (some ⟨bk, off, none⟩) ts.length cap)) (hG : W.cell? ⟨Bg, 0, none⟩ = some (.int .i64 g)) (hX : TimesAt W bk off ts)
    (hY : ∀ pre x W1, J pre W1 → pre.length < ts.length → YieldAt Fence.wide (n - 1) Try.prog l (encW x) W1 fun e W' =>
      (e = .returned (.bool true) ∧ J (pre ++ [x]) W' ∧ Below n₀ W1 W') ∨ (e = .returned (.bool false) ∧ Jx (pre ++ [x]) W')) (h0 : J [] W) :
    CallsIn Fence.wide n Try.prog 44 #[.func (.yield l) #[] #[], .pointer (some ⟨Bt, 0, none⟩), .pointer (some ⟨Bg, 0, none⟩)] W fun e W' => (∃ v, e = .returned v) ∧
      ((∃ ys, ys = sessW g ts ∧ J ys W') ∨ (∃ pre, pre <+: sessW g ts ∧ Jx pre W')) := by
  have HY := Lib.hid hY
  have HX := Lib.hid hX
  have HOK := Lib.hid hok
  have hcs : ∀ (t : Int) (W1 : World), inTime t → CallsIn Fence.wide (n - 1) Try.prog 32 #[.int .i64 g, .int .i64 t] W1 fun e w' => e = .returned (.agg #[.int .i64 t, .int .i64 (t + g)]) ∧ Below W1.heap.size W1 w' := fun t W1 ht => callsIn_wide.2 (sessionOf_any g t hg hg' ht.1 ht.2 W1)
  have HCS := Lib.hid hcs
  clear hY hX hok hcs
  refine callsIn_of_wp Try.func44 rfl trivial ?_ rfl
  simp only [Try.ntmps44, List.size_toArray, List.length_cons, List.length_nil, Nat.reduceAdd, Nat.reduceSub, Array.replicate_succ, Array.replicate_zero, List.push_toArray, List.append_toArray, List.nil_append, List.cons_append]
  gi_wp2_with fail
  gi_loopw [8] (fun a wr => ∃ (i : Nat), a = .int .i64 i ∧ i ≤ ts.length ∧ J (sessW g (ts.take i)) wr ∧ Below n₀ W wr)
    (fun a _ => (ts.length - (intOf a).toNat))
  case atStart =>
    exact ⟨0, rfl, Nat.zero_le _, h0, Below.refl _ _⟩
  case round =>
    obtain ⟨i, rfl, hi, hJi, hBi⟩ := hrel
    by_cases hlt : i < ts.length
    · have cx := HX.out.belowV hBi hbk i hlt
      have cg : wr.cell? ⟨Bg, 0, none⟩ = some (.int .i64 g) := (hBi.cell (p := ⟨Bg, 0, none⟩) hBg).trans hG
      have hlt' : (i : Int) < (ts.length : Int) := by omega
      have hi0 : (0 : Int) ≤ (i : Int) := by omega
      have hsz : n₀ ≤ wr.heap.size := Nat.le_trans hn₀ hBi.size
      have hti : inTime (ts[i]?.getD 0) := HOK.out _ (by simp [List.getElem?_eq_getElem hlt])
      have hsn := sessW_snoc (g := g) hlt
      have hln : (sessW g (ts.take i)).length < ts.length := by rw [sessW_len]; simp; omega
      generalize ts[i]?.getD 0 = t at hti hsn cx
      have hcs1 := Lib.hid fun W1 => HCS.out t W1 hti
      have HSN := Lib.hid hsn
      have HLN := Lib.hid hln
      clear hsn hln
      gi_wp2_with (refine ⟨trivial, ?_⟩; gi_at_call 32; refine (hcs1.out _).mono ?_; rintro e W2 ⟨rfl, hb2⟩; have hJ2 : J (sessW g (ts.take i)) W2 := hJ _ _ _ none hJi (grown_of_below hb2) (fun r e => by cases e); have hy1 := HY.out _ (t, t + g) W2 hJ2 HLN.out; rw [HSN.out] at hy1; obtain ⟨fn, tmps, assign, body, hy, hR⟩ := hy1; dsimp only [encW] at hy)
      refine hR.mono ?_
      rintro e W3 (⟨rfl, hJ3, hk3⟩ | ⟨rfl, hJx3⟩)
      · have hB3 := (hBi.trans (hb2.mono hsz)).trans hk3
        gi_wp2_with fail
        go_roundw
        case rel => exact ⟨i + 1, by go_num, by omega, hJ3, hB3⟩
        case measure => simp [intOf]; omega
      · gi_wp2_with fail
        refine bodyPost_ret (results_none rfl _ _ _) rfl ?_
        refine ⟨⟨_, rfl⟩, .inr ⟨sessW g (ts.take (i + 1)), ?_, hJx3⟩⟩
        exact (List.take_prefix _ _).map _
    · have hi' : i = ts.length := by omega
      have hge : ts.length ≤ i := by omega
      have hge' : (ts.length : Int) ≤ (i : Int) := by omega
      gi_wp2_with fail
      go_end0
      exact ⟨⟨_, rfl⟩, .inl ⟨sessW g (ts.take i), by rw [hi', List.take_length], hJi⟩⟩
theorem times_stops (n : Nat) (hn : 1 ≤ n) (Bt Bg bk off cap n₀ : Nat) (g : Int) (hg : 1 ≤ g) (hg' : g ≤ 1000000000) (ts : List Int) (hm : ts.length ≤ 10000) (hok : ∀ t ∈ ts, inTime t) (w : World) (hn₀ : n₀ ≤ w.heap.size) (hBt : Bt < n₀) (hBg : Bg < n₀) (hbk : bk < n₀)
    (hS : w.cell? ⟨Bt, 0, none⟩ = some (.slice (some ⟨bk, off, none⟩) ts.length cap)) (hG : w.cell? ⟨Bg, 0, none⟩ = some (.int .i64 g)) (hX : TimesAt w bk off ts) :
    SeqStopsK Fence.wide n Try.prog 44 #[.pointer (some ⟨Bt, 0, none⟩), .pointer (some ⟨Bg, 0, none⟩)] encW (Below n₀) (fun ys => ys = sessW g ts) (fun pre => pre <+: sessW g ts) ts.length w := fun l J Jx W hW hJ _ hY h0 =>
  times1_in n hn l Bt Bg bk off cap n₀ g hg hg' ts hm hok J Jx W hJ (Nat.le_trans hn₀ hW.size) hBg hbk ((hW.cell (p := ⟨Bt, 0, none⟩) (Nat.lt_of_lt_of_le hBt hn₀)).trans hS) ((hW.cell (p := ⟨Bg, 0, none⟩) (Nat.lt_of_lt_of_le hBg hn₀)).trans hG) (hX.belowV hW (Nat.lt_of_lt_of_le hbk hn₀)) hY h0

theorem sessionsOf_any (g : Int) (p : Option Addr) (m cap : Nat) (w : World) :
    Calls Try.prog 25 #[.int .i64 g, .slice p m cap] w fun e w' => e = .returned (.func (.func 44) #[] #[.pointer (some ⟨w.heap.size + 1, 0, none⟩), .pointer (some ⟨w.heap.size, 0, none⟩)]) ∧ w' = (w.alloc (.cells #[.int .i64 g] 3)).alloc (.cells #[.slice p m cap] 23) := by
  go_enter Try.func25, Try.ntmps25
  go_wp2
  go_ret
  exact ⟨rfl, rfl⟩

/-- The windows of times are sound. -/
theorem sessW_ok {g : Int} {ts : List Int} (hg : 1 ≤ g) (hg' : g ≤ 1000000000) (hok : ∀ t ∈ ts, inTime t) : ∀ x ∈ sessW g ts, okW x := fun x hx => by
  simp only [sessW, List.mem_map] at hx
  obtain ⟨t, ht, rfl⟩ := hx
  have := hok t ht
  unfold inTime at this
  exact ⟨by simp; omega, by simp; omega, by simp; omega⟩
#print axioms times_stops
#print axioms sessionsOf_any
end Go.Proofs.Ythbpdalkifocaaa
