/-
  maps.Values at the map that gathered makes of items, as an iterator: its elements, each once, in whatever order.
-/
import Derived.Test.YthoimepdioeckaaGreatDoorTaken
import Derived.Test.YthoimepdioeckaaGreatDoorCollI
import Derived.Sort.KeysCollected
namespace Go.Proofs.YthoimepdioeckaaGreatDoor
open Go.RowKit Go.Shelf Go.Sort
attribute [local go_sem] Oper.semAt_some

abbrev rowI (r : ItR) : List Val := r.1.2.1
abbrev vI (r : ItR) : Value := .agg #[rowv r.1, .int .i64 r.2]
theorem mapTI : Tryz.prog.underlying 164 = some (.map 9 60) := by kernel_rfl

set_option maxRecDepth 100000 in
set_option maxHeartbeats 2000000 in
theorem valuesI1_in (n : Nat) (hn : 1 ≤ n) (l Bm b nn : Nat) (acc : List ItR) (D0 : DataW Value) (hG : GatOf rowI vI acc D0) (J Jx : List ItR → World → Prop) (W : World) (hJ : AbidesFrom W.heap.size J)
    (hm : W.cell? ⟨Bm, 0, none⟩ = some (.map (some b))) (hown : W.ownsMap Tryz.prog 9 heldR b nn D0)
    (hY : ∀ pre x W1, J pre W1 → pre.length < acc.length → YieldAt Fence.wide (n - 1) Tryz.prog l (encI x) W1 fun e W' =>
      (e = .returned (.bool true) ∧ J (pre ++ [x]) W' ∧ KeepsWalks W1 W') ∨ (e = .returned (.bool false) ∧ Jx (pre ++ [x]) W')) (h0 : J [] W) :
    CallsIn Fence.wide n Tryz.prog 182 #[.func (.yield l) #[] #[], .pointer (some ⟨Bm, 0, none⟩)] W fun e W' => (∃ v, e = .returned v) ∧
      ((∃ ys, ys.Perm acc ∧ J ys W') ∨ (∃ pre, True ∧ Jx pre W')) := by
  have HY := Lib.hid hY
  have HG := Lib.hid hG
  clear hY hG
  refine callsIn_of_wp Tryz.func182 rfl trivial ?_ rfl
  simp only [Tryz.ntmps182, List.size_toArray, List.length_cons, List.length_nil, Nat.reduceAdd, Nat.reduceSub, Array.replicate_succ, Array.replicate_zero, List.push_toArray, List.append_toArray, List.nil_append, List.cons_append]
  gi_wp2_with (first
    | (gi_at_range; refine wpListIn_range_own _ rfl _ 164 rfl 9 60 (Maps.string_keyed Tryz.underlying9) mapTI _ b nn _ rfl hown ?_; intro w0 hrg0 hg0 hs0)
    | gi_in)
  go_frame
  gi_loopw [4] (fun _ wr => ∃ (left : Lit → Bool) (cnt : Nat) (ps : List ItR), wr.ranges Tryz.prog 9 heldR b W.heap.size nn D0 left cnt ∧ Hid (ps.length + cnt ≤ acc.length) ∧ Hid (Taken rowI acc left ps) ∧ J ps wr)
    (fun _ wr => wr.rangeLeft b W.heap.size)
  case atStart =>
    exact ⟨_, _, [], hrg0, (by show [].length + _ ≤ _; rw [HG.out.size]; simp), Taken.start HG.out, hJ [] W w0 none h0 hg0 (fun r e => by cases e)⟩
  case round =>
    obtain ⟨left, cnt, ps, hrg, hcs, hC, hJs⟩ := hrel
    gi_wp2_with (first
      | (gi_at_next; (refine wpListIn_next_ranges _ rfl _ rfl 9 (Maps.string_keyed Tryz.underlying9) heldR encStr (id : Value → Value) (fun key kl hk => by obtain ⟨x, hx, _⟩ := Maps.keyOf_str Tryz.underlying9 hk; exact ⟨x, hx⟩) (fun v y hv => ⟨v, rfl⟩) b W.heap.size nn _ _ _ rfl hrg ?_ ?_))
      | gi_in)
    · intro hc0 hl0
      gi_wp2
      go_end0
      exact ⟨⟨_, rfl⟩, .inl ⟨ps, hC.out.end_ HG.out.diff hl0, hJs⟩⟩
    · intro x c kl yd yp w2 cnt2 hkey hlk hv hat hrg2 hlt hg2 hs2 hen
      obtain ⟨x', ex, rfl, _⟩ := Maps.keyOf_str Tryz.underlying9 hkey
      obtain rfl : x = x' := encStr_inj ex
      obtain ⟨rfl, rfl⟩ : yd = .held c ∧ yp = [] := by have := heldR_inv hv; simpa using this
      obtain ⟨e, he, hte⟩ := (HG.out.has x).1 (Maps.has_true_of_atKey hat)
      subst hte
      have hce : c = vI e := by
        have h1 := HG.out.at_ e he .nil
        rw [hat .nil] at h1
        simpa using h1
      subst hce
      have hC2 := Lib.hid (hC.out.step HG.out he hlk)
      have hJ2 : J ps w2 := hJ ps wr w2 (some W.heap.size) hJs hg2 (fun r e => by cases e; exact ⟨Nat.le_refl _, hrg.iter_walk⟩)
      have hlt2 : ps.length < acc.length := by have := hcs.out; omega
      have hcs2 : Hid ((ps ++ [e]).length + cnt2 ≤ acc.length) := by have := hcs.out; show _ ≤ _; simp; omega
      have hy1 := HY.out ps e (w2.alloc (.cells #[.slice e.1.1 e.1.2.1.length e.1.2.2, .int .i64 e.2] 60)) (hJ _ _ _ none hJ2 (World.grownBy_alloc _ _ none) (fun r e => by cases e)) hlt2
      obtain ⟨⟨eq, es, ec⟩, en⟩ := e
      dsimp only [vI, rowv, id] at hen hy1 ⊢
      obtain ⟨fn, tmps, assign, body, hy, hR⟩ := hy1
      dsimp only [encI, rowv] at hy
      clear hs2 hkey hlk hv hat
      gi_wp2_with fail
      refine hR.mono ?_
      rintro e' W3 (⟨rfl, hJ3, hk3⟩ | ⟨rfl, hJx3⟩)
      · have hrg3 := (hrg2.alloc (.cells #[.slice eq es.length ec, .int .i64 en] 60)).of_walks hk3
        gi_wp2_with fail
        go_roundw
        case rel => exact ⟨_, cnt2, ps ++ [((eq, es, ec), en)], hrg3, hcs2, hC2.out, hJ3⟩
        case measure => rw [hrg3.left_eq, hrg.left_eq]; omega
      · gi_wp2_with fail
        refine bodyPost_ret (results_none rfl _ _ _) rfl ?_
        exact ⟨⟨_, rfl⟩, .inr ⟨_, trivial, hJx3⟩⟩
#print axioms valuesI1_in
end Go.Proofs.YthoimepdioeckaaGreatDoor
