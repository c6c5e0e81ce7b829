/-
  slices.SortedFunc at windows, under Compare.
-/
import Derived.Test.YthbpdalkifocaaaSort
import Derived.Test.YthbpdalkifocaaaCollect
namespace Go.Proofs.Ythbpdalkifocaaa
open Go.RowKit Go.Lib Go.Sort

theorem sortedFunc_in (n : Nat) (hn : 2 ≤ n) (gf : Nat) (lb : Array Value) (eg : ∀ args w, (callFunc gf args).run Try.prog w = .ok (.enter gf args) w) (n₀ : Nat) (S Sp : List (Int × Int) → Prop) (N : Nat)
    (hN : N ≤ maxLen) (hNb : N * 16 ≤ 140737488355328) (hSN : ∀ xs, S xs → xs.length < 4611686018427387904) (w : World) (hn₀ : n₀ ≤ w.heap.size) (hseq : SeqStopsK Fence.wide (n - 1 - 1) Try.prog gf lb encW (Below n₀) S Sp N w) :
    Calls Try.prog 36 #[.func (.func gf) #[] lb, .func (.func 37) #[] #[]] w fun e w' =>
      ∃ v xs zs, e = .returned v ∧ S xs ∧ zs.Perm xs ∧ Asc zs ∧ zs.length = xs.length ∧ w'.ownsRow w.heap.size 31 2 v xs.length (flatW zs) ∧ Below w.heap.size w w' := by
  have hc := Lib.hid (collect_in n hn gf lb eg n₀ S Sp N hN hNb w hn₀ hseq)
  have hs := Lib.hid sort_owned
  have hSN' := Lib.hid hSN
  clear hseq hSN
  go_enter Try.func36, Try.ntmps36
  go_wp2_with (first | (go_at_call 33; refine hc.out.mono ?_; rintro e w1 ⟨v, xs, rfl, hS, hrow, hb⟩) | (go_at_call 49; refine (hs.out xs w.heap.size _ _ (hSN'.out xs hS) hrow).mono ?_; rintro e w2 ⟨rfl, zs, hp, ha, hl, hrow2, hg⟩))
  go_ret
  exact ⟨_, xs, zs, rfl, hS, hp, ha, hl, hrow2, hb.grown hg hb.size (fun k hk => (hrow.lt k hk).1)⟩
#print axioms sortedFunc_in
end Go.Proofs.Ythbpdalkifocaaa
