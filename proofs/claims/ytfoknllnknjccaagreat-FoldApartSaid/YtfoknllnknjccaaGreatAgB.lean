/-
  Aggregates of every kind: begun, what they hold, what they take and tell.
-/
import Derived.Test.YtfoknllnknjccaaGreatAgS
import Derived.Test.YtfoknllnknjccaaGreatAgX
import Derived.Test.YtfoknllnknjccaaGreatAgD
namespace Go.Proofs.YtfoknllnknjccaaGreat
open Go.RowKit Go.Lib

def dT (k : Int) : TypeId := if k = 2 then 123 else if k = 3 then 128 else if k = 4 then 131 else if k = 5 then 131 else if k = 6 then 134 else if k = 7 then 138 else 139
def dV (k : Int) (B : Nat) : Value := if k = 7 then .map (some B) else .pointer (some ⟨B, 0, none⟩)
def fTake (k : Int) : FuncId := if k = 2 then 131 else if k = 3 then 136 else if k = 4 then 138 else if k = 5 then 138 else if k = 6 then 136 else if k = 7 then 142 else 134
def fTell (k : Int) : FuncId := if k = 2 then 132 else if k = 3 then 137 else if k = 4 then 139 else if k = 5 then 139 else if k = 6 then 140 else if k = 7 then 143 else 132
/-- The aggregator of a kind, which lies in one block, has taken these. -/
def HoldsA (W : World) (B : Nat) (k : Int) (l : List Tk) : Prop :=
  if k = 2 then Blk W B 127 #[.int .i64 (l.foldl valStep 0)]
  else if k = 3 then Blk W B 130 (cellsS (l.foldl smStep (0, 0, 0)))
  else if k = 4 then Blk W B 133 (cellsX (l.foldl (extStep (-1)) v0) (-1))
  else if k = 5 then Blk W B 133 (cellsX (l.foldl (extStep 1) v0) 1)
  else if k = 6 then Blk W B 136 (cellsS (l.foldl smStep (0, 0, 0)))
  else if k = 7 then DisAt W B l.length (l.foldl seenStep [])
  else Blk W B 125 #[.int .i64 (l.foldl cntStep 0)]
/-- One of seven kinds. -/
inductive Kd : Int → Prop
  | k2 : Kd 2
  | k3 : Kd 3
  | k4 : Kd 4
  | k5 : Kd 5
  | k6 : Kd 6
  | k7 : Kd 7
  | o {k : Int} (h2 : k ≠ 2) (h3 : k ≠ 3) (h4 : k ≠ 4) (h5 : k ≠ 5) (h6 : k ≠ 6) (h7 : k ≠ 7) : Kd k
theorem kd (k : Int) : Kd k := by
  by_cases h2 : k = 2
  · subst h2; exact .k2
  by_cases h3 : k = 3
  · subst h3; exact .k3
  by_cases h4 : k = 4
  · subst h4; exact .k4
  by_cases h5 : k = 5
  · subst h5; exact .k5
  by_cases h6 : k = 6
  · subst h6; exact .k6
  by_cases h7 : k = 7
  · subst h7; exact .k7
  exact .o h2 h3 h4 h5 h6 h7
theorem HoldsA.lt {W : World} {B : Nat} {k : Int} {l : List Tk} (h : HoldsA W B k l) : B < W.heap.size := by
  unfold HoldsA at h
  cases kd k with
  | k2 => exact Blk.lt h
  | k3 => exact Blk.lt h
  | k4 => exact Blk.lt h
  | k5 => exact Blk.lt h
  | k6 => exact Blk.lt h
  | k7 => obtain ⟨D, h, _⟩ := h; exact h.lt
  | o h2 h3 h4 h5 h6 h7 => rw [if_neg h2, if_neg h3, if_neg h4, if_neg h5, if_neg h6, if_neg h7] at h; exact Blk.lt h
theorem HoldsA.kept {W W' : World} {row : Option Nat} {B : Nat} {k : Int} {l : List Tk} (h : HoldsA W B k l) (hg : W.grownBy W' row) (hne : some B ≠ row) : HoldsA W' B k l := by
  unfold HoldsA at h ⊢
  cases kd k with
  | k2 => exact Blk.keepG h hg hne
  | k3 => exact Blk.keepG h hg hne
  | k4 => exact Blk.keepG h hg hne
  | k5 => exact Blk.keepG h hg hne
  | k6 => exact Blk.keepG h hg hne
  | k7 => obtain ⟨D, h, hd⟩ := h; exact ⟨D, h.kept hg hne, hd⟩
  | o h2 h3 h4 h5 h6 h7 =>
    rw [if_neg h2, if_neg h3, if_neg h4, if_neg h5, if_neg h6, if_neg h7] at h ⊢
    exact Blk.keepG h hg hne
theorem HoldsA.belowV {W W' : World} {B : Nat} {k : Int} {l : List Tk} (h : HoldsA W B k l) (hb : Below W.heap.size W W') : HoldsA W' B k l :=
  h.kept (row := none) ⟨hb.os, hb.tape, hb.output, hb.size, fun i hi _ => hb.block i hi⟩ (by simp)
def TakePost (w : World) (B : Nat) (k : Int) (l : List Tk) (e : Ending) (w' : World) : Prop := e = .returned (.tuple #[]) ∧ Grew w B w' ∧ HoldsA w' B k l
theorem takePost_of {w : World} {B : Nat} {t : TypeId} {cs : Array Value} {k : Int} {l : List Tk} (h : ∀ W, Blk W B t cs → HoldsA W B k l) {e : Ending} {w' : World} (hp : PutPost w B t cs e w') : TakePost w B k l e w' := ⟨hp.1, hp.2.1, h _ hp.2.2⟩
theorem fold_snoc {α β : Type} (f : α → β → α) (a : α) (l : List β) (x : β) : (l ++ [x]).foldl f a = f (l.foldl f a) x := by simp

theorem take_any (B : Nat) (k : Int) (l : List Tk) (x : Val) (n : Int) (w : World) (hK : HoldsA w B k l) (hx : validV x.1 x.2.1 x.2.2 = true) (hl : l.length < maxLen) :
    Calls Tryz.prog (fTake k) #[dV k B, valA x, .int .i64 n] w (TakePost w B k (l ++ [(x, n)])) := by
  cases kd k with
  | k2 => exact (valuesTake_any B _ _ x n w hK).mono fun e w' h => takePost_of (fun W hb => by show Blk _ _ _ #[.int .i64 ((l ++ [(x, n)]).foldl valStep 0)]; rw [fold_snoc]; exact hb) h
  | k3 => exact (sumTake_any B _ _ x n w hK).mono fun e w' h => takePost_of (fun W hb => by show Blk _ _ _ (cellsS ((l ++ [(x, n)]).foldl smStep (0, 0, 0))); rw [fold_snoc]; exact hb) h
  | k4 => exact (extTake_any B _ _ _ x n w hK).mono fun e w' h => takePost_of (fun W hb => by show Blk _ _ _ (cellsX ((l ++ [(x, n)]).foldl (extStep (-1)) v0) (-1)); rw [fold_snoc]; exact hb) h
  | k5 => exact (extTake_any B _ _ _ x n w hK).mono fun e w' h => takePost_of (fun W hb => by show Blk _ _ _ (cellsX ((l ++ [(x, n)]).foldl (extStep 1) v0) 1); rw [fold_snoc]; exact hb) h
  | k6 => exact (sumTake_any B _ _ x n w hK).mono fun e w' h => takePost_of (fun W hb => by show Blk _ _ _ (cellsS ((l ++ [(x, n)]).foldl smStep (0, 0, 0))); rw [fold_snoc]; exact hb) h
  | k7 => exact (disTake_any B _ _ x n w hK hx hl).mono fun e w' h => ⟨h.1, h.2.1, by show DisAt _ _ (l ++ [(x, n)]).length ((l ++ [(x, n)]).foldl seenStep []); rw [fold_snoc, List.length_append]; exact h.2.2⟩
  | o h2 h3 h4 h5 h6 h7 =>
    have e1 : ∀ W m, HoldsA W B k m = Blk W B 125 #[.int .i64 (m.foldl cntStep 0)] := fun W m => by unfold HoldsA; rw [if_neg h2, if_neg h3, if_neg h4, if_neg h5, if_neg h6, if_neg h7]
    have e2 : fTake k = 134 := by unfold fTake; rw [if_neg h2, if_neg h3, if_neg h4, if_neg h5, if_neg h6, if_neg h7]
    have e3 : dV k B = .pointer (some ⟨B, 0, none⟩) := by unfold dV; rw [if_neg h7]
    rw [e1] at hK
    rw [e2, e3]
    exact (countTake_any B 0 _ _ _ x n w hK rfl).mono fun e w' h => takePost_of (fun W hb => by rw [e1, fold_snoc]; exact hb) h
theorem tell_any (B : Nat) (k : Int) (l : List Tk) (w : World) (hK : HoldsA w B k l) : Calls Tryz.prog (fTell k) #[dV k B] w (ValPost w (tellK k l)) := by
  cases kd k with
  | k2 => exact countTell_any B 0 _ _ _ w hK rfl
  | k3 => exact sumTell_any B _ _ w hK
  | k4 => exact extTell_any B _ _ _ w hK
  | k5 => exact extTell_any B _ _ _ w hK
  | k6 => exact meanTell_any B _ _ w hK
  | k7 => exact disTell_any B _ _ w hK
  | o h2 h3 h4 h5 h6 h7 =>
    have e1 : ∀ W m, HoldsA W B k m = Blk W B 125 #[.int .i64 (m.foldl cntStep 0)] := fun W m => by unfold HoldsA; rw [if_neg h2, if_neg h3, if_neg h4, if_neg h5, if_neg h6, if_neg h7]
    have e2 : fTell k = 132 := by unfold fTell; rw [if_neg h2, if_neg h3, if_neg h4, if_neg h5, if_neg h6, if_neg h7]
    have e3 : dV k B = .pointer (some ⟨B, 0, none⟩) := by unfold dV; rw [if_neg h7]
    have e4 : tellK k l = numV (l.foldl cntStep 0) := by unfold tellK; rw [if_neg h2, if_neg h3, if_neg h4, if_neg h5, if_neg h6, if_neg h7]
    rw [e1] at hK
    rw [e2, e3, e4]
    exact countTell_any B 0 _ _ _ w hK rfl

def BegunPost (w : World) (k : Int) (e : Ending) (w' : World) : Prop := e = .returned (.iface (dT k) (dV k w.heap.size)) ∧ HoldsA w' w.heap.size k [] ∧ Below w.heap.size w w'
set_option maxRecDepth 100000 in
theorem begun_any (k : Int) (w : World) : Calls Tryz.prog 74 #[.int .i64 k] w (BegunPost w k) := by
  cases kd k with
  | k2 =>
    have HE := Lib.hid (show BegunPost w 2 (.returned (.iface 123 (.pointer (some ⟨w.heap.size, 0, none⟩)))) (w.alloc (.cells #[.int .i64 0] 127)) from ⟨rfl, Blk.new w _ _, below_new _ _⟩)
    generalize BegunPost w 2 = Q at HE ⊢
    go_enter Tryz.func74, Tryz.ntmps74
    go_wp2_with fail
    exact HE.out
  | k3 =>
    have HE := Lib.hid (show BegunPost w 3 (.returned (.iface 128 (.pointer (some ⟨w.heap.size, 0, none⟩)))) (w.alloc (.cells #[.int .i64 0, .int .i64 0, .int .i64 0] 130)) from ⟨rfl, Blk.new w _ _, below_new _ _⟩)
    generalize BegunPost w 3 = Q at HE ⊢
    go_enter Tryz.func74, Tryz.ntmps74
    go_wp2_with fail
    exact HE.out
  | k4 =>
    have HE := Lib.hid (show BegunPost w 4 (.returned (.iface 131 (.pointer (some ⟨w.heap.size, 0, none⟩)))) (w.alloc (.cells #[.int .i64 0, .int .i64 0, .string ⟨#[]⟩, .int .i64 (-1)] 133)) from ⟨rfl, Blk.new w _ _, below_new _ _⟩)
    generalize BegunPost w 4 = Q at HE ⊢
    go_enter Tryz.func74, Tryz.ntmps74
    go_wp2_with fail
    exact HE.out
  | k5 =>
    have HE := Lib.hid (show BegunPost w 5 (.returned (.iface 131 (.pointer (some ⟨w.heap.size, 0, none⟩)))) (w.alloc (.cells #[.int .i64 0, .int .i64 0, .string ⟨#[]⟩, .int .i64 1] 133)) from ⟨rfl, Blk.new w _ _, below_new _ _⟩)
    generalize BegunPost w 5 = Q at HE ⊢
    go_enter Tryz.func74, Tryz.ntmps74
    go_wp2_with fail
    exact HE.out
  | k6 =>
    have HE := Lib.hid (show BegunPost w 6 (.returned (.iface 134 (.pointer (some ⟨w.heap.size, 0, none⟩)))) (w.alloc (.cells #[.int .i64 0, .int .i64 0, .int .i64 0] 136)) from ⟨rfl, Blk.new w _ _, below_new _ _⟩)
    generalize BegunPost w 6 = Q at HE ⊢
    go_enter Tryz.func74, Tryz.ntmps74
    go_wp2_with fail
    exact HE.out
  | k7 =>
    have hmm : ∀ W, (Instr.makeMap 138 none).run Tryz.prog W = .ok (.map (some W.heap.size)) (W.alloc (.map #[] 0)) := fun W => by
      simp [Instr.makeMap, Result.andThen]
    have HE := Lib.hid (show BegunPost w 7 (.returned (.iface 138 (.map (some w.heap.size)))) (w.alloc (.map #[] 0)) from ⟨rfl, ⟨.map [], World.ownsMap_made w _ _ _, DisOf.zero⟩, below_new _ _⟩)
    generalize BegunPost w 7 = Q at HE ⊢
    go_enter Tryz.func74, Tryz.ntmps74
    go_wp2_with fail
    exact HE.out
  | o h2 h3 h4 h5 h6 h7 =>
    have e1 : dT k = 139 := by unfold dT; rw [if_neg h2, if_neg h3, if_neg h4, if_neg h5, if_neg h6, if_neg h7]
    have e3 : dV k w.heap.size = .pointer (some ⟨w.heap.size, 0, none⟩) := by unfold dV; rw [if_neg h7]
    have HE := Lib.hid (show BegunPost w k (.returned (.iface 139 (.pointer (some ⟨w.heap.size, 0, none⟩)))) (w.alloc (.cells #[.int .i64 0] 125)) from ⟨by rw [e1, e3], by unfold HoldsA; rw [if_neg h2, if_neg h3, if_neg h4, if_neg h5, if_neg h6, if_neg h7]; exact Blk.new w _ _, below_new _ _⟩)
    generalize BegunPost w k = Q at HE ⊢
    have d2 : (k == 2) = false := by simpa using h2
    have d3 : (k == 3) = false := by simpa using h3
    have d4 : (k == 4) = false := by simpa using h4
    have d5 : (k == 5) = false := by simpa using h5
    have d6 : (k == 6) = false := by simpa using h6
    have d7 : (k == 7) = false := by simpa using h7
    clear h2 h3 h4 h5 h6 h7 e1 e3
    go_enter Tryz.func74, Tryz.ntmps74
    go_wp2_with fail
    exact HE.out
end Go.Proofs.YtfoknllnknjccaaGreat
