/-
  Plus, told, Sum, Minus and Times of the document, and Times of package bag, as contracts.
-/
import Derived.Test.YthoimepdioeckaaGreatDoorPutB
import Derived.Test.YthoimepdioeckaaGreatDoorRefV
import Derived.Test.YthoimepdioeckaaGreatDoorSums
namespace Go.Proofs.YthoimepdioeckaaGreatDoor
open Go.RowKit

/-- append of items that came in, onto nothing. -/
theorem wpList_append_items {w : World} {ops : Array Oper} {rest : List Oper} {o : Oper} {a : Act} {Q : Exit → Act → World → Prop} (hgd : o.guard = none) (s x : Operand)
    (ho : o.op = .call { callee := .builtin .append, args := #[s, x], argTypes := #[23, 23] })
    (base : Nat) (hs : a.eval s = .slice none 0 0) (p : Option Addr) (rs : List ItR) (cap : Nat) (hx : a.eval x = .slice p rs.length cap) (hX : ItemsIn w p rs) (hz : p = none → cap = 0)
    (hn : rs.length ≤ 1000000) (hbase : base ≤ w.heap.size)
    (h : ∀ v' w', w'.ownsRow base 60 2 v' rs.length (flatI rs) → Below base w w' → wpList Tryz.prog ops Q rest (a.put o.dst v') w') : wpList Tryz.prog ops Q (o :: rest) a w := by
  obtain ⟨i0, hi, hz0, hz1, hz2⟩ := info_parts infoI
  have hown : w.ownsRow base 60 2 (.slice none 0 0) 0 [] := World.ownsRow_nil _ _ _ _
  rcases p with _ | ad
  · have hc := hz rfl
    subst hc
    have hrs : rs = [] := by
      cases rs with
      | nil => rfl
      | cons y ys => obtain ⟨_, _, h, _⟩ := hX (by simp); cases h
    subst hrs
    refine wpList_append_own_none hgd s x 23 ho base 60 i0 2 Tryz.underlying23 hi _ 0 [] hs hown hx (h _ w ?_ (Below.refl _ _))
    simpa [flatI] using hown
  · refine wpList_append_own _ hgd s x 23 ho base 60 i0 (.agg #[.slice none 0 0, .int .i64 0]) 2 32 Tryz.underlying23 hi hz0 hz1 hz2 rfl (by decide) _ 0 [] hs hown ad rs.length cap (flatI rs) hx (flatI_len rs) ?_ ?_ (by unfold maxLen; omega) (by omega) hbase (fun v' w' h1 h2 _ => h v' w' (by simpa using h1) ((Below.refl base w).grown h2 hbase (fun k e => by cases e)))
    · intro j u hu
      have hj : j < rs.length * 2 := by rw [← flatI_len]; exact (List.getElem?_eq_some_iff.1 hu).1
      obtain ⟨b, off, e, _, hra⟩ := hX (by omega)
      cases e
      rw [Go.WideShapes.add_plain]
      obtain ⟨g0, g1⟩ := flatI_get rs (j / 2) (by omega)
      obtain ⟨c0, c1, _⟩ := hra (j / 2) (by omega)
      have h2 : j % 2 = 0 ∨ j % 2 = 1 := by omega
      rcases h2 with h2 | h2
      · have e : j / 2 * 2 = j := by omega
        rw [e] at g0 c0
        rw [c0, ← hu, g0]
      · have e : j / 2 * 2 + 1 = j := by omega
        rw [Nat.add_assoc, e] at c1
        rw [e] at g1
        rw [c1, ← hu, g1]
    · intro u hu
      simp only [flatI, List.mem_flatMap, cellsI, List.mem_cons, List.not_mem_nil, or_false] at hu
      obtain ⟨y, _, rfl | rfl⟩ := hu <;> rfl

theorem put_num {l : List It} {r : List Val} {n : Int} : ∀ x ∈ put l r n, x ∈ l ∨ (x.1 = r ∧ (x.2 = n ∨ ∃ y ∈ l, x.2 = y.2 + n)) := by
  induction l with
  | nil =>
    intro x hx
    rw [put] at hx
    split at hx <;> simp at hx
    exact .inr ⟨by rw [hx], .inl (by rw [hx])⟩
  | cons y l ih =>
    intro x hx
    rw [put] at hx
    split at hx
    · split at hx
      · exact .inl hx
      · rcases List.mem_cons.1 hx with rfl | hx
        · exact .inr ⟨rfl, .inl rfl⟩
        · exact .inl hx
    · split at hx
      · split at hx
        · exact .inl (by simp [hx])
        · rcases List.mem_cons.1 hx with rfl | hx
          · exact .inr ⟨rfl, .inr ⟨y, by simp, rfl⟩⟩
          · exact .inl (by simp [hx])
      · rcases List.mem_cons.1 hx with rfl | hx
        · exact .inl (by simp)
        · rcases ih x hx with h | ⟨h, h2⟩
          · exact .inl (by simp [h])
          · exact .inr ⟨h, h2.imp id fun ⟨z, hz, e⟩ => ⟨z, by simp [hz], e⟩⟩
/-- Bounds that stay while rows are put in. -/
def Bd (k : Nat) (l : List It) : Prop := ∀ x ∈ l, validRow x.1 = true ∧ -(1000000 + (k : Int) * 1000000000000) ≤ x.2 ∧ x.2 ≤ 1000000 + (k : Int) * 1000000000000
theorem Bd.put {k : Nat} {l : List It} {r : List Val} {n : Int} (h : Bd k l) (hr : validRow r = true) (h1 : -1000000000000 ≤ n) (h2 : n ≤ 1000000000000) : Bd (k + 1) (put l r n) := fun x hx => by
  rcases put_num x hx with hx | ⟨e, e2⟩
  · have := h x hx
    exact ⟨this.1, by omega, by omega⟩
  · rcases e2 with e2 | ⟨y, hy, e2⟩
    · exact ⟨by rw [e]; exact hr, by omega, by omega⟩
    · have := h y hy
      exact ⟨by rw [e]; exact hr, by omega, by omega⟩
theorem bd_of_valid {l : List It} (h : validBag l = true) : Bd 0 l := fun x hx => by
  have := itOK_iff.1 ((validBag_iff.1 h).2.1 x hx)
  exact ⟨this.1, by have := this.2.2.1; omega, by have := this.2.2.2; omega⟩
theorem Bd.mono {k m : Nat} {l : List It} (h : Bd k l) (hm : k ≤ m) : Bd m l := fun x hx => by
  have := h x hx
  exact ⟨this.1, by omega, by omega⟩
theorem mul_bound {n x : Int} (hn : small n) (hx : small x) : -1000000000000 ≤ n * x ∧ n * x ≤ 1000000000000 := by
  unfold small at hn hx
  constructor
  · by_cases h : 0 ≤ n
    · calc -1000000000000 = 1000000 * -1000000 := by decide
        _ ≤ n * -1000000 := Int.mul_le_mul_of_nonpos_right hn.2 (by decide)
        _ ≤ n * x := Int.mul_le_mul_of_nonneg_left hx.1 h
    · calc -1000000000000 = -1000000 * 1000000 := by decide
        _ ≤ n * 1000000 := Int.mul_le_mul_of_nonneg_right hn.1 (by decide)
        _ ≤ n * x := Int.mul_le_mul_of_nonpos_left (by omega) hx.2
  · by_cases h : 0 ≤ n
    · calc n * x ≤ n * 1000000 := Int.mul_le_mul_of_nonneg_left hx.2 h
        _ ≤ 1000000 * 1000000 := Int.mul_le_mul_of_nonneg_right hn.2 (by decide)
        _ = 1000000000000 := by decide
    · calc n * x ≤ n * -1000000 := Int.mul_le_mul_of_nonpos_left (by omega) hx.1
        _ ≤ -1000000 * -1000000 := Int.mul_le_mul_of_nonpos_right hn.1 (by decide)
        _ = 1000000000000 := by decide
theorem row_len {xs : List Val} (h : validRow xs = true) : xs.length ≤ 8 := by unfold validRow at h; rw [Bool.and_eq_true, decide_eq_true_eq] at h; exact h.1
theorem mem_vals {rs : List ItR} {r : ItR} (h : r ∈ rs) : itv r ∈ vals rs := List.mem_map_of_mem h

set_option maxRecDepth 100000 in
set_option maxHeartbeats 4000000 in
theorem Plus_any (p q : Option Addr) (rs ss : List ItR) (c d : Nat) (n : Int) (hn : small n) (hm1 : rs.length ≤ 400) (hm2 : ss.length ≤ 400) (w : World) (hX : ItemsIn w p rs) (hzp : p = none → c = 0) (hZ : ItemsIn w q ss)
    (hua : Asc (vals rs)) (hba : Bd 0 (vals rs)) (hvb : validBag (vals ss) = true) :
    Calls Tryz.prog 45 #[.slice p rs.length c, .slice q ss.length d, .int .i64 n] w (PutPost w (plus (vals rs) (vals ss) n) 1000) := by
  have HX := Lib.hid hX
  have HZ := Lib.hid hZ
  have HZP := Lib.hid hzp
  have HA := Lib.hid (And.intro hua hba)
  have HV := Lib.hid hvb
  have HN := Lib.hid hn
  clear hX hZ hzp hua hba hvb hn
  go_enter Tryz.func45, Tryz.ntmps45
  go_wp2_with (at_builtin; refine wpList_append_items rfl _ _ rfl w.heap.size rfl p rs c rfl HX.out HZP.out (by omega) (Nat.le_refl _) ?_; intro v1 w1 hown1 hb1)
  obtain ⟨p1, c1, rfl, hc1⟩ := slice_of_own hown1
  have hi1 : ItemsIn w1 p1 rs := items_of_own rfl hown1 fun r hr => by
    obtain ⟨k, hk, rfl⟩ := List.getElem_of_mem hr
    obtain ⟨b, off, _, hbl, hra⟩ := HX.out (by omega)
    have := ((hra.belowV hb1 hbl) k hk).2.2
    rw [List.getElem?_eq_getElem hk] at this
    exact this
  have hz1 : p1 = none → c1 = 0 := fun e => by subst e; rcases hown1.2 with ⟨e, _⟩ | ⟨_, _, _, e, _⟩ <;> simp at e; exact e.2
  clear hown1
  go_loopw [7, 8] (fun o s wr => ∃ (i : Nat) (p' : Option Addr) (os : List ItR) (c' : Nat), o = .slice p' os.length c' ∧ s = .int .i64 i ∧ i ≤ ss.length ∧ Hid (vals os = plus (vals rs) ((vals ss).take i) n) ∧ Hid (Asc (vals os) ∧ Bd i (vals os)) ∧ os.length ≤ c' ∧ os.length ≤ rs.length + i ∧ ItemsIn wr p' os ∧ Hid (p' = none → c' = 0) ∧ Below w.heap.size w wr) (fun _ s _ => ss.length - (intOf s).toNat)
  case atStart => exact ⟨0, p1, rs, c1, rfl, rfl, Nat.zero_le _, rfl, HA.out, hc1, by omega, hi1, hz1, hb1⟩
  case round =>
    clear hi1 hb1 hc1 hz1
    obtain ⟨i, p', os, c', rfl, rfl, hi, hvo, hbo, hoc, hol, hio, hzo, hB⟩ := hrel
    by_cases hlt : i < ss.length
    · obtain ⟨b, off, rfl, hbl, hra⟩ := HZ.out (by omega)
      obtain ⟨c0, c1', c2, c3⟩ := (hra.belowV hB hbl) i hlt
      have hi0 : (0 : Int) ≤ (i : Int) := by omega
      have hi1 : (i : Int) < (ss.length : Int) := by omega
      have hmem : itv (ss[i]?.getD ir0) ∈ vals ss := mem_vals (by rw [List.getElem?_eq_getElem hlt]; exact List.getElem_mem hlt)
      have hok := itOK_iff.1 ((validBag_iff.1 HV.out).2.1 _ hmem)
      have hnx := plus_next (a := vals rs) (n := n) (show i < (vals ss).length by rw [vals_len]; exact hlt)
      rw [vals_get, ← hvo.out] at hnx
      clear hra hmem
      generalize (ss[i]?.getD ir0) = x at *
      obtain ⟨⟨xq, xs, xc⟩, xn⟩ := x
      dsimp only [rowv, itv] at c0 c1' c2 c3 hok hnx
      have hmb := mul_bound HN.out (show small xn from hok.2.2)
      have hwr : IntKind.i64.wrap (n * xn) = n * xn := IntWalk.i64_in _ (by omega)
      have hwr2 : wrap64 (n * xn) = n * xn := IntWalk.wrap64_in _ (by omega)
      have HP := Lib.hid fun W (h : Below wr.heap.size wr W) => Put_any p' xq os c' xs xc (n * xn) (by omega) hbo.out.1.2 (fun r hr => by
          have := hbo.out.2 _ (mem_vals hr)
          unfold big
          simp only [itv] at this
          omega) (by unfold big; omega) (fun r hr => by have := row_len (hbo.out.1.1 _ (mem_vals hr)).1; simp only [itv] at this; omega) (by have := row_len hok.1; omega) W (hio.belowV h) (c2.belowV h).2 c3
      have HNX := Lib.hid hnx
      have HAS := Lib.hid (show Asc (put (vals os) xs (n * xn)) ∧ Bd (i + 1) (put (vals os) xs (n * xn)) from ⟨put_asc hbo.out.1 hok.1, hbo.out.2.put hok.1 hmb.1 hmb.2⟩)
      clear hnx hok hmb c2 c3 hio
      go_wp2_with fail
      go_still_tail 13, (by kernel_rfl)
      have hB2 : Below w.heap.size w wr.drew := hB.drew
      have hB3 : Below wr.heap.size wr wr.drew := (Below.refl _ _).drew
      clear c0 c1'
      change wpList _ _ _ _ _ wr.drew
      generalize wr.drew = W7 at hB2 hB3 ⊢
      clear hwr hwr2
      go_wp2_with fail
      refine (HP.out _ hB3).mono ?_
      rintro e w3 ⟨p3, os3, c3, rfl, hv3, hoc3, hol3, hi3, hz3, hb3⟩
      have HV3 := Lib.hid hv3
      have HZ3 := Lib.hid hz3
      clear hv3 hz3
      go_wp2_with fail
      go_roundw
      case rel => exact ⟨i + 1, p3, os3, c3, rfl, by go_num, by omega, (by show _ = _; rw [HNX.out, HV3.out]), (by show _ ∧ _; rw [HV3.out]; exact HAS.out), hoc3, by omega, hi3, HZ3.out, hB2.trans (hb3.mono hB2.size)⟩
      case measure => simp [intOf]; omega
    · have hge : (ss.length : Int) ≤ (i : Int) := by omega
      have hie : i = ss.length := by omega
      have HF := Lib.hid (show vals os = plus (vals rs) (vals ss) n by have := hvo.out; rwa [hie, ← vals_len ss, List.take_length] at this)
      clear hie
      go_wp2_with fail
      go_ret
      exact ⟨p', os, c', rfl, HF.out, hoc, by omega, hio, hzo.out, hB⟩

set_option maxRecDepth 100000 in
theorem told_any (p : Option Addr) (os : List ItR) (c : Nat) (hc : os.length ≤ c) (hm : os.length ≤ 1000000) (w : World) (hX : ItemsIn w p os) :
    Calls Tryz.prog 39 #[.slice p os.length c] w (BagPost w.heap.size w (toldVal (vals os)) (toldErr (vals os))) := by
  have hv := refBagValid_any p os c (by omega) w hX
  have HX := Lib.hid hX
  clear hX
  cases q1 : validBag (vals os) with
  | false =>
    have e1 : toldVal (vals os) = [] := by unfold toldVal; rw [q1]; rfl
    have e2 : toldErr (vals os) = 4 := by unfold toldErr; rw [q1]; rfl
    rw [e1, e2]
    rw [q1] at hv
    have HV := Lib.hid hv
    clear hv q1 e1 e2
    go_enter Tryz.func39, Tryz.ntmps39
    go_wp2_with fail
    refine HV.out.mono ?_
    rintro e w1 ⟨rfl, hb1⟩
    go_wp2_with fail
    go_ret2
    exact bagPost_nil hb1
  | true =>
    have e1 : toldVal (vals os) = vals os := by unfold toldVal; rw [q1]; rfl
    have e2 : toldErr (vals os) = 0 := by unfold toldErr; rw [q1]; rfl
    rw [e1, e2]
    rw [q1] at hv
    have HV := Lib.hid hv
    clear hv q1 e1 e2
    go_enter Tryz.func39, Tryz.ntmps39
    go_wp2_with fail
    refine HV.out.mono ?_
    rintro e w1 ⟨rfl, hb1⟩
    go_wp2_with fail
    go_ret2
    exact ⟨p, os, c, rfl, rfl, hc, hm, HX.out.belowV hb1, hb1⟩
end Go.Proofs.YthoimepdioeckaaGreatDoor
