/-
  Plain facts: what was not late was not below a mark; a great bound makes nothing late.
-/
import Derived.Test.YtmnbcofonhlplaaSr
namespace Go.Proofs.Ytmnbcofonhlplaa

theorem atTo_ge {b : Int} {ts : List Int} : ∀ {i : Nat}, i ≤ ts.length → ∀ j, j < i → ts[j]?.getD 0 - b + 1 ≤ atTo b ts i
  | 0, _, j, h => by omega
  | i + 1, hi, j, h => by
    rw [atTo_next (by omega)]
    unfold markStep
    by_cases e : j = i
    · rw [e]; omega
    · have := atTo_ge (b := b) (ts := ts) (i := i) (by omega) j (by omega); omega
theorem atTo_from {b : Int} {ts : List Int} : ∀ {i : Nat}, i ≤ ts.length → atTo b ts i = -1000000000000 ∨ ∃ j, j < i ∧ atTo b ts i = ts[j]?.getD 0 - b + 1
  | 0, _ => .inl rfl
  | i + 1, hi => by
    rw [atTo_next (by omega)]
    unfold markStep
    rcases Int.le_total (atTo b ts i) (ts[i]?.getD 0 - b + 1) with h | h
    · exact .inr ⟨i, by omega, by omega⟩
    · rcases atTo_from (b := b) (ts := ts) (i := i) (by omega) with e | ⟨j, hj, e⟩
      · exact .inl (by omega)
      · exact .inr ⟨j, by omega, by omega⟩
theorem on_mem {b : Int} {es : List EvR} : ∀ {n : Nat}, ∀ y ∈ onP (plTo b es n), ∃ j, j < n ∧ y.1 = (es[j]?.getD er0).1
  | 0, y, h => by cases h
  | n + 1, y, h => by
    rw [plTo_next, onP_app] at h
    by_cases hl : (plAt b es n).2.2 = true
    · rw [if_pos hl] at h
      obtain ⟨j, hj, e⟩ := on_mem y h
      exact ⟨j, by omega, e⟩
    · rw [if_neg hl] at h
      rcases List.mem_append.1 h with h | h
      · obtain ⟨j, hj, e⟩ := on_mem y h
        exact ⟨j, by omega, e⟩
      · rw [List.mem_singleton] at h
        exact ⟨n, by omega, by rw [h]; rfl⟩
theorem on_pair {b : Int} {es : List EvR} : ∀ {n : Nat}, n ≤ es.length → (onP (plTo b es n)).Pairwise fun x y => x.1 - b + 1 ≤ y.1
  | 0, _ => .nil
  | n + 1, hn => by
    rw [plTo_next, onP_app]
    by_cases hl : (plAt b es n).2.2 = true
    · rw [if_pos hl]; exact on_pair (by omega)
    · rw [if_neg hl]
      refine List.pairwise_append.2 ⟨on_pair (by omega), List.pairwise_singleton _ _, fun x hx y hy => ?_⟩
      rw [List.mem_singleton] at hy
      subst hy
      obtain ⟨j, hj, e⟩ := on_mem x hx
      have h1 := atTo_ge (b := b) (ts := timesE es) (i := n) (by rw [timesE_len]; omega) j hj
      rw [timesE_get (by omega)] at h1
      have h2 : ¬ (es[n]?.getD er0).1 < atTo b (timesE es) n := fun h => hl (decide_eq_true h)
      show x.1 - b + 1 ≤ (es[n]?.getD er0).1
      rw [e]; omega
theorem on_late_len (b : Int) (es : List EvR) : ∀ n, (onP (plTo b es n)).length + (lateP (plTo b es n)).length = n
  | 0 => rfl
  | n + 1 => by
    have := on_late_len b es n
    rw [plTo_next, onP_app, lateP_app]
    split <;> simp <;> omega
theorem late_none {b : Int} {es : List EvR} (hok : evsOK es = true) {lo hi : Int} (hlh : hi - lo < b) (h : ∀ j, j < es.length → lo ≤ (es[j]?.getD er0).1 ∧ (es[j]?.getD er0).1 ≤ hi) : ∀ {n : Nat}, n ≤ es.length → lateP (plTo b es n) = []
  | 0, _ => rfl
  | n + 1, hn => by
    rw [plTo_next, lateP_app, late_none hok hlh h (show n ≤ es.length by omega)]
    rw [if_neg]
    intro hl
    have hl2 : (es[n]?.getD er0).1 < atTo b (timesE es) n := of_decide_eq_true hl
    rcases atTo_from (b := b) (ts := timesE es) (i := n) (by rw [timesE_len]; omega) with e | ⟨j, hj, e⟩
    · have := evsOK_at hok (show n < es.length by omega)
      unfold evOK at this
      rw [Bool.and_eq_true] at this
      have h3 := inR_iff.1 this.1
      have h4 : (evv (es[n]?.getD er0)).1 = (es[n]?.getD er0).1 := rfl
      omega
    · rw [timesE_get (by omega)] at e
      have h1 := h n (by omega)
      have h2 := h j (by omega)
      omega
theorem on_at {b : Int} {es ons : List EvR} (h : ons.map evv = onP (plTo b es es.length)) {k i : Nat} (hk : k < i) (hi : i < ons.length) : (ons[k]?.getD er0).1 - b + 1 ≤ (ons[i]?.getD er0).1 := by
  have hp := on_pair (b := b) (es := es) (Nat.le_refl es.length)
  rw [← h, List.pairwise_map] at hp
  have := List.pairwise_iff_getElem.1 hp k i (by omega) hi hk
  rw [List.getElem?_eq_getElem (show k < ons.length by omega), List.getElem?_eq_getElem hi]
  exact this
theorem on_time {b : Int} {es ons : List EvR} (hok : evsOK es = true) (h : ons.map evv = onP (plTo b es es.length)) {i : Nat} (hi : i < ons.length) : -1000000000000 ≤ (ons[i]?.getD er0).1 ∧ (ons[i]?.getD er0).1 ≤ 1000000000000 := by
  have hm : evv (ons[i]?.getD er0) ∈ onP (plTo b es es.length) := by rw [← h, List.getElem?_eq_getElem hi]; exact List.mem_map_of_mem (List.getElem_mem hi)
  obtain ⟨j, hj, e⟩ := on_mem _ hm
  have := evsOK_at hok hj
  unfold evOK at this
  rw [Bool.and_eq_true] at this
  have h3 := inR_iff.1 this.1
  have h4 : (evv (es[j]?.getD er0)).1 = (es[j]?.getD er0).1 := rfl
  have h5 : (evv (ons[i]?.getD er0)).1 = (ons[i]?.getD er0).1 := rfl
  omega
theorem ev_time {es : List EvR} (hok : evsOK es = true) {i : Nat} (hi : i < es.length) : -1000000000000 ≤ (es[i]?.getD er0).1 ∧ (es[i]?.getD er0).1 ≤ 1000000000000 := by
  have := evsOK_at hok hi
  unfold evOK at this
  rw [Bool.and_eq_true] at this
  have h3 := inR_iff.1 this.1
  have h4 : (evv (es[i]?.getD er0)).1 = (es[i]?.getD er0).1 := rfl
  omega
end Go.Proofs.Ytmnbcofonhlplaa
