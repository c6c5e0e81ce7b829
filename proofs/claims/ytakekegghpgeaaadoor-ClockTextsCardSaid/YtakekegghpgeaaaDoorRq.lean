/-
  What strings.Split hands back, as words; a spec's words tell the spec.
-/
import Derived.Test.YtakekegghpgeaaaDoorRe
namespace Go.Proofs.YtakekegghpgeaaaDoor
open Go.RowKit Go.Lib
set_option linter.unusedSimpArgs false

theorem wordNum_itoa {n : Int} (h0 : -1000000000000000000 < n) (h1 : n < 1000000000000000000) : wordNum (itoa n) = some n := by
  unfold wordNum; rw [atoi_itoa h0 h1]
theorem tryK_miss {k : Int} {ws : List ByteArray} (h : (ws[0]?.getD (ByteArray.mk #[])).data.toList ≠ nameT k) : tryK k ws = none := by
  unfold tryK
  rw [if_neg]
  intro h'
  exact h (beq_iff_eq.1 h'.1)
theorem read_spec {k sz st g sh : Int} (hok : specOK k sz st g sh = true) (ws : List ByteArray) (h : bytesOf ws = nameT k :: (numsT k sz st g sh).map itoa) : readFrom ws 1 4 = [k, sz, st, g, sh] := by
  have hp := (specOK_iff k sz st g sh).1 hok
  unfold specP at hp
  rcases hp with ⟨rfl, rfl, rfl, hp⟩ | ⟨rfl, rfl, hp⟩ | ⟨rfl, rfl, rfl, rfl, hp⟩ | ⟨rfl, rfl, rfl, rfl, rfl⟩
  · have a1 := wordNum_itoa (n := sz) (by omega) (by omega)
    have a2 := wordNum_itoa (n := sh) (by omega) (by omega)
    have hl := congrArg List.length h
    match ws, hl with
    | [x, y, z], _ =>
      simp only [bytesOf, numsT, List.map_cons, List.map_nil, List.cons.injEq, and_true, if_pos] at h
      obtain ⟨h1, h2, h3⟩ := h
      rw [readFrom, tryK, if_pos ⟨by rw [beq_iff_eq]; exact h1, rfl⟩]
      simp [plainW, offsT, fillGo, h2, h3, a1, a2]
  · have a1 := wordNum_itoa (n := sz) (by omega) (by omega)
    have a2 := wordNum_itoa (n := st) (by omega) (by omega)
    have a3 := wordNum_itoa (n := sh) (by omega) (by omega)
    have hl := congrArg List.length h
    match ws, hl with
    | [x, y, z, u], _ =>
      have e2 : numsT 2 sz st 0 sh = [sz, st, sh] := rfl
      rw [e2] at h
      simp only [bytesOf, List.map_cons, List.map_nil, List.cons.injEq, and_true] at h
      obtain ⟨h1, h2, h3, h4⟩ := h
      rw [readFrom, tryK_miss (by show x.data.toList ≠ nameT 1; rw [h1]; decide), show (1 : Int) + 1 = 2 from rfl, readFrom, tryK, if_pos ⟨by rw [beq_iff_eq]; exact h1, rfl⟩]
      simp [plainW, offsT, fillGo, h2, h3, h4, a1, a2, a3]
  · have a1 := wordNum_itoa (n := g) (by omega) (by omega)
    have hl := congrArg List.length h
    match ws, hl with
    | [x, y], _ =>
      have e2 : numsT 3 0 0 g 0 = [g] := rfl
      rw [e2] at h
      simp only [bytesOf, List.map_cons, List.map_nil, List.cons.injEq, and_true] at h
      obtain ⟨h1, h2⟩ := h
      rw [readFrom, tryK_miss (by show x.data.toList ≠ nameT 1; rw [h1]; decide), show (1 : Int) + 1 = 2 from rfl, readFrom, tryK_miss (by show x.data.toList ≠ nameT 2; rw [h1]; decide), show (2 : Int) + 1 = 3 from rfl, readFrom, tryK, if_pos ⟨by rw [beq_iff_eq]; exact h1, rfl⟩]
      simp [plainW, offsT, fillGo, h2, a1]
  · have hl := congrArg List.length h
    match ws, hl with
    | [x], _ =>
      have e2 : numsT 4 0 0 0 0 = [] := rfl
      rw [e2] at h
      simp only [bytesOf, List.map_cons, List.map_nil, List.cons.injEq, and_true] at h
      rw [readFrom, tryK_miss (by show x.data.toList ≠ nameT 1; rw [h]; decide), show (1 : Int) + 1 = 2 from rfl, readFrom, tryK_miss (by show x.data.toList ≠ nameT 2; rw [h]; decide), show (2 : Int) + 1 = 3 from rfl, readFrom, tryK_miss (by show x.data.toList ≠ nameT 3; rw [h]; decide), show (3 : Int) + 1 = 4 from rfl, readFrom, tryK, if_pos ⟨by rw [beq_iff_eq]; exact h, rfl⟩]
      simp [plainW, offsT, fillGo]
theorem split_small (sep : ByteArray) : ∀ (k : Nat) (s : ByteArray), ∀ x ∈ splitB sep 0 k s, x.size ≤ s.size
  | 0, s, x, hx => by
    rw [splitB_zero, List.mem_singleton] at hx
    subst hx; exact Nat.le_refl _
  | k + 1, s, x, hx => by
    unfold splitB at hx
    split at hx
    · rw [List.mem_singleton] at hx
      subst hx; exact Nat.le_refl _
    · rcases List.mem_cons.1 hx with rfl | h
      · rw [ByteArray.size_extract]; omega
      · have := split_small sep k _ x h
        rw [ByteArray.size_extract] at this
        omega
def splitW (s : ByteArray) : List ByteArray := splitB ⟨#[32]⟩ 0 (countB s ⟨#[32]⟩) s
theorem splitW_bytes {s : ByteArray} {k sz st g sh : Int} (h : s.data.toList = specT k sz st g sh) : bytesOf (splitW s) = nameT k :: (numsT k sz st g sh).map itoa := by
  unfold bytesOf splitW
  rw [splitB_data, countB, h]
  exact specT_split k sz st g sh
theorem splitW_len (s : ByteArray) : (splitW s).length = countB s ⟨#[32]⟩ + 1 := splitB_all ⟨#[32]⟩ (by decide) 0 _ s rfl
theorem splitW_le (s : ByteArray) : (splitW s).length ≤ s.size + 1 := by
  rw [splitW_len]
  have := countB_le ⟨#[32]⟩ (by decide) s.size s (Nat.le_refl _)
  omega
end Go.Proofs.YtakekegghpgeaaaDoor
