/-
  Two of one part, and Of, of package fold, as contracts.
-/
import Derived.Test.YtfoknllnknjccaaGreatPart5
import Derived.Test.YtfoknllnknjccaaGreatRes5
namespace Go.Proofs.YtfoknllnknjccaaGreat
open Go.RowKit

set_option maxRecDepth 100000 in
set_option maxHeartbeats 1000000 in
theorem indexWrong_one (C D P cap : Nat) (p : Option Addr) (rs : List ItR) (c : Nat) (n : Int) (hm : rs.length ≤ 9223372036854775807) (hcc : rs.length ≤ c) (w : World) (hX : ItemsIn w p rs) (hc : w.cell? ⟨C, 0, none⟩ = some (.int .i64 n)) (hC : C < w.heap.size)
    (hd : w.cell? ⟨D, 0, none⟩ = some (.func (.func 99) #[] #[.pointer (some ⟨C, 0, none⟩)])) (hD : D < w.heap.size) (hp : w.cell? ⟨P, 0, none⟩ = some (.slice p rs.length c)) (hP : P < w.heap.size) :
    Calls Tryz.prog 112 #[.slice (some ⟨P, 0, none⟩) 1 cap, .func (.func 100) #[] #[.pointer (some ⟨D, 0, none⟩)]] w (NegPost w (!(partOK n (vals rs)))) := by
  have HW := Lib.hid fun W (h : Below w.heap.size w W) => wrong_any C D p rs c n hm hcc W (hX.belowV h) ((h.cell (p := ⟨C, 0, none⟩) hC).trans hc) (Nat.lt_of_lt_of_le hC h.size) ((h.cell (p := ⟨D, 0, none⟩) hD).trans hd) (Nat.lt_of_lt_of_le hD h.size)
  have HPC := Lib.hid fun W (h : Below w.heap.size w W) => (h.cell (p := ⟨P, 0, none⟩) hP).trans hp
  generalize partOK n (vals rs) = b at HW ⊢
  clear hX hc hC hd hD hp hP
  go_enter Tryz.func112, Tryz.ntmps112
  go_wp2_with fail
  go_loopw [8] (fun s wr => ∃ i : Nat, i ≤ 1 ∧ s = .int .i64 i ∧ Hid (0 < i → b = true) ∧ Below w.heap.size w wr) (fun s _ => 1 - (intOf s).toNat)
  case atStart => exact ⟨0, by omega, rfl, (fun h => by omega), Below.refl _ _⟩
  case round =>
    obtain ⟨i, hi, rfl, hE, hB⟩ := hrel
    have hi01 : i = 0 ∨ i = 1 := by omega
    rcases hi01 with rfl | rfl
    · have c0 := HPC.out wr hB
      have HC := Lib.hid (HW.out wr hB)
      clear hE
      cases b with
      | true =>
        go_wp2_with fail
        refine HC.out.mono ?_
        rintro e w1 ⟨rfl, hb1⟩
        have hB4 := hB.trans (hb1.mono hB.size)
        go_wp2_with fail
        go_roundw
        case rel => exact ⟨1, by omega, rfl, (by first | exact (fun _ => rfl) | exact (fun _ => trivial)), hB4⟩
        case measure => simp [intOf]
      | false =>
        go_wp2_with fail
        refine HC.out.mono ?_
        rintro e w1 ⟨rfl, hb1⟩
        have hB4 := hB.trans (hb1.mono hB.size)
        go_wp2_with fail
        go_ret
        exact ⟨0, rfl, rfl, hB4⟩
    · have HE := Lib.hid (hE.out (by omega))
      clear hE
      go_wp2_with fail
      go_ret
      exact ⟨-1, rfl, by rw [HE.out]; rfl, hB⟩

theorem containsWrong_one (C D P cap : Nat) (p : Option Addr) (rs : List ItR) (c : Nat) (n : Int) (hm : rs.length ≤ 9223372036854775807) (hcc : rs.length ≤ c) (w : World) (hX : ItemsIn w p rs) (hc : w.cell? ⟨C, 0, none⟩ = some (.int .i64 n)) (hC : C < w.heap.size)
    (hd : w.cell? ⟨D, 0, none⟩ = some (.func (.func 99) #[] #[.pointer (some ⟨C, 0, none⟩)])) (hD : D < w.heap.size) (hp : w.cell? ⟨P, 0, none⟩ = some (.slice p rs.length c)) (hP : P < w.heap.size) :
    Calls Tryz.prog 101 #[.slice (some ⟨P, 0, none⟩) 1 cap, .func (.func 100) #[] #[.pointer (some ⟨D, 0, none⟩)]] w (AgPost w (!(partOK n (vals rs)))) := by
  have H := Lib.hid (indexWrong_one C D P cap p rs c n hm hcc w hX hc hC hd hD hp hP)
  clear hX hc hC hd hD hp hP
  generalize partOK n (vals rs) = b at H ⊢
  go_enter Tryz.func101, Tryz.ntmps101
  go_wp2_with fail
  refine H.out.mono ?_
  rintro e w1 ⟨k, rfl, hk, hb⟩
  have HK := Lib.hid hk
  clear hk
  go_wp2_with fail
  go_ret
  exact ⟨by rw [← HK.out] <;> rfl, hb⟩

set_option maxRecDepth 100000 in
theorem areParts_one (P cap : Nat) (p : Option Addr) (rs : List ItR) (c : Nat) (n : Int) (hm : rs.length ≤ 9223372036854775807) (hcc : rs.length ≤ c) (w : World) (hX : ItemsIn w p rs) (hp : w.cell? ⟨P, 0, none⟩ = some (.slice p rs.length c)) (hP : P < w.heap.size) :
    Calls Tryz.prog 80 #[.slice (some ⟨P, 0, none⟩) 1 cap, .int .i64 n] w (AgPost w (partOK n (vals rs))) := by
  have b1 : Below w.heap.size w (w.alloc (.cells #[.int .i64 n] 3)) := below_new _ _
  have b2 : Below w.heap.size w ((w.alloc (.cells #[.int .i64 n] 3)).alloc (.cells #[.func (.func 99) #[] #[.pointer (some ⟨w.heap.size, 0, none⟩)]] 104)) := b1.alloc b1.size _
  have k1 := (Blk.new w 3 #[.int .i64 n]).allocG (.cells #[.func (.func 99) #[] #[.pointer (some ⟨w.heap.size, 0, none⟩)]] 104)
  have k2 := Blk.newAt (w.alloc (.cells #[.int .i64 n] 3)) 104 #[.func (.func 99) #[] #[.pointer (some ⟨w.heap.size, 0, none⟩)]] (g := w.heap.size + 1) (by simp)
  have HC := Lib.hid (containsWrong_one w.heap.size (w.heap.size + 1) P cap p rs c n hm hcc _ (hX.belowV b2) (k1.cell 0) (by simp <;> omega) (k2.cell 0) (by simp) ((b2.cell (p := ⟨P, 0, none⟩) hP).trans hp) (Nat.lt_of_lt_of_le hP b2.size))
  have HB := Lib.hid b2
  clear b1 b2 k1 k2 hX hp
  generalize partOK n (vals rs) = b at HC ⊢
  go_enter Tryz.func80, Tryz.ntmps80
  go_wp2_with fail
  refine HC.out.mono ?_
  rintro e w1 ⟨rfl, hb1⟩
  have hB4 := HB.out.trans (hb1.mono HB.out.size)
  go_wp2_with fail
  go_ret
  exact ⟨by cases b <;> rfl, hB4⟩

def ofErr (gs : List Ag) (n : Int) (l : List It) : Int := if validL n gs = true ∧ partOK n l = true then (if n < 0 ∨ 8 < n then 7 else resErr l) else 1
def ofVal (gs : List Ag) (n : Int) (l : List It) : List Val := if ofErr gs n l = 0 then toldV gs l else []
theorem pairs_nil (l : List It) : pairsL [] l = l.map fun x => (x.1, 0, x.2) := by
  induction l with
  | nil => rw [pairsL]; rfl
  | cons x l ih => rw [pairsL, ih]; rfl
theorem comb_nil {l : List It} (h : validBag l = true) : comb (fun x y => x + y) [] l = l := by
  unfold comb mapped nz
  rw [pairs_nil, List.map_map]
  have e : (become (fun x y => x + y) ∘ fun x : It => (x.1, 0, x.2)) = id := by funext x; simp [become]
  rw [e, List.map_id, List.filter_eq_self]
  intro x hx
  have := (itOK_iff.1 ((validBag_iff.1 h).2.1 x hx)).2.1
  simpa using this
theorem nil_valid : validBag [] = true := validBag_iff.2 ⟨by simp, by simp, List.Pairwise.nil⟩
theorem comb_err {l : List It} (h : validBag l = true) : combErr (fun x y => x + y) [] l = 0 ∧ combVal (fun x y => x + y) [] l = l := by
  constructor
  · unfold combErr toldErr
    rw [if_pos ⟨nil_valid, h⟩, comb_nil h, if_pos h]
  · unfold combVal toldVal
    rw [if_pos ⟨nil_valid, h⟩, comb_nil h, if_pos h]
theorem part_wide {n : Nat} {l : List It} (h : partOK (n : Int) l = true) : validBag l = true ∧ Wide n l := by
  unfold partOK at h
  rw [Bool.and_eq_true] at h
  refine ⟨h.1, fun x hx => ?_⟩
  have h2 : l.any (othr (n : Int)) = false := by simpa using h.2
  have := List.any_eq_false.1 h2 x hx
  unfold othr at this
  have h3 : ¬ ((x.1.length : Int) ≠ (n : Int)) := fun hh => this (decide_eq_true hh)
  omega
theorem resPost_nil {w w' : World} {er : Int} (h : Below w.heap.size w w') : ResPost w [] er (.returned (.tuple #[.slice none 0 0, .int .i64 er])) w' := ⟨_, rfl, World.ownsRow_nil _ _ _ _, h⟩

set_option maxRecDepth 100000 in
set_option maxHeartbeats 2000000 in
theorem two_bad (P cap : Nat) (p q : Option Addr) (gs : List Ag) (c : Nat) (n : Int) (rs : List ItR) (d : Nat) (hg : gs.length ≤ 9223372036854775807) (hm : rs.length ≤ 9223372036854775807) (hd : rs.length ≤ d) (w : World) (hG : AggsIn w p gs) (hX : ItemsIn w q rs) (hp : w.cell? ⟨P, 0, none⟩ = some (.slice q rs.length d)) (hP : P < w.heap.size)
    (hbad : ¬ (validL n gs = true ∧ partOK n (vals rs) = true)) :
    Calls Tryz.prog 56 #[.slice p gs.length c, .int .i64 n, .slice (some ⟨P, 0, none⟩) 1 cap] w (ResPost w [] 1) := by
  have h1 := foldValid_any p gs c n hg w hG
  have h2 := fun W (h : Below w.heap.size w W) => areParts_one P cap q rs d n hm hd W (hX.belowV h) ((h.cell (p := ⟨P, 0, none⟩) hP).trans hp) (Nat.lt_of_lt_of_le hP h.size)
  clear hG hX hp
  cases q1 : validL n gs with
  | false =>
    rw [q1] at h1
    have H1 := Lib.hid h1
    clear h1 h2 q1 hbad
    go_enter Tryz.func56, Tryz.ntmps56
    go_wp2_with fail
    refine H1.out.mono ?_
    rintro e w1 ⟨rfl, hb1⟩
    go_wp2_with fail
    go_ret2
    exact resPost_nil hb1
  | true =>
    have q2 : partOK n (vals rs) = false := by
      cases h : partOK n (vals rs) with
      | false => rfl
      | true => exact absurd ⟨q1, h⟩ hbad
    rw [q1] at h1
    rw [q2] at h2
    have H1 := Lib.hid h1
    have H2 := Lib.hid h2
    clear h1 h2 q1 q2 hbad
    go_enter Tryz.func56, Tryz.ntmps56
    go_wp2_with fail
    refine H1.out.mono ?_
    rintro e w1 ⟨rfl, hb1⟩
    go_wp2_with fail
    refine (H2.out w1 hb1).mono ?_
    rintro e w2 ⟨rfl, hb2⟩
    go_wp2_with fail
    go_ret2
    exact resPost_nil (hb1.trans (hb2.mono hb1.size))
set_option maxRecDepth 100000 in
set_option maxHeartbeats 2000000 in
theorem two_range (P cap : Nat) (p q : Option Addr) (gs : List Ag) (c : Nat) (n : Int) (rs : List ItR) (d : Nat) (hg : gs.length ≤ 9223372036854775807) (hm : rs.length ≤ 9223372036854775807) (hd : rs.length ≤ d) (w : World) (hG : AggsIn w p gs) (hX : ItemsIn w q rs) (hp : w.cell? ⟨P, 0, none⟩ = some (.slice q rs.length d)) (hP : P < w.heap.size)
    (q1 : validL n gs = true) (q2 : partOK n (vals rs) = true) (hn : n < 0 ∨ 8 < n) :
    Calls Tryz.prog 56 #[.slice p gs.length c, .int .i64 n, .slice (some ⟨P, 0, none⟩) 1 cap] w (ResPost w [] 7) := by
  have h1 := foldValid_any p gs c n hg w hG
  have h2 := fun W (h : Below w.heap.size w W) => areParts_one P cap q rs d n hm hd W (hX.belowV h) ((h.cell (p := ⟨P, 0, none⟩) hP).trans hp) (Nat.lt_of_lt_of_le hP h.size)
  have he : newErr gs n = 7 := by unfold newErr; rw [q1, if_neg (by decide), if_pos hn]
  have H3 := Lib.hid fun W (h : Below w.heap.size w W) => new_bad p gs c n 7 hg W (hG.belowV h) he (by decide)
  rw [q1] at h1
  rw [q2] at h2
  have H1 := Lib.hid h1
  have H2 := Lib.hid h2
  clear hG hX hp h1 h2 q1 q2 he hn
  go_enter Tryz.func56, Tryz.ntmps56
  go_wp2_with fail
  refine H1.out.mono ?_
  rintro e w1 ⟨rfl, hb1⟩
  go_wp2_with fail
  refine (H2.out w1 hb1).mono ?_
  rintro e w2 ⟨rfl, hb2⟩
  have hB2 := hb1.trans (hb2.mono hb1.size)
  go_wp2_with fail
  refine (H3.out w2 hB2).mono ?_
  rintro e w3 ⟨rfl, hb3⟩
  have hB3 := hB2.trans (hb3.mono hB2.size)
  go_wp2_with fail
  go_ret2
  exact resPost_nil hB3
/-- Where the loop over the one part stands. -/
def TwoRel (w : World) (A : Nat) (gs : List Ag) (n : Int) (l : List It) (i : Nat) (W : World) : Prop :=
  Below w.heap.size w W ∧ ((i = 0 ∧ AccAt W A gs n (none, [], 0)) ∨ (i = 1 ∧ ∃ (p : Option Addr) (ss : List ItR) (cap : Nat), vals ss = l ∧ AccAt W A gs n (p, ss, cap)))
set_option maxRecDepth 100000 in
set_option maxHeartbeats 4000000 in
theorem two_yes (P cap : Nat) (p q : Option Addr) (gs : List Ag) (c : Nat) (n : Nat) (rs : List ItR) (d : Nat) (hg : gs.length ≤ 9223372036854775807) (hm : rs.length ≤ 9223372036854775807) (hd : rs.length ≤ d) (w : World) (hG : AggsIn w p gs) (hX : ItemsIn w q rs) (hp : w.cell? ⟨P, 0, none⟩ = some (.slice q rs.length d)) (hP : P < w.heap.size)
    (q1 : validL (n : Int) gs = true) (q2 : partOK (n : Int) (vals rs) = true) (hn : n ≤ 8) :
    Calls Tryz.prog 56 #[.slice p gs.length c, .int .i64 n, .slice (some ⟨P, 0, none⟩) 1 cap] w (ResPost w (resVal gs (vals rs)) (resErr (vals rs))) := by
  have h1 := foldValid_any p gs c n hg w hG
  have h2 := fun W (h : Below w.heap.size w W) => areParts_one P cap q rs d n hm hd W (hX.belowV h) ((h.cell (p := ⟨P, 0, none⟩) hP).trans hp) (Nat.lt_of_lt_of_le hP h.size)
  have H3 := Lib.hid fun W (h : Below w.heap.size w W) => new_ok p gs c n hg W (hG.belowV h) q1 (by omega) (by omega)
  have hpw := part_wide q2
  have hce := comb_err hpw.1
  have hlr := (validBag_iff.1 hpw.1).1
  rw [vals_len] at hlr
  have hlg := validL_len q1
  rw [q1] at h1
  rw [q2] at h2
  have H1 := Lib.hid h1
  have H2 := Lib.hid h2
  have HPX := Lib.hid fun W (h : Below w.heap.size w W) => And.intro ((h.cell (p := ⟨P, 0, none⟩) hP).trans hp) (hX.belowV h)
  have HQ := Lib.hid (And.intro q1 hpw)
  have HCE := Lib.hid hce
  clear hG hX hp h1 h2 q1 q2 hpw hce
  go_enter Tryz.func56, Tryz.ntmps56
  go_wp2_with fail
  refine H1.out.mono ?_
  rintro e w1 ⟨rfl, hb1⟩
  go_wp2_with fail
  refine (H2.out w1 hb1).mono ?_
  rintro e w2 ⟨rfl, hb2⟩
  have hB2 := hb1.trans (hb2.mono hb1.size)
  go_wp2_with fail
  refine (H3.out w2 hB2).mono ?_
  rintro e w3 ⟨A, rfl, hA0, hA3, hb3⟩
  have hB3 := hB2.trans (hb3.mono hB2.size)
  have HA3 := Lib.hid hA3
  have HB3 := Lib.hid hB3
  have HA0 := Lib.hid (Nat.le_trans hB2.size hA0)
  clear hb1 hb2 hB2 hb3 hA0 hA3 hB3 H1 H2 H3
  go_wp2_with fail
  go_loopw [35] (fun s wr => ∃ i : Nat, i ≤ 1 ∧ s = .int .i64 i ∧ Hid (TwoRel w A gs n (vals rs) i wr)) (fun s _ => 1 - (intOf s).toNat)
  case atStart => exact ⟨0, by omega, rfl, HB3.out, .inl ⟨rfl, HA3.out⟩⟩
  case round =>
    obtain ⟨i, hi, rfl, hR⟩ := hrel
    have hi01 : i = 0 ∨ i = 1 := by omega
    rcases hi01 with rfl | rfl
    · obtain ⟨hB, hR2⟩ := hR.out
      have hA : AccAt wr A gs n (none, [], 0) := by
        rcases hR2 with h | h
        · exact h.2
        · exact absurd h.1 (by decide)
      clear hR hR2
      obtain ⟨c0, hX1⟩ := HPX.out wr hB
      have HAK := Lib.hid hA
      obtain ⟨pl, cl, k1, a1, b1⟩ := hA
      have x0 := k1.cell 0
      have x1 := k1.cell 1
      simp only [List.getElem?_toArray, List.getElem?_cons_zero, List.getElem?_cons_succ] at x0 x1
      have hbN := below_new wr (.cells #[.slice pl gs.length cl, .int .i64 (n : Int), .slice q rs.length d] 66)
      have hAN : AccAt (wr.alloc (.cells #[.slice pl gs.length cl, .int .i64 (n : Int), .slice q rs.length d] 66)) wr.heap.size gs n (q, rs, d) :=
        ⟨pl, cl, Blk.new wr _ _, a1.belowV hbN, by show rs.length ≤ _; omega, hd, hX1.belowV hbN⟩
      have hMG := merge_any A wr.heap.size gs n (none, [], 0) (q, rs, d) (by omega) hg (by simp) (by show rs.length ≤ _; omega) _ (HAK.out.belowV hbN) hAN
      dsimp only at hMG
      rw [show vals ([] : List ItR) = [] from rfl, HCE.out.1, HCE.out.2] at hMG
      have HMG := Lib.hid hMG
      have HBN := Lib.hid (And.intro hB hbN)
      clear hMG hAN a1 b1 k1 hX1 hbN hB
      go_wp2_with fail
      refine HMG.out.mono ?_
      rintro e w4 ⟨rfl, _, h4⟩
      obtain ⟨hg4, p4, s4, c4, hv4, hA4, _⟩ := h4 rfl
      have HR4 := Lib.hid (show TwoRel w A gs n (vals rs) 1 w4 from ⟨(HBN.out.1.alloc HBN.out.1.size _).trans (hg4.toBelow HA0.out (Nat.le_trans HBN.out.1.size HBN.out.2.size)), .inr ⟨rfl, p4, s4, c4, hv4, hA4⟩⟩)
      clear hg4 h4 hv4 hA4
      go_wp2_with fail
      go_roundw
      case rel => exact ⟨1, by omega, rfl, HR4.out⟩
      case measure => simp [intOf]
    · obtain ⟨hB, hR2⟩ := hR.out
      have hA : ∃ (p : Option Addr) (ss : List ItR) (cap : Nat), vals ss = vals rs ∧ AccAt wr A gs n (p, ss, cap) := by
        rcases hR2 with h | h
        · exact absurd h.1 (by decide)
        · exact h.2
      clear hR hR2
      obtain ⟨p4, s4, c4, hv4, hA4⟩ := hA
      have hl4 : s4.length = rs.length := by rw [← vals_len, hv4, vals_len]
      have hRS := result_any A gs n (p4, s4, c4) HQ.out.1 (by show s4.length ≤ _; omega) (by show Wide n (vals s4); rw [hv4]; exact HQ.out.2.2) wr hA4
      dsimp only at hRS
      rw [hv4] at hRS
      have HRS := Lib.hid hRS
      have HBB := Lib.hid hB
      clear hRS hA4 hv4 hB hl4
      go_wp2_with fail
      refine HRS.out.mono ?_
      rintro e w5 ⟨v5, rfl, ho5, hb5⟩
      go_wp2_with fail
      go_ret2
      exact ⟨v5, rfl, ownsRow_base ho5 HBB.out.size, HBB.out.trans (hb5.mono HBB.out.size)⟩

theorem partOK_not (n : Int) (l : List It) (h : partOK n l = true) (gs : List Ag) (hv : validL n gs = true) (hn : ¬ (n < 0 ∨ 8 < n)) : ofErr gs n l = resErr l ∧ ofVal gs n l = resVal gs l := by
  have e : ofErr gs n l = resErr l := by unfold ofErr; rw [if_pos ⟨hv, h⟩, if_neg hn]
  refine ⟨e, ?_⟩
  unfold ofVal
  rw [e]
  unfold resErr resVal
  by_cases hw : wholeB l = true
  · rw [if_pos hw, if_pos hw, if_pos rfl]
  · rw [if_neg hw, if_neg hw, if_neg (by decide)]
set_option maxRecDepth 100000 in
theorem of_any (p q : Option Addr) (gs : List Ag) (c : Nat) (n : Int) (rs : List ItR) (d : Nat) (hg : gs.length ≤ 9223372036854775807) (hm : rs.length ≤ 9223372036854775807) (hd : rs.length ≤ d) (w : World) (hG : AggsIn w p gs) (hX : ItemsIn w q rs) :
    Calls Tryz.prog 27 #[.slice p gs.length c, .int .i64 n, .slice q rs.length d] w (ResPost w (ofVal gs n (vals rs)) (ofErr gs n (vals rs))) := by
  have b1 : Below w.heap.size w (w.alloc (.cells #[.slice q rs.length d] 47)) := below_new _ _
  have hT : Calls Tryz.prog 56 #[.slice p gs.length c, .int .i64 n, .slice (some ⟨w.heap.size, 0, none⟩) 1 1] (w.alloc (.cells #[.slice q rs.length d] 47)) (ResPost (w.alloc (.cells #[.slice q rs.length d] 47)) (ofVal gs n (vals rs)) (ofErr gs n (vals rs))) := by
    have hp := (Blk.new w 47 #[.slice q rs.length d]).cell 0
    have hP : w.heap.size < (w.alloc (.cells #[.slice q rs.length d] 47)).heap.size := by simp
    by_cases h : validL n gs = true ∧ partOK n (vals rs) = true
    · by_cases hn : n < 0 ∨ 8 < n
      · have e : ofErr gs n (vals rs) = 7 := by unfold ofErr; rw [if_pos h, if_pos hn]
        have e2 : ofVal gs n (vals rs) = [] := by unfold ofVal; rw [e]; rfl
        rw [e, e2]
        exact two_range w.heap.size 1 p q gs c n rs d hg hm hd _ (hG.belowV b1) (hX.belowV b1) hp hP h.1 h.2 hn
      · obtain ⟨m, rfl⟩ : ∃ m : Nat, n = (m : Int) := Int.eq_ofNat_of_zero_le (by omega)
        obtain ⟨e1, e2⟩ := partOK_not m (vals rs) h.2 gs h.1 hn
        rw [e1, e2]
        exact two_yes w.heap.size 1 p q gs c m rs d hg hm hd _ (hG.belowV b1) (hX.belowV b1) hp hP h.1 h.2 (by omega)
    · have e : ofErr gs n (vals rs) = 1 := by unfold ofErr; rw [if_neg h]
      have e2 : ofVal gs n (vals rs) = [] := by unfold ofVal; rw [e]; rfl
      rw [e, e2]
      exact two_bad w.heap.size 1 p q gs c n rs d hg hm hd _ (hG.belowV b1) (hX.belowV b1) hp hP h
  have HT := Lib.hid hT
  have HB := Lib.hid b1
  clear hT b1 hG hX
  generalize ofVal gs n (vals rs) = ov at HT ⊢
  generalize ofErr gs n (vals rs) = oe at HT ⊢
  go_enter Tryz.func27, Tryz.ntmps27
  go_wp2_with fail
  refine HT.out.mono ?_
  rintro e w1 ⟨v1, rfl, ho1, hb1⟩
  have HFI := Lib.hid (show OwnsV w1 w.heap.size v1 ov ∧ Below w.heap.size w w1 from ⟨ownsRow_base ho1 HB.out.size, HB.out.trans (hb1.mono HB.out.size)⟩)
  clear ho1 hb1
  go_wp2_with fail
  go_ret2
  exact ⟨v1, rfl, HFI.out.1, HFI.out.2⟩
end Go.Proofs.YtfoknllnknjccaaGreat
