/-
  The document's own Sessions, as a contract.
-/
import Derived.Test.YthbpdalkifocaaaSess
import Derived.Test.YthbpdalkifocaaaOpen
import Derived.Deep.RegionLaw
import Derived.Deep.AppendLies
namespace Go.Proofs.Ythbpdalkifocaaa
open Go.RowKit

theorem refMerged_is (v : Value) (xs : List (Int × Int)) (hm : xs.length ≤ 10000) (hok : ∀ x ∈ xs, okW x) (w : World) (h : RowIs w v xs) :
    Calls Try.prog 23 #[v] w (MergedPost w xs) := by
  rcases h.2 with ⟨rfl, rfl⟩ | ⟨b, off, cap, rfl, hra⟩
  · exact Merged_zero _ _ _
  · exact Merged_some _ _ _ _ hm hok _ hra

def SessPost (w : World) (g : Int) (ts : List Int) (e : Ending) (w' : World) : Prop :=
  (sessErr g ts ≠ 0 ∧ RowPost2 w.heap.size w [] (sessErr g ts) e w') ∨ (sessErr g ts = 0 ∧ MergeOK w (sessW g ts) e w')

set_option maxRecDepth 100000 in
set_option maxHeartbeats 4000000 in
theorem refSessions_in (g : Int) (hg : 1 ≤ g ∧ g ≤ 1000000000) (bk off cap : Nat) (ts : List Int) (hm : ts.length ≤ 400) (w : World) (hbk : bk < w.heap.size) (hX : TimesAt w bk off ts) :
    Calls Try.prog 13 #[.int .i64 g, .slice (some ⟨bk, off, none⟩) ts.length cap] w (SessPost w g ts) := by
  obtain ⟨i0, hi, hz0, hz1, hz2⟩ := info_parts infoW
  have hw := fun W => refWithin_any g 1 1000000000 W
  rw [inR_yes hg] at hw
  have HW := Lib.hid hw
  have HX := Lib.hid hX
  have HV := Lib.hid fun (t : Int) (W : World) => refValid_any t W
  have h' : (ts.length : Int) ≤ 400 := by omega
  obtain ⟨hg1, hg2⟩ := hg
  have hE0 : badTimes ts = false → sessErr g ts = 0 := fun hb => by unfold sessErr; rw [if_neg (by omega), if_pos ⟨hg1, hg2, hb⟩]
  have hE7 : badTimes ts = true → sessErr g ts = 7 := fun hb => by unfold sessErr; rw [if_neg (by omega), if_neg (by rw [hb]; simp)]
  have H0 := Lib.hid hE0
  have H7 := Lib.hid hE7
  clear hw hX hE0 hE7
  go_enter Try.func13, Try.ntmps13
  go_wp2_with (go_at_call 26; refine (HW.out _).mono ?_; rintro e w' ⟨rfl, rfl⟩)
  go_loopw [6, 7] (fun o s wr => ∃ i : Nat, s = .int .i64 i ∧ i ≤ ts.length ∧ Hid (badTimes (ts.take i) = false) ∧ wr.ownsRow w.heap.size 31 2 o i (flatW (sessW g (ts.take i))) ∧ Below w.heap.size w wr) (fun _ s _ => ts.length - (intOf s).toNat)
  case atStart => exact ⟨0, rfl, Nat.zero_le _, rfl, World.ownsRow_nil _ _ _ _, Below.refl _ _⟩
  case round =>
    obtain ⟨i, rfl, hin, ht, hrow, hB⟩ := hrel
    have hBs := hB.size
    by_cases hlt : i < ts.length
    · have cx := HX.out.belowV hB hbk i hlt
      have hlt' : (i : Int) < (ts.length : Int) := by omega
      have hi0 : (0 : Int) ≤ (i : Int) := by omega
      have HA := Lib.hid (badTimes_next hlt ht.out)
      have HS := Lib.hid (badTimes_split ts i)
      have hsn := sessW_snoc (g := g) hlt
      generalize ts[i]?.getD 0 = t at HA cx hsn
      have HSN := Lib.hid hsn
      have HC1 := Lib.hid fun W => HV.out t W
      clear hsn
      rcases hb : inR t (-1000000000000) 1000000000000 with _ | _
      · rw [hb] at HC1 HA
        go_wp2_with (go_at_call 27; refine (HC1.out _).mono ?_; rintro e w' ⟨rfl, rfl⟩)
        go_ret2
        have e7 := H7.out (by rw [HS.out, HA.out]; rfl)
        exact .inl ⟨by rw [e7]; omega, by rw [e7]; exact ⟨_, rfl, World.ownsRow_nil _ _ _ _, hB⟩⟩
      · rw [hb] at HC1 HA
        have htt := (inR_iff _ _ _).1 hb
        obtain ⟨ht1, ht2⟩ := htt
        clear hb
        go_wp2_with (go_at_call 27; refine (HC1.out _).mono ?_; rintro e w' ⟨rfl, rfl⟩)
        have hwrp : IntKind.i64.wrap (t + g) = t + g := IntWalk.i64_in _ (by omega)
        go_region_law (refine step_append_lies _ rfl _ _ 22 rfl w.heap.size 31 i0 (.agg #[.int .i64 0, .int .i64 0]) 2 16 Try.underlying22 hi hz0 hz1 hz2 rfl (by decide) _ _ _ rfl (hrow.alloc _) ⟨wr.heap.size, 0, none⟩ 1 1 (cellsW (t, t + g)) rfl rfl (cells_two_new _ _ _ _) (by simp [cellsW, Value.oneCell']) (by decide) (by unfold maxLen; omega) (by omega) (by simp <;> omega) (wr.heap.size + 1) (by simp) ?_; intro g' cap' w5 hown' hgrow hor hlt5)
        all_goals
          have hB5 : Below w.heap.size w w5 := by
            first
              | exact (hB.drew.alloc hBs _).grown hgrow (by simp <;> omega) (fun k e => (hrow.lt k e).1)
              | exact (hB.alloc hBs _).grown hgrow (by simp <;> omega) (fun k e => (hrow.lt k e).1)
          go_wp2_with fail
          exact ⟨⟨i + 1, by go_num, by omega, HA.out, by rw [← HSN.out, flatW_snoc]; exact hown', hB5⟩, by simp [intOf]; omega⟩
    · have hi' : i = ts.length := by omega
      have hge : ts.length ≤ i := by omega
      have hE : badTimes ts = false := by have := ht.out; rw [hi', List.take_length] at this; exact this
      have hok := sessW_ok hg1 hg2 (inTime_of_bad hE)
      obtain ⟨po, co, rfl⟩ := slice_of_owns hrow
      have hrow' : wr.ownsRow w.heap.size 31 2 (.slice po i co) (sessW g ts).length (flatW (sessW g ts)) := by
        have := hrow
        rw [hi', List.take_length] at this
        rw [sessW_len, hi']; exact this
      have hmg := Lib.hid (refMerged_is (.slice po i co) (sessW g ts) (by rw [sessW_len]; omega) hok wr (rowIs_of_owns hrow'))
      have HE := Lib.hid (H0.out hE)
      clear hE hok hrow' hi'
      go_wp2_with (go_at_call 23; refine hmg.out.mono ?_; rintro e w3 ⟨ys, h1, h2, h3, v, rfl, hrow3, hB3⟩)
      go_ret2
      exact .inr ⟨HE.out, ys, h1, h2, h3, _, rfl, ownsRow_base hrow3 hB.size, hB.trans (hB3.mono hB.size)⟩

theorem refSessions_far (g : Int) (hg : ¬ (1 ≤ g ∧ g ≤ 1000000000)) (p : Option Addr) (cap : Nat) (ts : List Int) (hm : ts.length ≤ 400) (w : World) :
    Calls Try.prog 13 #[.int .i64 g, .slice p ts.length cap] w (SessPost w g ts) := by
  have hw := fun W => refWithin_any g 1 1000000000 W
  rw [inR_no hg] at hw
  have HW := Lib.hid hw
  have h' : (ts.length : Int) ≤ 400 := by omega
  have h7 : sessErr g ts = 7 := by unfold sessErr; rw [if_neg (by omega), if_neg (fun h => hg ⟨h.1, h.2.1⟩)]
  have H7 := Lib.hid h7
  clear hw h7 hg
  go_enter Try.func13, Try.ntmps13
  go_wp2_with (go_at_call 26; refine (HW.out _).mono ?_; rintro e w' ⟨rfl, rfl⟩)
  go_ret2
  exact .inl ⟨by rw [H7.out]; omega, by rw [H7.out]; exact ⟨_, rfl, World.ownsRow_nil _ _ _ _, Below.refl _ _⟩⟩

theorem refSessions_long (g : Int) (p : Option Addr) (cap : Nat) (ts : List Int) (hm : 400 < ts.length) (w : World) :
    Calls Try.prog 13 #[.int .i64 g, .slice p ts.length cap] w (SessPost w g ts) := by
  have h' : (400 : Int) < (ts.length : Int) := by omega
  have h1 : sessErr g ts = 1 := by unfold sessErr; rw [if_pos hm]
  have H1 := Lib.hid h1
  clear h1
  go_enter Try.func13, Try.ntmps13
  go_wp2_with fail
  go_ret2
  exact .inl ⟨by rw [H1.out]; omega, by rw [H1.out]; exact ⟨_, rfl, World.ownsRow_nil _ _ _ _, Below.refl _ _⟩⟩

theorem refSessions_none (g : Int) (hg : 1 ≤ g ∧ g ≤ 1000000000) (p : Option Addr) (cap : Nat) (w : World) :
    Calls Try.prog 13 #[.int .i64 g, .slice p 0 cap] w (SessPost w g []) := by
  have hw := fun W => refWithin_any g 1 1000000000 W
  rw [inR_yes hg] at hw
  have HW := Lib.hid hw
  have h0 : sessErr g [] = 0 := by unfold sessErr; rw [if_neg (by simp), if_pos ⟨hg.1, hg.2, rfl⟩]
  have hmg := fun W => Merged_zero none 0 W
  have H0 := Lib.hid h0
  have HM := Lib.hid hmg
  clear hw h0 hmg hg
  go_enter Try.func13, Try.ntmps13
  go_wp2_with (go_at_call 26; refine (HW.out _).mono ?_; rintro e w' ⟨rfl, rfl⟩)
  refine wp_loop_rounds 1 ?_
  rw [rounds_succ]
  go_wp2_with (go_at_call 23; refine (HM.out _).mono ?_; rintro e w3 ⟨ys, h1, h2, h3, v, rfl, hrow3, hB3⟩)
  go_ret2
  exact .inr ⟨H0.out, ys, h1, h2, h3, _, rfl, hrow3, hB3⟩

/-- .. whatever the times that came in. -/
theorem refSessions_any (g : Int) (p : Option Addr) (cap : Nat) (ts : List Int) (w : World) (hX : IntsIn w p ts) :
    Calls Try.prog 13 #[.int .i64 g, .slice p ts.length cap] w (SessPost w g ts) := by
  by_cases hm : ts.length ≤ 400
  · by_cases hg : 1 ≤ g ∧ g ≤ 1000000000
    · cases ts with
      | nil => exact refSessions_none g hg p cap w
      | cons t ts =>
        obtain ⟨b, off, rfl, hbk, hx⟩ := hX (by simp)
        exact refSessions_in g hg b off cap _ hm w hbk hx
    · exact refSessions_far g hg p cap ts hm w
  · exact refSessions_long g p cap ts (by omega) w
#print axioms refSessions_any
end Go.Proofs.Ythbpdalkifocaaa
