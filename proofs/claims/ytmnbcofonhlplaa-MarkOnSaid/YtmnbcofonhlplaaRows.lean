/-
  No cell of these rows narrows 'for every input' (looked for: loops, veiled, ifaces, maps, wideKeys, modest, calm, conditions, laid).
  DERIVED. THE GIVEN ROWS OF THIS SEAT. 4 by the template 'for every input the law returns true; each argument reads behind the call as it read before'; 0 by the template 'total and deterministic' (their statements: YtmnbcofonhlplaaTotals.lean).
  GIVEN WITH THE SEED: the statements are not yours to turn. If you find one false, say at which input.
  Laid BY PROGRAM, IN A SANDBOX (cutbox-rows.mjs): the forced cells as the released guide's own fill.sh prints them over the translation cde3478d7349ec89… (all of the seat's roots in one cut). By AI agents, Wed Nov 11 2026. No macro, syntax, notation, axiom, sorry.
-/
import Derived.Test.YtmnbcofonhlplaaChecked
import GoSem.Claim
import GoSem.ClaimJoined
import GoSem.ClaimMapViews
import Derived.JoinedTies
import Derived.KernelRfl
namespace Go.Proofs.Ytmnbcofonhlplaa
/- THE CELL 'sum', in the pinned program and in every row, IS THE sha256 OF THE DUMP (.gsa) THAT YtmnbcofonhlplaaProg.lean LOADS. Nothing in Lean hashes anything: it is a label: what it is worth is what the hold of that sum in a sandbox is worth. -/
noncomputable def Try.pinned : Pinned := { name := "ytmnbcofonhlplaa", sum := "cde3478d7349ec89c35fa89a57cd0553a1357e43adebe24b6b13e0e532aa14e3", checked := Try.checked }
namespace Rows
def none {H : Type} : Left H := { results := [], args := [] }

/-- 'tidewrightlaw06.MarkMeets': WHATEVER THE INPUT: true; the input reads as it did. -/
def markMeetsSpec : ChangeSpec := { name := "markMeets", fn := fun _ => fun
  | [d1, d2] => { results := [.lit (.bool true)], args := [d1, d2] }
  | _ => none }
def markMeetsRow : OpenClaim := { program := "ytmnbcofonhlplaa", sum := "cde3478d7349ec89c35fa89a57cd0553a1357e43adebe24b6b13e0e532aa14e3", func := "tidewright/tidewrightlaw06.MarkMeets", spec := "markMeets", unfollowed := true, recurses := true, apart := false }
def MarkMeetsSaid : Prop := markMeetsRow.holds Try.pinned (OpenSpec.ofChange markMeetsSpec)

/-- ITS FALSE NEIGHBOUR: 'it returns false'. Refute it at one input. -/
def markMeetsWrong : ChangeSpec := { name := "markMeets", fn := fun _ => fun
  | [d1, d2] => { results := [.lit (.bool false)], args := [d1, d2] }
  | _ => none }
def MarkMeetsWrongFalsely : Prop := markMeetsRow.holds Try.pinned (OpenSpec.ofChange markMeetsWrong)

/-- 'tidewrightlaw06.MarkLeast': WHATEVER THE INPUT: true; the input reads as it did. -/
def markLeastSpec : ChangeSpec := { name := "markLeast", fn := fun _ => fun
  | [d1, d2] => { results := [.lit (.bool true)], args := [d1, d2] }
  | _ => none }
def markLeastRow : OpenClaim := { program := "ytmnbcofonhlplaa", sum := "cde3478d7349ec89c35fa89a57cd0553a1357e43adebe24b6b13e0e532aa14e3", func := "tidewright/tidewrightlaw06.MarkLeast", spec := "markLeast", unfollowed := true, recurses := true, apart := false }
def MarkLeastSaid : Prop := markLeastRow.holds Try.pinned (OpenSpec.ofChange markLeastSpec)

/-- ITS FALSE NEIGHBOUR: 'it returns false'. Refute it at one input. -/
def markLeastWrong : ChangeSpec := { name := "markLeast", fn := fun _ => fun
  | [d1, d2] => { results := [.lit (.bool false)], args := [d1, d2] }
  | _ => none }
def MarkLeastWrongFalsely : Prop := markLeastRow.holds Try.pinned (OpenSpec.ofChange markLeastWrong)

/-- 'tidewrightlaw06.MarkSorts': WHATEVER THE INPUT: true; the input reads as it did. -/
def markSortsSpec : ChangeSpec := { name := "markSorts", fn := fun _ => fun
  | [d1, d2, d3, d4] => { results := [.lit (.bool true)], args := [d1, d2, d3, d4] }
  | _ => none }
def markSortsRow : OpenClaim := { program := "ytmnbcofonhlplaa", sum := "cde3478d7349ec89c35fa89a57cd0553a1357e43adebe24b6b13e0e532aa14e3", func := "tidewright/tidewrightlaw06.MarkSorts", spec := "markSorts", unfollowed := true, recurses := true, apart := false }
def MarkSortsSaid : Prop := markSortsRow.holds Try.pinned (OpenSpec.ofChange markSortsSpec)

/-- ITS FALSE NEIGHBOUR: 'it returns false'. Refute it at one input. -/
def markSortsWrong : ChangeSpec := { name := "markSorts", fn := fun _ => fun
  | [d1, d2, d3, d4] => { results := [.lit (.bool false)], args := [d1, d2, d3, d4] }
  | _ => none }
def MarkSortsWrongFalsely : Prop := markSortsRow.holds Try.pinned (OpenSpec.ofChange markSortsWrong)

/-- 'tidewrightlaw06.MarkOn': WHATEVER THE INPUT: true; the input reads as it did. -/
def markOnSpec : ChangeSpec := { name := "markOn", fn := fun _ => fun
  | [d1, d2] => { results := [.lit (.bool true)], args := [d1, d2] }
  | _ => none }
def markOnRow : OpenClaim := { program := "ytmnbcofonhlplaa", sum := "cde3478d7349ec89c35fa89a57cd0553a1357e43adebe24b6b13e0e532aa14e3", func := "tidewright/tidewrightlaw06.MarkOn", spec := "markOn", unfollowed := true, recurses := true, apart := false }
def MarkOnSaid : Prop := markOnRow.holds Try.pinned (OpenSpec.ofChange markOnSpec)

/-- ITS FALSE NEIGHBOUR: 'it returns false'. Refute it at one input. -/
def markOnWrong : ChangeSpec := { name := "markOn", fn := fun _ => fun
  | [d1, d2] => { results := [.lit (.bool false)], args := [d1, d2] }
  | _ => none }
def MarkOnWrongFalsely : Prop := markOnRow.holds Try.pinned (OpenSpec.ofChange markOnWrong)

/- THE SECOND FORM. 'bulk': how many values and letters a reading holds, each counted each time it is reached (what is shared counts as often as it is met; a slice's spare places count too). A statement '..UptoSaid' is the law's where the arguments, and the package variables that the reading takes, are together of bulk at most 1048576: NARROWER than '..Said'. Prove '..Said' where nothing that the law and all that it calls make is longer than what came in: it says more and counts as full. Else prove '..UptoSaid'. A law counts once. -/
mutual
def uptoBulk {H : Type} : DataW H → Nat
  | .lit (.string bytes) => bytes.length + 1
  | .lit _ => 1
  | .nil => 1
  | .ptr d => uptoBulk d + 1
  | .slice elems spare => uptoBulkAll elems + uptoBulkAll spare + 1
  | .agg parts => uptoBulkAll parts + 1
  | .iface _ d => uptoBulk d + 1
  | .map entries => uptoBulkEntries entries + 1
  | .held _ => 1
def uptoBulkAll {H : Type} : List (DataW H) → Nat
  | [] => 0
  | d :: r => uptoBulk d + uptoBulkAll r
def uptoBulkEntries {H : Type} : List (Lit × DataW H) → Nat
  | [] => 0
  | x :: r => uptoBulkEntry x + uptoBulkEntries r
def uptoBulkEntry {H : Type} : Lit × DataW H → Nat
  | (.string bytes, d) => bytes.length + uptoBulk d + 1
  | (_, d) => uptoBulk d + 1
 end
def uptoSmall : (H : Type) → List (DataW H) → Bool := fun _ ds => decide (uptoBulkAll ds ≤ 1048576)
def OpenSpec.upto (s : _root_.Go.ChangeSpec) : _root_.Go.OpenSpec := { _root_.Go.OpenSpec.ofChange s with cond := some uptoSmall }

/-- 'tidewrightlaw06.MarkMeets', WHERE WHAT IT READS IS OF BULK AT MOST 1048576: true; the input reads as it did. -/
def markMeetsUptoRow : OpenClaim := { program := "ytmnbcofonhlplaa", sum := "cde3478d7349ec89c35fa89a57cd0553a1357e43adebe24b6b13e0e532aa14e3", func := "tidewright/tidewrightlaw06.MarkMeets", spec := "markMeets", unfollowed := true, recurses := true, apart := false, narrowed := true }
def MarkMeetsUptoSaid : Prop := markMeetsUptoRow.holds Try.pinned (OpenSpec.upto markMeetsSpec)

/-- 'tidewrightlaw06.MarkLeast', WHERE WHAT IT READS IS OF BULK AT MOST 1048576: true; the input reads as it did. -/
def markLeastUptoRow : OpenClaim := { program := "ytmnbcofonhlplaa", sum := "cde3478d7349ec89c35fa89a57cd0553a1357e43adebe24b6b13e0e532aa14e3", func := "tidewright/tidewrightlaw06.MarkLeast", spec := "markLeast", unfollowed := true, recurses := true, apart := false, narrowed := true }
def MarkLeastUptoSaid : Prop := markLeastUptoRow.holds Try.pinned (OpenSpec.upto markLeastSpec)

/-- 'tidewrightlaw06.MarkSorts', WHERE WHAT IT READS IS OF BULK AT MOST 1048576: true; the input reads as it did. -/
def markSortsUptoRow : OpenClaim := { program := "ytmnbcofonhlplaa", sum := "cde3478d7349ec89c35fa89a57cd0553a1357e43adebe24b6b13e0e532aa14e3", func := "tidewright/tidewrightlaw06.MarkSorts", spec := "markSorts", unfollowed := true, recurses := true, apart := false, narrowed := true }
def MarkSortsUptoSaid : Prop := markSortsUptoRow.holds Try.pinned (OpenSpec.upto markSortsSpec)

/-- 'tidewrightlaw06.MarkOn', WHERE WHAT IT READS IS OF BULK AT MOST 1048576: true; the input reads as it did. -/
def markOnUptoRow : OpenClaim := { program := "ytmnbcofonhlplaa", sum := "cde3478d7349ec89c35fa89a57cd0553a1357e43adebe24b6b13e0e532aa14e3", func := "tidewright/tidewrightlaw06.MarkOn", spec := "markOn", unfollowed := true, recurses := true, apart := false, narrowed := true }
def MarkOnUptoSaid : Prop := markOnUptoRow.holds Try.pinned (OpenSpec.upto markOnSpec)

end Rows
end Go.Proofs.Ytmnbcofonhlplaa
