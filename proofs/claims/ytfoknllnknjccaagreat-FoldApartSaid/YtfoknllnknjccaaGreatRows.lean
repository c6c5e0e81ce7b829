/-
  No cell of these rows narrows 'for every input' (looked for: loops, veiled, ifaces, maps, wideKeys, modest, calm, conditions, laid).
  DERIVED. THE GIVEN ROWS OF THIS SEAT. 2 by the template 'for every input the law returns true; each argument reads behind the call as it read before'; 0 by the template 'total and deterministic' (their statements: YtfoknllnknjccaaGreatTotals.lean).
  GIVEN WITH THE SEED: the statements are not yours to turn. If you find one false, say at which input.
  Laid BY PROGRAM, IN A SANDBOX (cutbox-rows.mjs): the forced cells as the released guide's own fill.sh prints them over the translation 2fdd5ed135dfcc00… (all of the seat's roots in one cut). By AI agents, Wed Nov 11 2026. No macro, syntax, notation, axiom, sorry.
-/
import Derived.Test.YtfoknllnknjccaaGreatChecked
import GoSem.Claim
import GoSem.ClaimJoined
import GoSem.ClaimMapViews
import Derived.JoinedTies
import Derived.KernelRfl
namespace Go.Proofs.YtfoknllnknjccaaGreat
/- THE CELL 'sum', in the pinned program and in every row, IS THE sha256 OF THE DUMP (.gsa) THAT YtfoknllnknjccaaGreatProg.lean LOADS. Nothing in Lean hashes anything: it is a label: what it is worth is what the hold of that sum in a sandbox is worth. -/
noncomputable def Tryz.pinned : Pinned := { name := "ytfoknllnknjccaagreat", sum := "2fdd5ed135dfcc004fe39f78c04b86a06c1abddb66be04d9a4a890f1171999fc", checked := Tryz.checked }
namespace Rows
def none {H : Type} : Left H := { results := [], args := [] }

/-- 'tidewrightlaw05.FoldPlays': WHATEVER THE INPUT: true; the input reads as it did. -/
def foldPlaysSpec : ChangeSpec := { name := "foldPlays", fn := fun _ => fun
  | [d1, d2, d3] => { results := [.lit (.bool true)], args := [d1, d2, d3] }
  | _ => none }
def foldPlaysRow : OpenClaim := { program := "ytfoknllnknjccaagreat", sum := "2fdd5ed135dfcc004fe39f78c04b86a06c1abddb66be04d9a4a890f1171999fc", func := "tidewright/tidewrightlaw05.FoldPlays", spec := "foldPlays", inPlace := ["internal/bytealg.abigen_runtime_cmpstring", "slices.overlaps[tidewright/api.Item]"], unfollowed := true, recurses := true, plainKeys := false, apart := false }
def FoldPlaysSaid : Prop := foldPlaysRow.holds Tryz.pinned (OpenSpec.ofChange foldPlaysSpec)

/-- ITS FALSE NEIGHBOUR: 'it returns false'. Refute it at one input. -/
def foldPlaysWrong : ChangeSpec := { name := "foldPlays", fn := fun _ => fun
  | [d1, d2, d3] => { results := [.lit (.bool false)], args := [d1, d2, d3] }
  | _ => none }
def FoldPlaysWrongFalsely : Prop := foldPlaysRow.holds Tryz.pinned (OpenSpec.ofChange foldPlaysWrong)

/-- 'tidewrightlaw05.FoldApart': WHATEVER THE INPUT: true; the input reads as it did. -/
def foldApartSpec : ChangeSpec := { name := "foldApart", fn := fun _ => fun
  | [d1, d2, d3, d4, d5] => { results := [.lit (.bool true)], args := [d1, d2, d3, d4, d5] }
  | _ => none }
def foldApartRow : OpenClaim := { program := "ytfoknllnknjccaagreat", sum := "2fdd5ed135dfcc004fe39f78c04b86a06c1abddb66be04d9a4a890f1171999fc", func := "tidewright/tidewrightlaw05.FoldApart", spec := "foldApart", inPlace := ["internal/bytealg.abigen_runtime_cmpstring", "slices.overlaps[tidewright/api.Item]"], unfollowed := true, recurses := true, plainKeys := false, apart := false }
def FoldApartSaid : Prop := foldApartRow.holds Tryz.pinned (OpenSpec.ofChange foldApartSpec)

/-- ITS FALSE NEIGHBOUR: 'it returns false'. Refute it at one input. -/
def foldApartWrong : ChangeSpec := { name := "foldApart", fn := fun _ => fun
  | [d1, d2, d3, d4, d5] => { results := [.lit (.bool false)], args := [d1, d2, d3, d4, d5] }
  | _ => none }
def FoldApartWrongFalsely : Prop := foldApartRow.holds Tryz.pinned (OpenSpec.ofChange foldApartWrong)

/- THE SECOND FORM. 'bulk': how many values and letters a reading holds, each counted each time it is reached (what is shared counts as often as it is met; a slice's spare places count too). A statement '..UptoSaid' is the law's where the arguments, and the package variables that the reading takes, are together of bulk at most 1048576: NARROWER than '..Said'. Prove '..Said' where nothing that the law and all that it calls make is longer than what came in: it says more and counts as full. Else prove '..UptoSaid'. A law counts once. -/
mutual
def uptoBulk {H : Type} : DataW H → Nat
  | .lit (.string bytes) => bytes.length + 1
  | .lit _ => 1
  | .nil => 1
  | .ptr d => uptoBulk d + 1
  | .slice elems spare => uptoBulkAll elems + uptoBulkAll spare + 1
  | .agg parts => uptoBulkAll parts + 1
  | .iface _ d => uptoBulk d + 1
  | .map entries => uptoBulkEntries entries + 1
  | .held _ => 1
def uptoBulkAll {H : Type} : List (DataW H) → Nat
  | [] => 0
  | d :: r => uptoBulk d + uptoBulkAll r
def uptoBulkEntries {H : Type} : List (Lit × DataW H) → Nat
  | [] => 0
  | x :: r => uptoBulkEntry x + uptoBulkEntries r
def uptoBulkEntry {H : Type} : Lit × DataW H → Nat
  | (.string bytes, d) => bytes.length + uptoBulk d + 1
  | (_, d) => uptoBulk d + 1
 end
def uptoSmall : (H : Type) → List (DataW H) → Bool := fun _ ds => decide (uptoBulkAll ds ≤ 1048576)
def OpenSpec.upto (s : _root_.Go.ChangeSpec) : _root_.Go.OpenSpec := { _root_.Go.OpenSpec.ofChange s with cond := some uptoSmall }

/-- 'tidewrightlaw05.FoldPlays', WHERE WHAT IT READS IS OF BULK AT MOST 1048576: true; the input reads as it did. -/
def foldPlaysUptoRow : OpenClaim := { program := "ytfoknllnknjccaagreat", sum := "2fdd5ed135dfcc004fe39f78c04b86a06c1abddb66be04d9a4a890f1171999fc", func := "tidewright/tidewrightlaw05.FoldPlays", spec := "foldPlays", inPlace := ["internal/bytealg.abigen_runtime_cmpstring", "slices.overlaps[tidewright/api.Item]"], unfollowed := true, recurses := true, plainKeys := false, apart := false, narrowed := true }
def FoldPlaysUptoSaid : Prop := foldPlaysUptoRow.holds Tryz.pinned (OpenSpec.upto foldPlaysSpec)

/-- 'tidewrightlaw05.FoldApart', WHERE WHAT IT READS IS OF BULK AT MOST 1048576: true; the input reads as it did. -/
def foldApartUptoRow : OpenClaim := { program := "ytfoknllnknjccaagreat", sum := "2fdd5ed135dfcc004fe39f78c04b86a06c1abddb66be04d9a4a890f1171999fc", func := "tidewright/tidewrightlaw05.FoldApart", spec := "foldApart", inPlace := ["internal/bytealg.abigen_runtime_cmpstring", "slices.overlaps[tidewright/api.Item]"], unfollowed := true, recurses := true, plainKeys := false, apart := false, narrowed := true }
def FoldApartUptoSaid : Prop := foldApartUptoRow.holds Tryz.pinned (OpenSpec.upto foldApartSpec)

end Rows
end Go.Proofs.YtfoknllnknjccaaGreat
