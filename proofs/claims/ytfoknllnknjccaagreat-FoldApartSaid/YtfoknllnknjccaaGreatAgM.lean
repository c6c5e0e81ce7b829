/-
  Plain facts: what aggregates come to.
-/
import Derived.Test.YtfoknllnknjccaaGreatBasA
namespace Go.Proofs.YtfoknllnknjccaaGreat
open Go.RowKit

/-- A value, and how often it comes. -/
abbrev Tk := Val × Int
def nul (x : Val) : Bool := decide (x.1 = 0)
def numV (n : Int) : Val := if validV 1 n ⟨#[]⟩ = true then (1, n, ⟨#[]⟩) else v0
def cntStep (t : Int) (x : Tk) : Int := wrap64 (t + x.2)
def valStep (t : Int) (x : Tk) : Int := if nul x.1 = true then t else wrap64 (t + x.2)
def extStep (sg : Int) (f : Val) (x : Tk) : Val := if nul x.1 = false ∧ (nul f = true ∨ cmpVal x.1 f = sg) then x.1 else f
abbrev S3 := Int × Int × Int
def smStep (s : S3) (x : Tk) : S3 := if x.1.1 = 1 then (wrap64 (s.1 + wrap64 (wrap64 (x.1.2.1.tdiv 1000000000) * x.2)), wrap64 (s.2.1 + wrap64 (x.1.2.1.tmod 1000000000 * x.2)), wrap64 (s.2.2 + x.2)) else s
def sameV (x y : Val) : Bool := decide (x.1 = y.1) && (decide (x.2.1 = y.2.1) && (x.2.2.data.toList == y.2.2.data.toList))
def seenStep (l : List Val) (x : Tk) : List Val := if nul x.1 = true ∨ l.any (sameV x.1) = true then l else l ++ [x.1]
def smTell (s : S3) : Val :=
  let hi := wrap64 (s.1 + wrap64 (s.2.1.tdiv 1000000000))
  if s.2.2 = 0 ∨ 2000000 < max hi (wrap64 (-hi)) then v0 else numV (wrap64 (wrap64 (hi * 1000000000) + s.2.1.tmod 1000000000))
def downI (a b : Int) : Int := if a.tmod b < 0 then wrap64 (wrap64 (a.tdiv b) - 1) else wrap64 (a.tdiv b)
def mnTell (s : S3) : Val := if nul (smTell s) = true then smTell s else numV (downI (smTell s).2.1 s.2.2)
/-- What an aggregate of a kind tells of what it took. -/
def tellK (k : Int) (l : List Tk) : Val :=
  if k = 2 then numV (l.foldl valStep 0)
  else if k = 3 then smTell (l.foldl smStep (0, 0, 0))
  else if k = 4 then l.foldl (extStep (-1)) v0
  else if k = 5 then l.foldl (extStep 1) v0
  else if k = 6 then mnTell (l.foldl smStep (0, 0, 0))
  else if k = 7 then numV (l.foldl seenStep []).length
  else numV (l.foldl cntStep 0)
def valA (x : Val) : Value := .agg #[.int .i64 x.1, .int .i64 x.2.1, .string x.2.2]
def objV (x : Val) : Obj := .cells #[.int .i64 x.1, .int .i64 x.2.1, .string x.2.2] 55
end Go.Proofs.YtfoknllnknjccaaGreat
