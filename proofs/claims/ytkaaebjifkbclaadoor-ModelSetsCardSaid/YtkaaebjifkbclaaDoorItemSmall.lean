/-
  Contracts of item.isCount, item.Size, ambryref08.Size, item.isRight, ambryref08.Right and item.marks at this program. Conditions: lengths below 2^63.
-/
import Derived.Test.YtkaaebjifkbclaaDoorItemKey
namespace Go.Proofs.YtkaaebjifkbclaaDoor
open Go Go.RowKit Go.Lib

def It.cells (x : It) : List Value := [.string x.key, .int .u32 x.flags, .string x.val, .int .i64 x.exp, .int .u64 x.cas, .int .i64 x.last, .bool x.stale, .bool x.won]
def It.v (x : It) : Value := .agg x.cells.toArray

def cntB (n : Int) : Bool := decide (0 ≤ n) && decide (n ≤ 65536)
def sizeZ (k v : Int) : Int := if cntB k = true ∧ cntB v = true then 40 + k + v else -1

end Go.Proofs.YtkaaebjifkbclaaDoor
