/-
  Contracts of the least numbers of sets, in both programs.
-/
import Derived.Test.YtiaoenkgapfgaaaDoorSz
namespace Go.Proofs.YtiaoenkgapfgaaaDoor
open Go.RowKit Sets

def firstB (xs : List Sp) : Bool := validB xs && decide (0 < xs.length)
def firstV (xs : List Sp) : Int := if firstB xs = true then lo xs 0 else 0

end Go.Proofs.YtiaoenkgapfgaaaDoor
