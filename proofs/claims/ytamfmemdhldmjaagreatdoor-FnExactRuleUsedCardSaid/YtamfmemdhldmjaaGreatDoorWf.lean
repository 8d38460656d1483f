/-
  DecideOuts: the model.
-/
import Derived.Test.YtamfmemdhldmjaaGreatDoorWaM
namespace Go.Proofs.YtamfmemdhldmjaaGreatDoor
open Go.RowKit Sets

def okO (ns : List Int) (k : Nat) : Bool := decide (0 ≤ ns.getD k 0) && decide (ns.getD k 0 ≤ 99)
theorem outB_eq (ns : List Int) : outB ns = (decide (ns.length ≤ 12) && (List.range ns.length).all (okO ns)) := rfl

end Go.Proofs.YtamfmemdhldmjaaGreatDoor
