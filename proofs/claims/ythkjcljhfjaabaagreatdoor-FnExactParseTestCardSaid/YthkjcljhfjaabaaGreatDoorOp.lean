/-
  An argument that is a slice of spans: it reads as a list of pairs of numbers.
-/
import Derived.Test.YthkjcljhfjaabaaGreatDoorRows
import Derived.Test.YthkjcljhfjaabaaGreatDoorOn
import Derived.Test.YthkjcljhfjaabaaGreatDoorPureM
import Derived.ProofKit
import Derived.OpenShut
import Derived.ChangeOld
import Derived.Deep.SlicePairs
namespace Go.Proofs.YthkjcljhfjaabaaGreatDoor
open Go.ChangeShapes Go.WideShapes Go.ChangeAt Go.RowKit Sets

theorem cellsInt : Tryz.prog.cellsOf 3 = 1 := by kernel_rfl

end Go.Proofs.YthkjcljhfjaabaaGreatDoor
