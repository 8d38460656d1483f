/-
  An argument that is a slice of spans: it reads as a list of pairs of numbers.
-/
import Derived.Test.YtppciomdbabepaaDoorRows
import Derived.Test.YtppciomdbabepaaDoorOn
import Derived.Test.YtppciomdbabepaaDoorPureM
import Derived.ProofKit
import Derived.OpenShut
import Derived.ChangeOld
import Derived.Deep.SlicePairs
namespace Go.Proofs.YtppciomdbabepaaDoor
open Go.ChangeShapes Go.WideShapes Go.ChangeAt Go.RowKit Sets

theorem cellsInt : Tryd.prog.cellsOf 3 = 1 := by kernel_rfl

end Go.Proofs.YtppciomdbabepaaDoor
