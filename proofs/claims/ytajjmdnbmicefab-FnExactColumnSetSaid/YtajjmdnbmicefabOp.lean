/-
  An argument that is a slice of spans: it reads as a list of pairs of numbers.
-/
import Derived.Test.YtajjmdnbmicefabRows
import Derived.Test.YtajjmdnbmicefabWords
import Derived.ProofKit
import Derived.OpenShut
import Derived.ChangeOld
import Derived.Deep.SlicePairs
namespace Go.Proofs.Ytajjmdnbmicefab
open Go.ChangeShapes Go.WideShapes Go.ChangeAt Go.RowKit Sets

theorem own : ownKnob Try.prog.godebug = none := by kernel_rfl
theorem laidOut : laidOutB Try.prog = true := by kernel_rfl
theorem cellsInt : Try.prog.cellsOf 3 = 1 := by kernel_rfl

end Go.Proofs.Ytajjmdnbmicefab
