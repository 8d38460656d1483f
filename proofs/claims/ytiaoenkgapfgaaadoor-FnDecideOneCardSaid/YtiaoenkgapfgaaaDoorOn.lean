/-
  Two closed facts on the program.
-/
import Derived.Test.YtiaoenkgapfgaaaDoorRows
import Derived.ProofKit
import Derived.OpenShut
import Derived.ChangeOld
namespace Go.Proofs.YtiaoenkgapfgaaaDoor
theorem own : ownKnob Tryd.prog.godebug = none := by kernel_rfl
theorem laidOut : laidOutB Tryd.prog = true := by kernel_rfl
end Go.Proofs.YtiaoenkgapfgaaaDoor
