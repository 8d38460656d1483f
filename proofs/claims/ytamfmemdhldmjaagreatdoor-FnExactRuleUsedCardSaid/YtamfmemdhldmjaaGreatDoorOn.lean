/-
  Two closed facts on the program.
-/
import Derived.Test.YtamfmemdhldmjaaGreatDoorRows
import Derived.ProofKit
import Derived.OpenShut
import Derived.ChangeOld
namespace Go.Proofs.YtamfmemdhldmjaaGreatDoor
theorem own : ownKnob Tryz.prog.godebug = none := by kernel_rfl
theorem laidOut : laidOutB Tryz.prog = true := by kernel_rfl
end Go.Proofs.YtamfmemdhldmjaaGreatDoor
