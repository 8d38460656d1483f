/-
  Two closed facts on the program.
-/
import Derived.Test.YtamfmemdhldmjaaRows
import Derived.ProofKit
import Derived.OpenShut
import Derived.ChangeOld
namespace Go.Proofs.Ytamfmemdhldmjaa
theorem own : ownKnob Try.prog.godebug = none := by kernel_rfl
theorem laidOut : laidOutB Try.prog = true := by kernel_rfl
end Go.Proofs.Ytamfmemdhldmjaa
