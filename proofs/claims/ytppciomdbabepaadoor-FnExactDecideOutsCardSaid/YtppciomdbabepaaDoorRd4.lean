/-
  Contracts: equality of slices by the laws.
-/
import Derived.Test.YtppciomdbabepaaDoorRdM
import Derived.StillTailTactics
namespace Go.Proofs.YtppciomdbabepaaDoor
open Go.RowKit Sets

end Go.Proofs.YtppciomdbabepaaDoor
