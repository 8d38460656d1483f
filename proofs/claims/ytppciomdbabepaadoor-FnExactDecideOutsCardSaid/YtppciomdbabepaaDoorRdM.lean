/-
  Contracts of the functions that only read sets: searches, equality, sizes.
-/
import Derived.Test.YtppciomdbabepaaDoorRd
import Derived.Test.YtppciomdbabepaaDoorIv
import Derived.Test.YtppciomdbabepaaDoorEq
namespace Go.Proofs.YtppciomdbabepaaDoor
open Go.RowKit Sets

/-- What SetHas answers. -/
def hasB (xs : List Sp) (n : Int) : Bool := validB xs && haveB xs n

end Go.Proofs.YtppciomdbabepaaDoor

namespace Go.Proofs.YtppciomdbabepaaDoor
open Go.RowKit Sets

end Go.Proofs.YtppciomdbabepaaDoor
