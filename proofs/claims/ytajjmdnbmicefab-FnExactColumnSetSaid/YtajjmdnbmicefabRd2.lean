/-
  Contracts of the functions that only read sets: searches, equality, sizes.
-/
import Derived.Test.YtajjmdnbmicefabRd
import Derived.Test.YtajjmdnbmicefabIv
import Derived.Test.YtajjmdnbmicefabEq
namespace Go.Proofs.Ytajjmdnbmicefab
open Go.RowKit Sets

/-- What SetHas answers. -/
def hasB (xs : List Sp) (n : Int) : Bool := validB xs && haveB xs n

end Go.Proofs.Ytajjmdnbmicefab
