/-
  Contracts of what the laws do with their arguments: the count of their size, the copies that they make.
-/
import Derived.Test.YtppciomdbabepaaDoorFi
import Derived.Test.YtppciomdbabepaaDoorRd4
import Derived.Test.YtppciomdbabepaaDoorGn
namespace Go.Proofs.YtppciomdbabepaaDoor
open Go.RowKit Sets

end Go.Proofs.YtppciomdbabepaaDoor
