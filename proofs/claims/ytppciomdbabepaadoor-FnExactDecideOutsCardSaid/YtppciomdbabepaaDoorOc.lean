/-
  An argument that is a column, or a text.
-/
import Derived.Test.YtppciomdbabepaaDoorRows
import Derived.Test.YtppciomdbabepaaDoorCl
import Derived.Test.YtppciomdbabepaaDoorOp
import Derived.Lib.SmallJoins
import Derived.ChangeMaps5
import Derived.RowKit
namespace Go.Proofs.YtppciomdbabepaaDoor
open Go.ChangeShapes Go.WideShapes Go.ChangeAt Go.RowKit Sets
open Go.ChangeMaps (open_string)

end Go.Proofs.YtppciomdbabepaaDoor
