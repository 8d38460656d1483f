/-
  Contract of the laws' copies of columns; the walk of the exact law on the check of columns.
-/
import Derived.Test.YtppciomdbabepaaDoorCl
namespace Go.Proofs.YtppciomdbabepaaDoor
open Go.RowKit Sets

end Go.Proofs.YtppciomdbabepaaDoor
