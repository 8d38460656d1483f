/-
  Contract of the draw of a text of a column.
-/
import Derived.Test.YthkjcljhfjaabaaDoorDf
namespace Go.Proofs.YthkjcljhfjaabaaDoor
open Go.RowKit Go.Sort Sets

end Go.Proofs.YthkjcljhfjaabaaDoor
