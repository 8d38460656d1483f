/-
  Contracts of what the laws do with their arguments: the count of their size, the copies that they make.
-/
import Derived.Test.YthkjcljhfjaabaaGreatDoorFi
import Derived.Test.YthkjcljhfjaabaaGreatDoorRd4
import Derived.Test.YthkjcljhfjaabaaGreatDoorGn
namespace Go.Proofs.YthkjcljhfjaabaaGreatDoor
open Go.RowKit Sets

end Go.Proofs.YthkjcljhfjaabaaGreatDoor
