/-
  Contracts of the functions that only read sets: equality by the model and the laws, sizes, first numbers.
-/
import Derived.Test.YthdmoaimgbffmaaRd2
namespace Go.Proofs.Ythdmoaimgbffmaa
open Go.RowKit Sets

end Go.Proofs.Ythdmoaimgbffmaa
