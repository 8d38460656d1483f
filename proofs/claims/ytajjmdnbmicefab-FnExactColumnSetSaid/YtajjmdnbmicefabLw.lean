/-
  Contracts of what the laws do with their arguments: the count of their size, the copies that they make.
-/
import Derived.Test.YtajjmdnbmicefabFi
import Derived.Test.YtajjmdnbmicefabRd4
import Derived.Test.YtajjmdnbmicefabGn
namespace Go.Proofs.Ytajjmdnbmicefab
open Go.RowKit Sets

end Go.Proofs.Ytajjmdnbmicefab
