/-
  Contracts of the functions that only read sets: both programs' checks, searches, sizes.
-/
import Derived.Test.YtppciomdbabepaaDoorProg
import Derived.Test.YtppciomdbabepaaDoorPureM
import Derived.WalkKit
import Derived.BigQuiet
import Derived.Deep.QuietTactic
import Derived.WalkLawsBesides
import Derived.WalkSpells
import Derived.Lib.Hide
import Derived.Outline
namespace Go.Proofs.YtppciomdbabepaaDoor
open Go.RowKit Sets

theorem below_drewN {B : Nat} {a w : World} (h : Below B a w) (n : Nat) : Below B a (w.drewN n) := ⟨h.os, h.tape, h.output, h.size, h.block⟩

end Go.Proofs.YtppciomdbabepaaDoor
