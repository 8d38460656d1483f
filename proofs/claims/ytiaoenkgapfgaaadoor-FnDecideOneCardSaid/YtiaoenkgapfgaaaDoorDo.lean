/-
  Contracts of the draws of a list of spans, and of a set and a number.
-/
import Derived.Test.YtiaoenkgapfgaaaDoorDs
namespace Go.Proofs.YtiaoenkgapfgaaaDoor
open Go.RowKit Sets

def DrawN (w : World) (e : Ending) (w' : World) : Prop := ∃ (v : Value) (xs : List Sp) (m : Int), e = .returned (.tuple #[v, .int .i64 m]) ∧ OwnS w' w.heap.size v xs ∧ Fits xs ∧ xs.length ≤ 300 ∧ -200 ≤ m ∧ m ≤ 200 ∧ Below w.heap.size w w'
end Go.Proofs.YtiaoenkgapfgaaaDoor
