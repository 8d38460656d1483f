/-
  Rows of spans that a call makes and appends to.
-/
import Derived.Test.YtppciomdbabepaaDoorGn
import Derived.Maps.AppendAt
namespace Go.Proofs.YtppciomdbabepaaDoor
open Go.RowKit Sets

/-- The cells of a list of spans. -/
def cellsOf : List Sp → List Value
  | [] => []
  | x :: xs => .int .i64 x.1 :: .int .i64 x.2 :: cellsOf xs
theorem cellsOf_append (xs ys : List Sp) : cellsOf (xs ++ ys) = cellsOf xs ++ cellsOf ys := by
  induction xs with
  | nil => rfl
  | cons x xs ih => simp [cellsOf, ih]
theorem cellsOf_length (xs : List Sp) : (cellsOf xs).length = xs.length * 2 := by
  induction xs with
  | nil => rfl
  | cons x xs ih => simp [cellsOf, ih]; omega
theorem cellsOf_at (xs : List Sp) : ∀ i, i < xs.length → (cellsOf xs)[i * 2]? = some (.int .i64 (lo xs i)) ∧ (cellsOf xs)[i * 2 + 1]? = some (.int .i64 (hi xs i)) := by
  induction xs with
  | nil => intro i hi; simp at hi
  | cons x xs ih =>
    intro i hi
    cases i with
    | zero => exact ⟨rfl, rfl⟩
    | succ i =>
      have := ih i (by simpa using hi)
      rw [show (i + 1) * 2 = i * 2 + 1 + 1 by omega]
      simpa [cellsOf, lo, YtppciomdbabepaaDoor.hi] using this

def lenV : Value → Nat | .slice _ n _ => n | _ => 0
end Go.Proofs.YtppciomdbabepaaDoor
