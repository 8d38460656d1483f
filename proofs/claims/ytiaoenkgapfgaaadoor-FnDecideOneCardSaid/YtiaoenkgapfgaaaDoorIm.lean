/-
  Contracts of the program's meet and difference of sets.
-/
import Derived.Test.YtiaoenkgapfgaaaDoorMe
import Derived.Test.YtiaoenkgapfgaaaDoorOt
namespace Go.Proofs.YtiaoenkgapfgaaaDoor
open Go.RowKit Sets

def bothB (xs ys : List Sp) : Bool := validB xs && validB ys
def meetV (xs ys : List Sp) : List Sp := if bothB xs ys = true then meetP xs ys else []
def minusB (xs ys : List Sp) : Bool := bothB xs ys && decide ((minusP xs ys).length ≤ 12)
def minusV (xs ys : List Sp) : List Sp := if minusB xs ys = true then minusP xs ys else []

def OwnRes (base : Nat) (xs : List Sp) (w : World) (e : Ending) (w' : World) : Prop := ∃ v, e = .returned v ∧ OwnS w' base v xs ∧ Fits xs ∧ Below w.heap.size w w'
def OwnRes2 (base : Nat) (xs : List Sp) (ok : Bool) (w : World) (e : Ending) (w' : World) : Prop := ∃ v, e = .returned (.tuple #[v, .bool ok]) ∧ OwnS w' base v xs ∧ Fits xs ∧ Below w.heap.size w w'

theorem fits_nil : Fits [] := fun x hx => by cases hx

theorem meetV_len (xs ys : List Sp) : (meetV xs ys).length ≤ 65536 := by
  unfold meetV
  split
  · rename_i h
    unfold bothB at h
    rw [Bool.and_eq_true] at h
    have := valid_len h.1; have := valid_len h.2; have := meetP_len xs ys
    omega
  · simp
theorem minusV_len (xs ys : List Sp) : (minusV xs ys).length ≤ 65536 := by
  unfold minusV
  split
  · rename_i h
    unfold minusB at h
    rw [Bool.and_eq_true] at h
    have := of_decide_eq_true h.2
    omega
  · simp
end Go.Proofs.YtiaoenkgapfgaaaDoor
