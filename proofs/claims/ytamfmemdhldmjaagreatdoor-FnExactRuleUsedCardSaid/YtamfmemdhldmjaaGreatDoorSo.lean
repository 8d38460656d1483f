/-
  Contract of the model's set of the numbers of spans.
-/
import Derived.Test.YtamfmemdhldmjaaGreatDoorJoM
namespace Go.Proofs.YtamfmemdhldmjaaGreatDoor
open Go.RowKit Sets

def LimAll (xs : List Sp) : Prop := ∀ j, j < xs.length → limB (lo xs j) (hi xs j) = true
instance (xs : List Sp) : Decidable (LimAll xs) := by unfold LimAll; infer_instance
def setOfB (xs : List Sp) : Bool := decide (xs.length ≤ 100) && decide (LimAll xs) && decide ((fromF (flag xs) 199).length ≤ 12)
def setOfV (xs : List Sp) : List Sp := if setOfB xs = true then fromF (flag xs) 199 else []
theorem setOf_long {xs : List Sp} (h : 100 < xs.length) : setOfB xs = false := by unfold setOfB; rw [decide_eq_false (by omega)]; rfl
theorem setOf_out {xs : List Sp} {j : Nat} (hj : j < xs.length) (h : limB (lo xs j) (hi xs j) = false) : setOfB xs = false := by
  unfold setOfB
  rw [decide_eq_false (p := LimAll xs) (fun hl => by rw [hl j hj] at h; cases h)]; simp
theorem setOf_in {xs : List Sp} (h1 : xs.length ≤ 100) (h2 : LimAll xs) : setOfB xs = decide ((fromF (flag xs) 199).length ≤ 12) := by
  unfold setOfB
  rw [decide_eq_true h1, decide_eq_true h2]; simp
theorem setOfV_no {xs : List Sp} (h : setOfB xs = false) : setOfV xs = [] := by unfold setOfV; rw [h]; rfl
theorem setOfV_yes {xs : List Sp} (h : setOfB xs = true) : setOfV xs = fromF (flag xs) 199 := by unfold setOfV; rw [if_pos h]

end Go.Proofs.YtamfmemdhldmjaaGreatDoor
