/-
  Contracts of the model's texts of numbers and values.
-/
import Derived.Test.YtamfmemdhldmjaaGreatDoorCl
import Derived.Test.YtamfmemdhldmjaaGreatDoorSh
import Derived.Laws.IdiomStrings
namespace Go.Proofs.YtamfmemdhldmjaaGreatDoor
open Go.RowKit Sets

/-- The value of a text. -/
abbrev strV (l : Bs) : Value := .string ⟨l.toArray⟩

theorem str_eq {s : ByteArray} {l : Bs} (h : s.data.toList = l) : Value.string s = strV l := by
  obtain ⟨⟨a⟩⟩ := s
  simp only at h
  rw [h]
theorem ret_str {s : ByteArray} {l : Bs} (h : s.data.toList = l) : Ending.returned (.string s) = .returned (strV l) := congrArg _ (str_eq h)

theorem decDigits_le (n : Nat) : (Lib.decDigits n).length ≤ n + 1 := by
  induction n using Nat.strongRecOn with
  | _ n ih =>
    by_cases h : n < 10
    · rw [Lib.decDigits_one h]; simp
    · rw [Lib.decDigits, dif_neg h, List.length_append]
      have := ih (n / 10) (by omega)
      simp; omega

end Go.Proofs.YtamfmemdhldmjaaGreatDoor
