/-
  Contracts of the texts of columns of both programs.
-/
import Derived.Test.YtamfmemdhldmjaaGreatDoorTcM
import Derived.Test.YtamfmemdhldmjaaGreatDoorTeM
import Derived.Test.YtamfmemdhldmjaaGreatDoorTpM
import Derived.Lib.QuietBelow
namespace Go.Proofs.YtamfmemdhldmjaaGreatDoor
open Go.RowKit Go.Sort Sets

theorem ret_dots {s1 s2 : ByteArray} {x y : Bs} (h1 : s1.data.toList = x) (h2 : s2.data.toList = y) : Ending.returned (.string (s1 ++ ⟨#[46, 46]⟩ ++ s2)) = .returned (strV (x ++ (dots ++ y))) :=
  ret_str (by subst h1 h2; simp [dots])
theorem txt_size {s : ByteArray} {l : Bs} (h : s.data.toList = l) : s.size = l.length := by rw [Lib.size_eq, h]

end Go.Proofs.YtamfmemdhldmjaaGreatDoor
