/-
  Contract of the laws' copies of columns; the walk of the exact law on the check of columns.
-/
import Derived.Test.YtamfmemdhldmjaaGreatDoorCl
namespace Go.Proofs.YtamfmemdhldmjaaGreatDoor
open Go.RowKit Sets

set_option maxRecDepth 100000 in
theorem toColumn_any (L : Bool) (a b : Int) (w : World) : Calls Tryz.prog 41 #[colV L a b] w fun e w' => e = .returned (colV L a b) ∧ Below w.heap.size w w' := by
  go_enter Tryz.func41, Tryz.ntmps41
  go_wp2
  exact bodyPost_ret (v := colV L a b) (by simp [results, Tryz.results41, go_sem]) rfl ⟨rfl, (((Below.refl _ w).alloc (Nat.le_refl _) _).alloc (by simp) _).alloc (by simp; omega) _⟩

end Go.Proofs.YtamfmemdhldmjaaGreatDoor
