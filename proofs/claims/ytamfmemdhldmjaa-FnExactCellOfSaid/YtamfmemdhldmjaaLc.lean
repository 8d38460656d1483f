/-
  Contract of the laws' copies of columns; the walk of the exact law on the check of columns.
-/
import Derived.Test.YtamfmemdhldmjaaCl
namespace Go.Proofs.Ytamfmemdhldmjaa
open Go.RowKit Sets

set_option maxRecDepth 100000 in
theorem toColumn_any (L : Bool) (a b : Int) (w : World) : Calls Try.prog 83 #[colV L a b] w fun e w' => e = .returned (colV L a b) ∧ Below w.heap.size w w' := by
  go_enter Try.func83, Try.ntmps83
  go_wp2
  exact bodyPost_ret (v := colV L a b) (by simp [results, Try.results83, go_sem]) rfl ⟨rfl, (((Below.refl _ w).alloc (Nat.le_refl _) _).alloc (by simp) _).alloc (by simp; omega) _⟩

end Go.Proofs.Ytamfmemdhldmjaa
