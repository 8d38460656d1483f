/-
  Contract of the laws' copies of columns; the walk of the exact law on the check of columns.
-/
import Derived.Test.YtiaoenkgapfgaaaDoorCl
namespace Go.Proofs.YtiaoenkgapfgaaaDoor
open Go.RowKit Sets

set_option maxRecDepth 100000 in
theorem toColumn_any (L : Bool) (a b : Int) (w : World) : Calls Tryd.prog 52 #[colV L a b] w fun e w' => e = .returned (colV L a b) ∧ Below w.heap.size w w' := by
  go_enter Tryd.func52, Tryd.ntmps52
  go_wp2
  exact bodyPost_ret (v := colV L a b) (by simp [results, Tryd.results52, go_sem]) rfl ⟨rfl, (((Below.refl _ w).alloc (Nat.le_refl _) _).alloc (by simp) _).alloc (by simp; omega) _⟩

end Go.Proofs.YtiaoenkgapfgaaaDoor
