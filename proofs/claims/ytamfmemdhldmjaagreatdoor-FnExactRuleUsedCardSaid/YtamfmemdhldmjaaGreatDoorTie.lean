/-
  DERIVED. GIVEN WITH THE SEED: THE PROGRAM's TIES (one call each: nine closed facts by the kernel) AND EACH ROW's TIE, after the 31st guide's Derived/Test/Toyas{Tie, Card}.lean. No idea stands in it: it is a product of the set-up. Laid BY PROGRAM, IN A SANDBOX (cutbox-door.mjs). By AI agents, Wed Nov 11 2026. No macro, syntax, notation, axiom, sorry.
-/
import Derived.Test.YtamfmemdhldmjaaGreatDoorRows
import Derived.LaidByTextLater
import Derived.SevenTiedAt
import Derived.LaidSub
import Derived.LaidOnce
namespace Go.Proofs.YtamfmemdhldmjaaGreatDoor
open Go
set_option maxRecDepth 100000
theorem seatTie1 : Tryz.prog.laidByTextLater [("loop.example/decisiontables/impl.errNone", Rows.laid_loop_example_decisiontables_impl_errNone), ("loop.example/decisiontables/impl.errConflict", Rows.laid_loop_example_decisiontables_impl_errConflict), ("loop.example/decisiontables/impl.errInvalid", Rows.laid_loop_example_decisiontables_impl_errInvalid)] [.sentinel, .sentinel, .sentinel] true :=
  Program.laidByTextLater_by_one 66 8 2 (by kernel_rfl) (by kernel_rfl) (by kernel_rfl) (by kernel_rfl) (by kernel_rfl) (by kernel_rfl) (fun _ _ => by kernel_rfl)
theorem noOwnUnsafe : Tryz.pinned.checked.prog.headLifts.contains "ownunsafe" = false := by kernel_rfl
theorem tie : Tryz.prog.laidByTextLater [("loop.example/decisiontables/impl.errNone", Rows.laid_loop_example_decisiontables_impl_errNone), ("loop.example/decisiontables/impl.errConflict", Rows.laid_loop_example_decisiontables_impl_errConflict), ("loop.example/decisiontables/impl.errInvalid", Rows.laid_loop_example_decisiontables_impl_errInvalid)] [.sentinel, .sentinel, .sentinel] true :=
  Program.laidByTextLater.sub seatTie1 ["loop.example/decisiontables/impl.errNone", "loop.example/decisiontables/impl.errConflict", "loop.example/decisiontables/impl.errInvalid"] (by kernel_rfl) (by kernel_rfl)
theorem fnExactDecide_row_tie : Rows.fnExactDecideRow.laidByTextAt .later Tryz.pinned [.sentinel, .sentinel, .sentinel] true :=
  OpenClaim.laidByTextAt_later rfl rfl tie noOwnUnsafe
theorem fnExactRuleUsed_row_tie : Rows.fnExactRuleUsedRow.laidByTextAt .later Tryz.pinned [.sentinel, .sentinel, .sentinel] true :=
  OpenClaim.laidByTextAt_later rfl rfl tie noOwnUnsafe
theorem fnExactDecideUpto_row_tie : Rows.fnExactDecideUptoRow.laidByTextAt .later Tryz.pinned [.sentinel, .sentinel, .sentinel] true :=
  OpenClaim.laidByTextAt_later rfl rfl tie noOwnUnsafe
theorem fnExactRuleUsedUpto_row_tie : Rows.fnExactRuleUsedUptoRow.laidByTextAt .later Tryz.pinned [.sentinel, .sentinel, .sentinel] true :=
  OpenClaim.laidByTextAt_later rfl rfl tie noOwnUnsafe
end Go.Proofs.YtamfmemdhldmjaaGreatDoor
