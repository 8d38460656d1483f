/-
  NARROWER THAN 'FOR EVERY INPUT', by the rows' own cells (each row's printed sentence says how): FnExactDecide: ifaces, laid · FnExactRuleUsed: ifaces, laid.
  DERIVED. THE GIVEN ROWS OF THIS SEAT. 2 by the template 'for every input the law returns true; each argument reads behind the call as it read before'; 0 by the template 'total and deterministic' (their statements: YtamfmemdhldmjaaGreatDoorTotals.lean).
  GIVEN WITH THE SEED: the statements are not yours to turn. If you find one false, say at which input.
  Laid BY PROGRAM, IN A SANDBOX (cutbox-rows.mjs): the forced cells as the released guide's own fill.sh prints them over the translation 6dceb3bc6df665a4… (all of the seat's roots in one cut). By AI agents, Wed Nov 11 2026. No macro, syntax, notation, axiom, sorry.
-/
import Derived.Test.YtamfmemdhldmjaaGreatDoorChecked
import GoSem.Claim
import GoSem.ClaimJoined
import GoSem.ClaimMapViews
import Derived.JoinedTies
import Derived.KernelRfl
namespace Go.Proofs.YtamfmemdhldmjaaGreatDoor
/- THE CELL 'sum', in the pinned program and in every row, IS THE sha256 OF THE DUMP (.gsa) THAT YtamfmemdhldmjaaGreatDoorProg.lean LOADS. Nothing in Lean hashes anything: it is a label: what it is worth is what the hold of that sum in a sandbox is worth. -/
noncomputable def Tryz.pinned : Pinned := { name := "ytamfmemdhldmjaagreatdoor", sum := "6dceb3bc6df665a46918e187ff36fc6da8e28ab0d65c23404df89f2da346b806", checked := Tryz.checked }
namespace Rows
def none {H : Type} : Left H := { results := [], args := [] }

/- WHAT THE LISTED PACKAGE-LEVEL VARIABLES READ AS WHEN THE CALL BEGINS. Each datum BY PROGRAM (the guide's laid-datum.mjs) off the statement by which the dump's own 'gosem.cut.vars' lays the variable. In a bare row this is a premise. The card (YtamfmemdhldmjaaGreatDoorCards.lean) ties it to the program's text. -/
def laid_loop_example_decisiontables_impl_errNone {H : Type} : DataW H := .iface "*errors.errorString" (.ptr (.agg [.lit (.string [110, 111, 110, 101])]))
def laid_loop_example_decisiontables_impl_errConflict {H : Type} : DataW H := .iface "*errors.errorString" (.ptr (.agg [.lit (.string [99, 111, 110, 102, 108, 105, 99, 116])]))
def laid_loop_example_decisiontables_impl_errInvalid {H : Type} : DataW H := .iface "*errors.errorString" (.ptr (.agg [.lit (.string [105, 110, 118, 97, 108, 105, 100])]))

/-- 'laws.FnExactDecide': WHATEVER THE INPUT: true; the input reads as it did. -/
def fnExactDecideSpec : ChangeSpec := { name := "fnExactDecide", vars := ["loop.example/decisiontables/impl.errInvalid", "loop.example/decisiontables/impl.errNone", "loop.example/decisiontables/impl.errConflict"], fn := fun _ => fun
  | [d1, d2, g1, g2, g3] => { results := [.lit (.bool true)], args := [d1, d2], vars := [g1, g2, g3] }
  | _ => none }
def fnExactDecideRow : OpenClaim := { program := "ytamfmemdhldmjaagreatdoor", sum := "6dceb3bc6df665a46918e187ff36fc6da8e28ab0d65c23404df89f2da346b806", func := "loop.example/decisiontables/laws.FnExactDecide", spec := "fnExactDecide", inPlace := ["internal/reflectlite.TypeOf"], unfollowed := true, recurses := true, named := ["loop.example/decisiontables/impl.errInvalid", "loop.example/decisiontables/impl.errNone", "loop.example/decisiontables/impl.errConflict"], ifaces := true, apart := false, laid := [("loop.example/decisiontables/impl.errNone", laid_loop_example_decisiontables_impl_errNone), ("loop.example/decisiontables/impl.errConflict", laid_loop_example_decisiontables_impl_errConflict), ("loop.example/decisiontables/impl.errInvalid", laid_loop_example_decisiontables_impl_errInvalid)] }
def FnExactDecideSaid : Prop := fnExactDecideRow.holds Tryz.pinned (OpenSpec.ofChange fnExactDecideSpec)

/-- ITS FALSE NEIGHBOUR: 'it returns false'. Refute it at one input. -/
def fnExactDecideWrong : ChangeSpec := { name := "fnExactDecide", vars := ["loop.example/decisiontables/impl.errInvalid", "loop.example/decisiontables/impl.errNone", "loop.example/decisiontables/impl.errConflict"], fn := fun _ => fun
  | [d1, d2, g1, g2, g3] => { results := [.lit (.bool false)], args := [d1, d2], vars := [g1, g2, g3] }
  | _ => none }
def FnExactDecideWrongFalsely : Prop := fnExactDecideRow.holds Tryz.pinned (OpenSpec.ofChange fnExactDecideWrong)

/-- 'laws.FnExactRuleUsed': WHATEVER THE INPUT: true; the input reads as it did. -/
def fnExactRuleUsedSpec : ChangeSpec := { name := "fnExactRuleUsed", vars := ["loop.example/decisiontables/impl.errInvalid", "loop.example/decisiontables/impl.errNone", "loop.example/decisiontables/impl.errConflict"], fn := fun _ => fun
  | [d1, d2, d3, g1, g2, g3] => { results := [.lit (.bool true)], args := [d1, d2, d3], vars := [g1, g2, g3] }
  | _ => none }
def fnExactRuleUsedRow : OpenClaim := { program := "ytamfmemdhldmjaagreatdoor", sum := "6dceb3bc6df665a46918e187ff36fc6da8e28ab0d65c23404df89f2da346b806", func := "loop.example/decisiontables/laws.FnExactRuleUsed", spec := "fnExactRuleUsed", inPlace := ["internal/reflectlite.TypeOf"], unfollowed := true, recurses := true, named := ["loop.example/decisiontables/impl.errInvalid", "loop.example/decisiontables/impl.errNone", "loop.example/decisiontables/impl.errConflict"], ifaces := true, apart := false, laid := [("loop.example/decisiontables/impl.errNone", laid_loop_example_decisiontables_impl_errNone), ("loop.example/decisiontables/impl.errConflict", laid_loop_example_decisiontables_impl_errConflict), ("loop.example/decisiontables/impl.errInvalid", laid_loop_example_decisiontables_impl_errInvalid)] }
def FnExactRuleUsedSaid : Prop := fnExactRuleUsedRow.holds Tryz.pinned (OpenSpec.ofChange fnExactRuleUsedSpec)

/-- ITS FALSE NEIGHBOUR: 'it returns false'. Refute it at one input. -/
def fnExactRuleUsedWrong : ChangeSpec := { name := "fnExactRuleUsed", vars := ["loop.example/decisiontables/impl.errInvalid", "loop.example/decisiontables/impl.errNone", "loop.example/decisiontables/impl.errConflict"], fn := fun _ => fun
  | [d1, d2, d3, g1, g2, g3] => { results := [.lit (.bool false)], args := [d1, d2, d3], vars := [g1, g2, g3] }
  | _ => none }
def FnExactRuleUsedWrongFalsely : Prop := fnExactRuleUsedRow.holds Tryz.pinned (OpenSpec.ofChange fnExactRuleUsedWrong)

/- THE SECOND FORM. 'bulk': how many values and letters a reading holds, each counted each time it is reached (what is shared counts as often as it is met; a slice's spare places count too). A statement '..UptoSaid' is the law's where the arguments, and the package variables that the reading takes, are together of bulk at most 1048576: NARROWER than '..Said'. Prove '..Said' where nothing that the law and all that it calls make is longer than what came in: it says more and counts as full. Else prove '..UptoSaid'. A law counts once. -/
mutual
def uptoBulk {H : Type} : DataW H → Nat
  | .lit (.string bytes) => bytes.length + 1
  | .lit _ => 1
  | .nil => 1
  | .ptr d => uptoBulk d + 1
  | .slice elems spare => uptoBulkAll elems + uptoBulkAll spare + 1
  | .agg parts => uptoBulkAll parts + 1
  | .iface _ d => uptoBulk d + 1
  | .map entries => uptoBulkEntries entries + 1
  | .held _ => 1
def uptoBulkAll {H : Type} : List (DataW H) → Nat
  | [] => 0
  | d :: r => uptoBulk d + uptoBulkAll r
def uptoBulkEntries {H : Type} : List (Lit × DataW H) → Nat
  | [] => 0
  | x :: r => uptoBulkEntry x + uptoBulkEntries r
def uptoBulkEntry {H : Type} : Lit × DataW H → Nat
  | (.string bytes, d) => bytes.length + uptoBulk d + 1
  | (_, d) => uptoBulk d + 1
 end
def uptoSmall : (H : Type) → List (DataW H) → Bool := fun _ ds => decide (uptoBulkAll ds ≤ 1048576)
def OpenSpec.upto (s : _root_.Go.ChangeSpec) : _root_.Go.OpenSpec := { _root_.Go.OpenSpec.ofChange s with cond := some uptoSmall }

/-- 'laws.FnExactDecide', WHERE WHAT IT READS IS OF BULK AT MOST 1048576: true; the input reads as it did. -/
def fnExactDecideUptoRow : OpenClaim := { program := "ytamfmemdhldmjaagreatdoor", sum := "6dceb3bc6df665a46918e187ff36fc6da8e28ab0d65c23404df89f2da346b806", func := "loop.example/decisiontables/laws.FnExactDecide", spec := "fnExactDecide", inPlace := ["internal/reflectlite.TypeOf"], unfollowed := true, recurses := true, named := ["loop.example/decisiontables/impl.errInvalid", "loop.example/decisiontables/impl.errNone", "loop.example/decisiontables/impl.errConflict"], ifaces := true, apart := false, laid := [("loop.example/decisiontables/impl.errNone", laid_loop_example_decisiontables_impl_errNone), ("loop.example/decisiontables/impl.errConflict", laid_loop_example_decisiontables_impl_errConflict), ("loop.example/decisiontables/impl.errInvalid", laid_loop_example_decisiontables_impl_errInvalid)], narrowed := true }
def FnExactDecideUptoSaid : Prop := fnExactDecideUptoRow.holds Tryz.pinned (OpenSpec.upto fnExactDecideSpec)

/-- 'laws.FnExactRuleUsed', WHERE WHAT IT READS IS OF BULK AT MOST 1048576: true; the input reads as it did. -/
def fnExactRuleUsedUptoRow : OpenClaim := { program := "ytamfmemdhldmjaagreatdoor", sum := "6dceb3bc6df665a46918e187ff36fc6da8e28ab0d65c23404df89f2da346b806", func := "loop.example/decisiontables/laws.FnExactRuleUsed", spec := "fnExactRuleUsed", inPlace := ["internal/reflectlite.TypeOf"], unfollowed := true, recurses := true, named := ["loop.example/decisiontables/impl.errInvalid", "loop.example/decisiontables/impl.errNone", "loop.example/decisiontables/impl.errConflict"], ifaces := true, apart := false, laid := [("loop.example/decisiontables/impl.errNone", laid_loop_example_decisiontables_impl_errNone), ("loop.example/decisiontables/impl.errConflict", laid_loop_example_decisiontables_impl_errConflict), ("loop.example/decisiontables/impl.errInvalid", laid_loop_example_decisiontables_impl_errInvalid)], narrowed := true }
def FnExactRuleUsedUptoSaid : Prop := fnExactRuleUsedUptoRow.holds Tryz.pinned (OpenSpec.upto fnExactRuleUsedSpec)

end Rows
end Go.Proofs.YtamfmemdhldmjaaGreatDoor
