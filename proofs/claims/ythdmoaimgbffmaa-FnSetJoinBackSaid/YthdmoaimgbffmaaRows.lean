/-
  No cell of these rows narrows 'for every input' (looked for: loops, veiled, ifaces, maps, wideKeys, modest, calm, conditions, laid).
  DERIVED. THE GIVEN ROWS OF THIS SEAT. 8 by the template 'for every input the law returns true; each argument reads behind the call as it read before'; 0 by the template 'total and deterministic' (their statements: YthdmoaimgbffmaaTotals.lean).
  GIVEN WITH THE SEED: the statements are not yours to turn. If you find one false, say at which input.
  Laid BY PROGRAM, IN A SANDBOX (cutbox-rows.mjs): the forced cells as the released guide's own fill.sh prints them over the translation 7319c6d3457073ad… (all of the seat's roots in one cut). By AI agents, Wed Nov 11 2026. No macro, syntax, notation, axiom, sorry.
-/
import Derived.Test.YthdmoaimgbffmaaChecked
import GoSem.Claim
import GoSem.ClaimJoined
import GoSem.ClaimMapViews
import Derived.JoinedTies
import Derived.KernelRfl
namespace Go.Proofs.Ythdmoaimgbffmaa
/- THE CELL 'sum', in the pinned program and in every row, IS THE sha256 OF THE DUMP (.gsa) THAT YthdmoaimgbffmaaProg.lean LOADS. Nothing in Lean hashes anything: it is a label: what it is worth is what the hold of that sum in a sandbox is worth. -/
noncomputable def Try.pinned : Pinned := { name := "ythdmoaimgbffmaa", sum := "7319c6d3457073ad96dea82e4bca72e56298576e02dd24eb97f4b8c952108bb8", checked := Try.checked }
namespace Rows
def none {H : Type} : Left H := { results := [], args := [] }

/-- 'laws.FnSetOf': WHATEVER THE INPUT: true; the input reads as it did. -/
def fnSetOfSpec : ChangeSpec := { name := "fnSetOf", fn := fun _ => fun
  | [d] => { results := [.lit (.bool true)], args := [d] }
  | _ => none }
def fnSetOfRow : OpenClaim := { program := "ythdmoaimgbffmaa", sum := "7319c6d3457073ad96dea82e4bca72e56298576e02dd24eb97f4b8c952108bb8", func := "loop.example/decisiontables/laws.FnSetOf", spec := "fnSetOf", unfollowed := true, recurses := true, apart := false }
def FnSetOfSaid : Prop := fnSetOfRow.holds Try.pinned (OpenSpec.ofChange fnSetOfSpec)

/-- ITS FALSE NEIGHBOUR: 'it returns false'. Refute it at one input. -/
def fnSetOfWrong : ChangeSpec := { name := "fnSetOf", fn := fun _ => fun
  | [d] => { results := [.lit (.bool false)], args := [d] }
  | _ => none }
def FnSetOfWrongFalsely : Prop := fnSetOfRow.holds Try.pinned (OpenSpec.ofChange fnSetOfWrong)

/-- 'laws.FnSetJoins': WHATEVER THE INPUT: true; the input reads as it did. -/
def fnSetJoinsSpec : ChangeSpec := { name := "fnSetJoins", fn := fun _ => fun
  | [d] => { results := [.lit (.bool true)], args := [d] }
  | _ => none }
def fnSetJoinsRow : OpenClaim := { program := "ythdmoaimgbffmaa", sum := "7319c6d3457073ad96dea82e4bca72e56298576e02dd24eb97f4b8c952108bb8", func := "loop.example/decisiontables/laws.FnSetJoins", spec := "fnSetJoins", unfollowed := true, recurses := true, apart := false }
def FnSetJoinsSaid : Prop := fnSetJoinsRow.holds Try.pinned (OpenSpec.ofChange fnSetJoinsSpec)

/-- ITS FALSE NEIGHBOUR: 'it returns false'. Refute it at one input. -/
def fnSetJoinsWrong : ChangeSpec := { name := "fnSetJoins", fn := fun _ => fun
  | [d] => { results := [.lit (.bool false)], args := [d] }
  | _ => none }
def FnSetJoinsWrongFalsely : Prop := fnSetJoinsRow.holds Try.pinned (OpenSpec.ofChange fnSetJoinsWrong)

/-- 'laws.FnSetHas': WHATEVER THE INPUT: true; the input reads as it did. -/
def fnSetHasSpec : ChangeSpec := { name := "fnSetHas", fn := fun _ => fun
  | [d] => { results := [.lit (.bool true)], args := [d] }
  | _ => none }
def fnSetHasRow : OpenClaim := { program := "ythdmoaimgbffmaa", sum := "7319c6d3457073ad96dea82e4bca72e56298576e02dd24eb97f4b8c952108bb8", func := "loop.example/decisiontables/laws.FnSetHas", spec := "fnSetHas", unfollowed := true, recurses := true, apart := false }
def FnSetHasSaid : Prop := fnSetHasRow.holds Try.pinned (OpenSpec.ofChange fnSetHasSpec)

/-- ITS FALSE NEIGHBOUR: 'it returns false'. Refute it at one input. -/
def fnSetHasWrong : ChangeSpec := { name := "fnSetHas", fn := fun _ => fun
  | [d] => { results := [.lit (.bool false)], args := [d] }
  | _ => none }
def FnSetHasWrongFalsely : Prop := fnSetHasRow.holds Try.pinned (OpenSpec.ofChange fnSetHasWrong)

/-- 'laws.FnSetUnion': WHATEVER THE INPUT: true; the input reads as it did. -/
def fnSetUnionSpec : ChangeSpec := { name := "fnSetUnion", fn := fun _ => fun
  | [d] => { results := [.lit (.bool true)], args := [d] }
  | _ => none }
def fnSetUnionRow : OpenClaim := { program := "ythdmoaimgbffmaa", sum := "7319c6d3457073ad96dea82e4bca72e56298576e02dd24eb97f4b8c952108bb8", func := "loop.example/decisiontables/laws.FnSetUnion", spec := "fnSetUnion", unfollowed := true, recurses := true, apart := false }
def FnSetUnionSaid : Prop := fnSetUnionRow.holds Try.pinned (OpenSpec.ofChange fnSetUnionSpec)

/-- ITS FALSE NEIGHBOUR: 'it returns false'. Refute it at one input. -/
def fnSetUnionWrong : ChangeSpec := { name := "fnSetUnion", fn := fun _ => fun
  | [d] => { results := [.lit (.bool false)], args := [d] }
  | _ => none }
def FnSetUnionWrongFalsely : Prop := fnSetUnionRow.holds Try.pinned (OpenSpec.ofChange fnSetUnionWrong)

/-- 'laws.FnSetJoinBack': WHATEVER THE INPUT: true; the input reads as it did. -/
def fnSetJoinBackSpec : ChangeSpec := { name := "fnSetJoinBack", fn := fun _ => fun
  | [d] => { results := [.lit (.bool true)], args := [d] }
  | _ => none }
def fnSetJoinBackRow : OpenClaim := { program := "ythdmoaimgbffmaa", sum := "7319c6d3457073ad96dea82e4bca72e56298576e02dd24eb97f4b8c952108bb8", func := "loop.example/decisiontables/laws.FnSetJoinBack", spec := "fnSetJoinBack", unfollowed := true, recurses := true, apart := false }
def FnSetJoinBackSaid : Prop := fnSetJoinBackRow.holds Try.pinned (OpenSpec.ofChange fnSetJoinBackSpec)

/-- ITS FALSE NEIGHBOUR: 'it returns false'. Refute it at one input. -/
def fnSetJoinBackWrong : ChangeSpec := { name := "fnSetJoinBack", fn := fun _ => fun
  | [d] => { results := [.lit (.bool false)], args := [d] }
  | _ => none }
def FnSetJoinBackWrongFalsely : Prop := fnSetJoinBackRow.holds Try.pinned (OpenSpec.ofChange fnSetJoinBackWrong)

/-- 'laws.FnSetSpans': WHATEVER THE INPUT: true; the input reads as it did. -/
def fnSetSpansSpec : ChangeSpec := { name := "fnSetSpans", fn := fun _ => fun
  | [d] => { results := [.lit (.bool true)], args := [d] }
  | _ => none }
def fnSetSpansRow : OpenClaim := { program := "ythdmoaimgbffmaa", sum := "7319c6d3457073ad96dea82e4bca72e56298576e02dd24eb97f4b8c952108bb8", func := "loop.example/decisiontables/laws.FnSetSpans", spec := "fnSetSpans", unfollowed := true, recurses := true, apart := false }
def FnSetSpansSaid : Prop := fnSetSpansRow.holds Try.pinned (OpenSpec.ofChange fnSetSpansSpec)

/-- ITS FALSE NEIGHBOUR: 'it returns false'. Refute it at one input. -/
def fnSetSpansWrong : ChangeSpec := { name := "fnSetSpans", fn := fun _ => fun
  | [d] => { results := [.lit (.bool false)], args := [d] }
  | _ => none }
def FnSetSpansWrongFalsely : Prop := fnSetSpansRow.holds Try.pinned (OpenSpec.ofChange fnSetSpansWrong)

/-- 'laws.FnExactSetOf': WHATEVER THE INPUT: true; the input reads as it did. -/
def fnExactSetOfSpec : ChangeSpec := { name := "fnExactSetOf", fn := fun _ => fun
  | [d] => { results := [.lit (.bool true)], args := [d] }
  | _ => none }
def fnExactSetOfRow : OpenClaim := { program := "ythdmoaimgbffmaa", sum := "7319c6d3457073ad96dea82e4bca72e56298576e02dd24eb97f4b8c952108bb8", func := "loop.example/decisiontables/laws.FnExactSetOf", spec := "fnExactSetOf", unfollowed := true, recurses := true, apart := false }
def FnExactSetOfSaid : Prop := fnExactSetOfRow.holds Try.pinned (OpenSpec.ofChange fnExactSetOfSpec)

/-- ITS FALSE NEIGHBOUR: 'it returns false'. Refute it at one input. -/
def fnExactSetOfWrong : ChangeSpec := { name := "fnExactSetOf", fn := fun _ => fun
  | [d] => { results := [.lit (.bool false)], args := [d] }
  | _ => none }
def FnExactSetOfWrongFalsely : Prop := fnExactSetOfRow.holds Try.pinned (OpenSpec.ofChange fnExactSetOfWrong)

/-- 'laws.FnExactSetUnion': WHATEVER THE INPUT: true; the input reads as it did. -/
def fnExactSetUnionSpec : ChangeSpec := { name := "fnExactSetUnion", fn := fun _ => fun
  | [d1, d2] => { results := [.lit (.bool true)], args := [d1, d2] }
  | _ => none }
def fnExactSetUnionRow : OpenClaim := { program := "ythdmoaimgbffmaa", sum := "7319c6d3457073ad96dea82e4bca72e56298576e02dd24eb97f4b8c952108bb8", func := "loop.example/decisiontables/laws.FnExactSetUnion", spec := "fnExactSetUnion", unfollowed := true, recurses := true, apart := false }
def FnExactSetUnionSaid : Prop := fnExactSetUnionRow.holds Try.pinned (OpenSpec.ofChange fnExactSetUnionSpec)

/-- ITS FALSE NEIGHBOUR: 'it returns false'. Refute it at one input. -/
def fnExactSetUnionWrong : ChangeSpec := { name := "fnExactSetUnion", fn := fun _ => fun
  | [d1, d2] => { results := [.lit (.bool false)], args := [d1, d2] }
  | _ => none }
def FnExactSetUnionWrongFalsely : Prop := fnExactSetUnionRow.holds Try.pinned (OpenSpec.ofChange fnExactSetUnionWrong)

/- THE SECOND FORM. 'bulk': how many values and letters a reading holds, each counted each time it is reached (what is shared counts as often as it is met; a slice's spare places count too). A statement '..UptoSaid' is the law's where the arguments, and the package variables that the reading takes, are together of bulk at most 1048576: NARROWER than '..Said'. Prove '..Said' where nothing that the law and all that it calls make is longer than what came in: it says more and counts as full. Else prove '..UptoSaid'. A law counts once. -/
mutual
def uptoBulk {H : Type} : DataW H → Nat
  | .lit (.string bytes) => bytes.length + 1
  | .lit _ => 1
  | .nil => 1
  | .ptr d => uptoBulk d + 1
  | .slice elems spare => uptoBulkAll elems + uptoBulkAll spare + 1
  | .agg parts => uptoBulkAll parts + 1
  | .iface _ d => uptoBulk d + 1
  | .map entries => uptoBulkEntries entries + 1
  | .held _ => 1
def uptoBulkAll {H : Type} : List (DataW H) → Nat
  | [] => 0
  | d :: r => uptoBulk d + uptoBulkAll r
def uptoBulkEntries {H : Type} : List (Lit × DataW H) → Nat
  | [] => 0
  | x :: r => uptoBulkEntry x + uptoBulkEntries r
def uptoBulkEntry {H : Type} : Lit × DataW H → Nat
  | (.string bytes, d) => bytes.length + uptoBulk d + 1
  | (_, d) => uptoBulk d + 1
 end
def uptoSmall : (H : Type) → List (DataW H) → Bool := fun _ ds => decide (uptoBulkAll ds ≤ 1048576)
def OpenSpec.upto (s : _root_.Go.ChangeSpec) : _root_.Go.OpenSpec := { _root_.Go.OpenSpec.ofChange s with cond := some uptoSmall }

/-- 'laws.FnSetOf', WHERE WHAT IT READS IS OF BULK AT MOST 1048576: true; the input reads as it did. -/
def fnSetOfUptoRow : OpenClaim := { program := "ythdmoaimgbffmaa", sum := "7319c6d3457073ad96dea82e4bca72e56298576e02dd24eb97f4b8c952108bb8", func := "loop.example/decisiontables/laws.FnSetOf", spec := "fnSetOf", unfollowed := true, recurses := true, apart := false, narrowed := true }
def FnSetOfUptoSaid : Prop := fnSetOfUptoRow.holds Try.pinned (OpenSpec.upto fnSetOfSpec)

/-- 'laws.FnSetJoins', WHERE WHAT IT READS IS OF BULK AT MOST 1048576: true; the input reads as it did. -/
def fnSetJoinsUptoRow : OpenClaim := { program := "ythdmoaimgbffmaa", sum := "7319c6d3457073ad96dea82e4bca72e56298576e02dd24eb97f4b8c952108bb8", func := "loop.example/decisiontables/laws.FnSetJoins", spec := "fnSetJoins", unfollowed := true, recurses := true, apart := false, narrowed := true }
def FnSetJoinsUptoSaid : Prop := fnSetJoinsUptoRow.holds Try.pinned (OpenSpec.upto fnSetJoinsSpec)

/-- 'laws.FnSetHas', WHERE WHAT IT READS IS OF BULK AT MOST 1048576: true; the input reads as it did. -/
def fnSetHasUptoRow : OpenClaim := { program := "ythdmoaimgbffmaa", sum := "7319c6d3457073ad96dea82e4bca72e56298576e02dd24eb97f4b8c952108bb8", func := "loop.example/decisiontables/laws.FnSetHas", spec := "fnSetHas", unfollowed := true, recurses := true, apart := false, narrowed := true }
def FnSetHasUptoSaid : Prop := fnSetHasUptoRow.holds Try.pinned (OpenSpec.upto fnSetHasSpec)

/-- 'laws.FnSetUnion', WHERE WHAT IT READS IS OF BULK AT MOST 1048576: true; the input reads as it did. -/
def fnSetUnionUptoRow : OpenClaim := { program := "ythdmoaimgbffmaa", sum := "7319c6d3457073ad96dea82e4bca72e56298576e02dd24eb97f4b8c952108bb8", func := "loop.example/decisiontables/laws.FnSetUnion", spec := "fnSetUnion", unfollowed := true, recurses := true, apart := false, narrowed := true }
def FnSetUnionUptoSaid : Prop := fnSetUnionUptoRow.holds Try.pinned (OpenSpec.upto fnSetUnionSpec)

/-- 'laws.FnSetJoinBack', WHERE WHAT IT READS IS OF BULK AT MOST 1048576: true; the input reads as it did. -/
def fnSetJoinBackUptoRow : OpenClaim := { program := "ythdmoaimgbffmaa", sum := "7319c6d3457073ad96dea82e4bca72e56298576e02dd24eb97f4b8c952108bb8", func := "loop.example/decisiontables/laws.FnSetJoinBack", spec := "fnSetJoinBack", unfollowed := true, recurses := true, apart := false, narrowed := true }
def FnSetJoinBackUptoSaid : Prop := fnSetJoinBackUptoRow.holds Try.pinned (OpenSpec.upto fnSetJoinBackSpec)

/-- 'laws.FnSetSpans', WHERE WHAT IT READS IS OF BULK AT MOST 1048576: true; the input reads as it did. -/
def fnSetSpansUptoRow : OpenClaim := { program := "ythdmoaimgbffmaa", sum := "7319c6d3457073ad96dea82e4bca72e56298576e02dd24eb97f4b8c952108bb8", func := "loop.example/decisiontables/laws.FnSetSpans", spec := "fnSetSpans", unfollowed := true, recurses := true, apart := false, narrowed := true }
def FnSetSpansUptoSaid : Prop := fnSetSpansUptoRow.holds Try.pinned (OpenSpec.upto fnSetSpansSpec)

/-- 'laws.FnExactSetOf', WHERE WHAT IT READS IS OF BULK AT MOST 1048576: true; the input reads as it did. -/
def fnExactSetOfUptoRow : OpenClaim := { program := "ythdmoaimgbffmaa", sum := "7319c6d3457073ad96dea82e4bca72e56298576e02dd24eb97f4b8c952108bb8", func := "loop.example/decisiontables/laws.FnExactSetOf", spec := "fnExactSetOf", unfollowed := true, recurses := true, apart := false, narrowed := true }
def FnExactSetOfUptoSaid : Prop := fnExactSetOfUptoRow.holds Try.pinned (OpenSpec.upto fnExactSetOfSpec)

/-- 'laws.FnExactSetUnion', WHERE WHAT IT READS IS OF BULK AT MOST 1048576: true; the input reads as it did. -/
def fnExactSetUnionUptoRow : OpenClaim := { program := "ythdmoaimgbffmaa", sum := "7319c6d3457073ad96dea82e4bca72e56298576e02dd24eb97f4b8c952108bb8", func := "loop.example/decisiontables/laws.FnExactSetUnion", spec := "fnExactSetUnion", unfollowed := true, recurses := true, apart := false, narrowed := true }
def FnExactSetUnionUptoSaid : Prop := fnExactSetUnionUptoRow.holds Try.pinned (OpenSpec.upto fnExactSetUnionSpec)

end Rows
end Go.Proofs.Ythdmoaimgbffmaa
