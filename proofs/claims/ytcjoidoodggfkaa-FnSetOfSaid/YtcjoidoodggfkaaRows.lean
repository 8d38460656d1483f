/-
  No cell of these rows narrows 'for every input' (looked for: loops, veiled, ifaces, maps, wideKeys, modest, calm, conditions, laid).
  DERIVED. THE GIVEN ROWS OF THIS SEAT. 12 by the template 'for every input the law returns true; each argument reads behind the call as it read before'; 0 by the template 'total and deterministic' (their statements: YtcjoidoodggfkaaTotals.lean).
  GIVEN WITH THE SEED: the statements are not yours to turn. If you find one false, say at which input.
  Laid BY PROGRAM, IN A SANDBOX (cutbox-rows.mjs): the forced cells as the released guide's own fill.sh prints them over the translation f9d8e9c055fc1f28… (all of the seat's roots in one cut). By AI agents, Wed Nov 11 2026. No macro, syntax, notation, axiom, sorry.
-/
import Derived.Test.YtcjoidoodggfkaaChecked
import GoSem.Claim
import GoSem.ClaimJoined
import GoSem.ClaimMapViews
import Derived.JoinedTies
import Derived.KernelRfl
namespace Go.Proofs.Ytcjoidoodggfkaa
/- THE CELL 'sum', in the pinned program and in every row, IS THE sha256 OF THE DUMP (.gsa) THAT YtcjoidoodggfkaaProg.lean LOADS. Nothing in Lean hashes anything: it is a label: what it is worth is what the hold of that sum in a sandbox is worth. -/
noncomputable def Try.pinned : Pinned := { name := "ytcjoidoodggfkaa", sum := "f9d8e9c055fc1f28d93cf9b03af8402f56bcc96277967dd85c82bf4c0ccefb1b", checked := Try.checked }
namespace Rows
def none {H : Type} : Left H := { results := [], args := [] }

/-- 'laws.FnSetOf': WHATEVER THE INPUT: true; the input reads as it did. -/
def fnSetOfSpec : ChangeSpec := { name := "fnSetOf", fn := fun _ => fun
  | [d] => { results := [.lit (.bool true)], args := [d] }
  | _ => none }
def fnSetOfRow : OpenClaim := { program := "ytcjoidoodggfkaa", sum := "f9d8e9c055fc1f28d93cf9b03af8402f56bcc96277967dd85c82bf4c0ccefb1b", func := "loop.example/decisiontables/laws.FnSetOf", spec := "fnSetOf", unfollowed := true, recurses := true, apart := false }
def FnSetOfSaid : Prop := fnSetOfRow.holds Try.pinned (OpenSpec.ofChange fnSetOfSpec)

/-- ITS FALSE NEIGHBOUR: 'it returns false'. Refute it at one input. -/
def fnSetOfWrong : ChangeSpec := { name := "fnSetOf", fn := fun _ => fun
  | [d] => { results := [.lit (.bool false)], args := [d] }
  | _ => none }
def FnSetOfWrongFalsely : Prop := fnSetOfRow.holds Try.pinned (OpenSpec.ofChange fnSetOfWrong)

/-- 'laws.FnSetJoins': WHATEVER THE INPUT: true; the input reads as it did. -/
def fnSetJoinsSpec : ChangeSpec := { name := "fnSetJoins", fn := fun _ => fun
  | [d] => { results := [.lit (.bool true)], args := [d] }
  | _ => none }
def fnSetJoinsRow : OpenClaim := { program := "ytcjoidoodggfkaa", sum := "f9d8e9c055fc1f28d93cf9b03af8402f56bcc96277967dd85c82bf4c0ccefb1b", func := "loop.example/decisiontables/laws.FnSetJoins", spec := "fnSetJoins", unfollowed := true, recurses := true, apart := false }
def FnSetJoinsSaid : Prop := fnSetJoinsRow.holds Try.pinned (OpenSpec.ofChange fnSetJoinsSpec)

/-- ITS FALSE NEIGHBOUR: 'it returns false'. Refute it at one input. -/
def fnSetJoinsWrong : ChangeSpec := { name := "fnSetJoins", fn := fun _ => fun
  | [d] => { results := [.lit (.bool false)], args := [d] }
  | _ => none }
def FnSetJoinsWrongFalsely : Prop := fnSetJoinsRow.holds Try.pinned (OpenSpec.ofChange fnSetJoinsWrong)

/-- 'laws.FnSetSize': WHATEVER THE INPUT: true; the input reads as it did. -/
def fnSetSizeSpec : ChangeSpec := { name := "fnSetSize", fn := fun _ => fun
  | [d] => { results := [.lit (.bool true)], args := [d] }
  | _ => none }
def fnSetSizeRow : OpenClaim := { program := "ytcjoidoodggfkaa", sum := "f9d8e9c055fc1f28d93cf9b03af8402f56bcc96277967dd85c82bf4c0ccefb1b", func := "loop.example/decisiontables/laws.FnSetSize", spec := "fnSetSize", apart := false }
def FnSetSizeSaid : Prop := fnSetSizeRow.holds Try.pinned (OpenSpec.ofChange fnSetSizeSpec)

/-- ITS FALSE NEIGHBOUR: 'it returns false'. Refute it at one input. -/
def fnSetSizeWrong : ChangeSpec := { name := "fnSetSize", fn := fun _ => fun
  | [d] => { results := [.lit (.bool false)], args := [d] }
  | _ => none }
def FnSetSizeWrongFalsely : Prop := fnSetSizeRow.holds Try.pinned (OpenSpec.ofChange fnSetSizeWrong)

/-- 'laws.FnSetWithin': WHATEVER THE INPUT: true; the input reads as it did. -/
def fnSetWithinSpec : ChangeSpec := { name := "fnSetWithin", fn := fun _ => fun
  | [d] => { results := [.lit (.bool true)], args := [d] }
  | _ => none }
def fnSetWithinRow : OpenClaim := { program := "ytcjoidoodggfkaa", sum := "f9d8e9c055fc1f28d93cf9b03af8402f56bcc96277967dd85c82bf4c0ccefb1b", func := "loop.example/decisiontables/laws.FnSetWithin", spec := "fnSetWithin", unfollowed := true, recurses := true, apart := false }
def FnSetWithinSaid : Prop := fnSetWithinRow.holds Try.pinned (OpenSpec.ofChange fnSetWithinSpec)

/-- ITS FALSE NEIGHBOUR: 'it returns false'. Refute it at one input. -/
def fnSetWithinWrong : ChangeSpec := { name := "fnSetWithin", fn := fun _ => fun
  | [d] => { results := [.lit (.bool false)], args := [d] }
  | _ => none }
def FnSetWithinWrongFalsely : Prop := fnSetWithinRow.holds Try.pinned (OpenSpec.ofChange fnSetWithinWrong)

/-- 'laws.FnSetSame': WHATEVER THE INPUT: true; the input reads as it did. -/
def fnSetSameSpec : ChangeSpec := { name := "fnSetSame", fn := fun _ => fun
  | [d] => { results := [.lit (.bool true)], args := [d] }
  | _ => none }
def fnSetSameRow : OpenClaim := { program := "ytcjoidoodggfkaa", sum := "f9d8e9c055fc1f28d93cf9b03af8402f56bcc96277967dd85c82bf4c0ccefb1b", func := "loop.example/decisiontables/laws.FnSetSame", spec := "fnSetSame", unfollowed := true, recurses := true, apart := false }
def FnSetSameSaid : Prop := fnSetSameRow.holds Try.pinned (OpenSpec.ofChange fnSetSameSpec)

/-- ITS FALSE NEIGHBOUR: 'it returns false'. Refute it at one input. -/
def fnSetSameWrong : ChangeSpec := { name := "fnSetSame", fn := fun _ => fun
  | [d] => { results := [.lit (.bool false)], args := [d] }
  | _ => none }
def FnSetSameWrongFalsely : Prop := fnSetSameRow.holds Try.pinned (OpenSpec.ofChange fnSetSameWrong)

/-- 'laws.FnSetFirst': WHATEVER THE INPUT: true; the input reads as it did. -/
def fnSetFirstSpec : ChangeSpec := { name := "fnSetFirst", fn := fun _ => fun
  | [d] => { results := [.lit (.bool true)], args := [d] }
  | _ => none }
def fnSetFirstRow : OpenClaim := { program := "ytcjoidoodggfkaa", sum := "f9d8e9c055fc1f28d93cf9b03af8402f56bcc96277967dd85c82bf4c0ccefb1b", func := "loop.example/decisiontables/laws.FnSetFirst", spec := "fnSetFirst", apart := false }
def FnSetFirstSaid : Prop := fnSetFirstRow.holds Try.pinned (OpenSpec.ofChange fnSetFirstSpec)

/-- ITS FALSE NEIGHBOUR: 'it returns false'. Refute it at one input. -/
def fnSetFirstWrong : ChangeSpec := { name := "fnSetFirst", fn := fun _ => fun
  | [d] => { results := [.lit (.bool false)], args := [d] }
  | _ => none }
def FnSetFirstWrongFalsely : Prop := fnSetFirstRow.holds Try.pinned (OpenSpec.ofChange fnSetFirstWrong)

/-- 'laws.FnSetHas': WHATEVER THE INPUT: true; the input reads as it did. -/
def fnSetHasSpec : ChangeSpec := { name := "fnSetHas", fn := fun _ => fun
  | [d] => { results := [.lit (.bool true)], args := [d] }
  | _ => none }
def fnSetHasRow : OpenClaim := { program := "ytcjoidoodggfkaa", sum := "f9d8e9c055fc1f28d93cf9b03af8402f56bcc96277967dd85c82bf4c0ccefb1b", func := "loop.example/decisiontables/laws.FnSetHas", spec := "fnSetHas", unfollowed := true, recurses := true, apart := false }
def FnSetHasSaid : Prop := fnSetHasRow.holds Try.pinned (OpenSpec.ofChange fnSetHasSpec)

/-- ITS FALSE NEIGHBOUR: 'it returns false'. Refute it at one input. -/
def fnSetHasWrong : ChangeSpec := { name := "fnSetHas", fn := fun _ => fun
  | [d] => { results := [.lit (.bool false)], args := [d] }
  | _ => none }
def FnSetHasWrongFalsely : Prop := fnSetHasRow.holds Try.pinned (OpenSpec.ofChange fnSetHasWrong)

/-- 'laws.FnSetUnion': WHATEVER THE INPUT: true; the input reads as it did. -/
def fnSetUnionSpec : ChangeSpec := { name := "fnSetUnion", fn := fun _ => fun
  | [d] => { results := [.lit (.bool true)], args := [d] }
  | _ => none }
def fnSetUnionRow : OpenClaim := { program := "ytcjoidoodggfkaa", sum := "f9d8e9c055fc1f28d93cf9b03af8402f56bcc96277967dd85c82bf4c0ccefb1b", func := "loop.example/decisiontables/laws.FnSetUnion", spec := "fnSetUnion", unfollowed := true, recurses := true, apart := false }
def FnSetUnionSaid : Prop := fnSetUnionRow.holds Try.pinned (OpenSpec.ofChange fnSetUnionSpec)

/-- ITS FALSE NEIGHBOUR: 'it returns false'. Refute it at one input. -/
def fnSetUnionWrong : ChangeSpec := { name := "fnSetUnion", fn := fun _ => fun
  | [d] => { results := [.lit (.bool false)], args := [d] }
  | _ => none }
def FnSetUnionWrongFalsely : Prop := fnSetUnionRow.holds Try.pinned (OpenSpec.ofChange fnSetUnionWrong)

/-- 'laws.FnSetMeet': WHATEVER THE INPUT: true; the input reads as it did. -/
def fnSetMeetSpec : ChangeSpec := { name := "fnSetMeet", fn := fun _ => fun
  | [d] => { results := [.lit (.bool true)], args := [d] }
  | _ => none }
def fnSetMeetRow : OpenClaim := { program := "ytcjoidoodggfkaa", sum := "f9d8e9c055fc1f28d93cf9b03af8402f56bcc96277967dd85c82bf4c0ccefb1b", func := "loop.example/decisiontables/laws.FnSetMeet", spec := "fnSetMeet", unfollowed := true, recurses := true, apart := false }
def FnSetMeetSaid : Prop := fnSetMeetRow.holds Try.pinned (OpenSpec.ofChange fnSetMeetSpec)

/-- ITS FALSE NEIGHBOUR: 'it returns false'. Refute it at one input. -/
def fnSetMeetWrong : ChangeSpec := { name := "fnSetMeet", fn := fun _ => fun
  | [d] => { results := [.lit (.bool false)], args := [d] }
  | _ => none }
def FnSetMeetWrongFalsely : Prop := fnSetMeetRow.holds Try.pinned (OpenSpec.ofChange fnSetMeetWrong)

/-- 'laws.FnSetMinus': WHATEVER THE INPUT: true; the input reads as it did. -/
def fnSetMinusSpec : ChangeSpec := { name := "fnSetMinus", fn := fun _ => fun
  | [d] => { results := [.lit (.bool true)], args := [d] }
  | _ => none }
def fnSetMinusRow : OpenClaim := { program := "ytcjoidoodggfkaa", sum := "f9d8e9c055fc1f28d93cf9b03af8402f56bcc96277967dd85c82bf4c0ccefb1b", func := "loop.example/decisiontables/laws.FnSetMinus", spec := "fnSetMinus", unfollowed := true, recurses := true, apart := false }
def FnSetMinusSaid : Prop := fnSetMinusRow.holds Try.pinned (OpenSpec.ofChange fnSetMinusSpec)

/-- ITS FALSE NEIGHBOUR: 'it returns false'. Refute it at one input. -/
def fnSetMinusWrong : ChangeSpec := { name := "fnSetMinus", fn := fun _ => fun
  | [d] => { results := [.lit (.bool false)], args := [d] }
  | _ => none }
def FnSetMinusWrongFalsely : Prop := fnSetMinusRow.holds Try.pinned (OpenSpec.ofChange fnSetMinusWrong)

/-- 'laws.FnSetJoinBack': WHATEVER THE INPUT: true; the input reads as it did. -/
def fnSetJoinBackSpec : ChangeSpec := { name := "fnSetJoinBack", fn := fun _ => fun
  | [d] => { results := [.lit (.bool true)], args := [d] }
  | _ => none }
def fnSetJoinBackRow : OpenClaim := { program := "ytcjoidoodggfkaa", sum := "f9d8e9c055fc1f28d93cf9b03af8402f56bcc96277967dd85c82bf4c0ccefb1b", func := "loop.example/decisiontables/laws.FnSetJoinBack", spec := "fnSetJoinBack", unfollowed := true, recurses := true, apart := false }
def FnSetJoinBackSaid : Prop := fnSetJoinBackRow.holds Try.pinned (OpenSpec.ofChange fnSetJoinBackSpec)

/-- ITS FALSE NEIGHBOUR: 'it returns false'. Refute it at one input. -/
def fnSetJoinBackWrong : ChangeSpec := { name := "fnSetJoinBack", fn := fun _ => fun
  | [d] => { results := [.lit (.bool false)], args := [d] }
  | _ => none }
def FnSetJoinBackWrongFalsely : Prop := fnSetJoinBackRow.holds Try.pinned (OpenSpec.ofChange fnSetJoinBackWrong)

/-- 'laws.FnSetSpans': WHATEVER THE INPUT: true; the input reads as it did. -/
def fnSetSpansSpec : ChangeSpec := { name := "fnSetSpans", fn := fun _ => fun
  | [d] => { results := [.lit (.bool true)], args := [d] }
  | _ => none }
def fnSetSpansRow : OpenClaim := { program := "ytcjoidoodggfkaa", sum := "f9d8e9c055fc1f28d93cf9b03af8402f56bcc96277967dd85c82bf4c0ccefb1b", func := "loop.example/decisiontables/laws.FnSetSpans", spec := "fnSetSpans", unfollowed := true, recurses := true, apart := false }
def FnSetSpansSaid : Prop := fnSetSpansRow.holds Try.pinned (OpenSpec.ofChange fnSetSpansSpec)

/-- ITS FALSE NEIGHBOUR: 'it returns false'. Refute it at one input. -/
def fnSetSpansWrong : ChangeSpec := { name := "fnSetSpans", fn := fun _ => fun
  | [d] => { results := [.lit (.bool false)], args := [d] }
  | _ => none }
def FnSetSpansWrongFalsely : Prop := fnSetSpansRow.holds Try.pinned (OpenSpec.ofChange fnSetSpansWrong)

/- THE SECOND FORM. 'bulk': how many values and letters a reading holds, each counted each time it is reached (what is shared counts as often as it is met; a slice's spare places count too). A statement '..UptoSaid' is the law's where the arguments, and the package variables that the reading takes, are together of bulk at most 1048576: NARROWER than '..Said'. Prove '..Said' where nothing that the law and all that it calls make is longer than what came in: it says more and counts as full. Else prove '..UptoSaid'. A law counts once. -/
mutual
def uptoBulk {H : Type} : DataW H → Nat
  | .lit (.string bytes) => bytes.length + 1
  | .lit _ => 1
  | .nil => 1
  | .ptr d => uptoBulk d + 1
  | .slice elems spare => uptoBulkAll elems + uptoBulkAll spare + 1
  | .agg parts => uptoBulkAll parts + 1
  | .iface _ d => uptoBulk d + 1
  | .map entries => uptoBulkEntries entries + 1
  | .held _ => 1
def uptoBulkAll {H : Type} : List (DataW H) → Nat
  | [] => 0
  | d :: r => uptoBulk d + uptoBulkAll r
def uptoBulkEntries {H : Type} : List (Lit × DataW H) → Nat
  | [] => 0
  | x :: r => uptoBulkEntry x + uptoBulkEntries r
def uptoBulkEntry {H : Type} : Lit × DataW H → Nat
  | (.string bytes, d) => bytes.length + uptoBulk d + 1
  | (_, d) => uptoBulk d + 1
 end
def uptoSmall : (H : Type) → List (DataW H) → Bool := fun _ ds => decide (uptoBulkAll ds ≤ 1048576)
def OpenSpec.upto (s : _root_.Go.ChangeSpec) : _root_.Go.OpenSpec := { _root_.Go.OpenSpec.ofChange s with cond := some uptoSmall }

/-- 'laws.FnSetOf', WHERE WHAT IT READS IS OF BULK AT MOST 1048576: true; the input reads as it did. -/
def fnSetOfUptoRow : OpenClaim := { program := "ytcjoidoodggfkaa", sum := "f9d8e9c055fc1f28d93cf9b03af8402f56bcc96277967dd85c82bf4c0ccefb1b", func := "loop.example/decisiontables/laws.FnSetOf", spec := "fnSetOf", unfollowed := true, recurses := true, apart := false, narrowed := true }
def FnSetOfUptoSaid : Prop := fnSetOfUptoRow.holds Try.pinned (OpenSpec.upto fnSetOfSpec)

/-- 'laws.FnSetJoins', WHERE WHAT IT READS IS OF BULK AT MOST 1048576: true; the input reads as it did. -/
def fnSetJoinsUptoRow : OpenClaim := { program := "ytcjoidoodggfkaa", sum := "f9d8e9c055fc1f28d93cf9b03af8402f56bcc96277967dd85c82bf4c0ccefb1b", func := "loop.example/decisiontables/laws.FnSetJoins", spec := "fnSetJoins", unfollowed := true, recurses := true, apart := false, narrowed := true }
def FnSetJoinsUptoSaid : Prop := fnSetJoinsUptoRow.holds Try.pinned (OpenSpec.upto fnSetJoinsSpec)

/-- 'laws.FnSetSize', WHERE WHAT IT READS IS OF BULK AT MOST 1048576: true; the input reads as it did. -/
def fnSetSizeUptoRow : OpenClaim := { program := "ytcjoidoodggfkaa", sum := "f9d8e9c055fc1f28d93cf9b03af8402f56bcc96277967dd85c82bf4c0ccefb1b", func := "loop.example/decisiontables/laws.FnSetSize", spec := "fnSetSize", apart := false, narrowed := true }
def FnSetSizeUptoSaid : Prop := fnSetSizeUptoRow.holds Try.pinned (OpenSpec.upto fnSetSizeSpec)

/-- 'laws.FnSetWithin', WHERE WHAT IT READS IS OF BULK AT MOST 1048576: true; the input reads as it did. -/
def fnSetWithinUptoRow : OpenClaim := { program := "ytcjoidoodggfkaa", sum := "f9d8e9c055fc1f28d93cf9b03af8402f56bcc96277967dd85c82bf4c0ccefb1b", func := "loop.example/decisiontables/laws.FnSetWithin", spec := "fnSetWithin", unfollowed := true, recurses := true, apart := false, narrowed := true }
def FnSetWithinUptoSaid : Prop := fnSetWithinUptoRow.holds Try.pinned (OpenSpec.upto fnSetWithinSpec)

/-- 'laws.FnSetSame', WHERE WHAT IT READS IS OF BULK AT MOST 1048576: true; the input reads as it did. -/
def fnSetSameUptoRow : OpenClaim := { program := "ytcjoidoodggfkaa", sum := "f9d8e9c055fc1f28d93cf9b03af8402f56bcc96277967dd85c82bf4c0ccefb1b", func := "loop.example/decisiontables/laws.FnSetSame", spec := "fnSetSame", unfollowed := true, recurses := true, apart := false, narrowed := true }
def FnSetSameUptoSaid : Prop := fnSetSameUptoRow.holds Try.pinned (OpenSpec.upto fnSetSameSpec)

/-- 'laws.FnSetFirst', WHERE WHAT IT READS IS OF BULK AT MOST 1048576: true; the input reads as it did. -/
def fnSetFirstUptoRow : OpenClaim := { program := "ytcjoidoodggfkaa", sum := "f9d8e9c055fc1f28d93cf9b03af8402f56bcc96277967dd85c82bf4c0ccefb1b", func := "loop.example/decisiontables/laws.FnSetFirst", spec := "fnSetFirst", apart := false, narrowed := true }
def FnSetFirstUptoSaid : Prop := fnSetFirstUptoRow.holds Try.pinned (OpenSpec.upto fnSetFirstSpec)

/-- 'laws.FnSetHas', WHERE WHAT IT READS IS OF BULK AT MOST 1048576: true; the input reads as it did. -/
def fnSetHasUptoRow : OpenClaim := { program := "ytcjoidoodggfkaa", sum := "f9d8e9c055fc1f28d93cf9b03af8402f56bcc96277967dd85c82bf4c0ccefb1b", func := "loop.example/decisiontables/laws.FnSetHas", spec := "fnSetHas", unfollowed := true, recurses := true, apart := false, narrowed := true }
def FnSetHasUptoSaid : Prop := fnSetHasUptoRow.holds Try.pinned (OpenSpec.upto fnSetHasSpec)

/-- 'laws.FnSetUnion', WHERE WHAT IT READS IS OF BULK AT MOST 1048576: true; the input reads as it did. -/
def fnSetUnionUptoRow : OpenClaim := { program := "ytcjoidoodggfkaa", sum := "f9d8e9c055fc1f28d93cf9b03af8402f56bcc96277967dd85c82bf4c0ccefb1b", func := "loop.example/decisiontables/laws.FnSetUnion", spec := "fnSetUnion", unfollowed := true, recurses := true, apart := false, narrowed := true }
def FnSetUnionUptoSaid : Prop := fnSetUnionUptoRow.holds Try.pinned (OpenSpec.upto fnSetUnionSpec)

/-- 'laws.FnSetMeet', WHERE WHAT IT READS IS OF BULK AT MOST 1048576: true; the input reads as it did. -/
def fnSetMeetUptoRow : OpenClaim := { program := "ytcjoidoodggfkaa", sum := "f9d8e9c055fc1f28d93cf9b03af8402f56bcc96277967dd85c82bf4c0ccefb1b", func := "loop.example/decisiontables/laws.FnSetMeet", spec := "fnSetMeet", unfollowed := true, recurses := true, apart := false, narrowed := true }
def FnSetMeetUptoSaid : Prop := fnSetMeetUptoRow.holds Try.pinned (OpenSpec.upto fnSetMeetSpec)

/-- 'laws.FnSetMinus', WHERE WHAT IT READS IS OF BULK AT MOST 1048576: true; the input reads as it did. -/
def fnSetMinusUptoRow : OpenClaim := { program := "ytcjoidoodggfkaa", sum := "f9d8e9c055fc1f28d93cf9b03af8402f56bcc96277967dd85c82bf4c0ccefb1b", func := "loop.example/decisiontables/laws.FnSetMinus", spec := "fnSetMinus", unfollowed := true, recurses := true, apart := false, narrowed := true }
def FnSetMinusUptoSaid : Prop := fnSetMinusUptoRow.holds Try.pinned (OpenSpec.upto fnSetMinusSpec)

/-- 'laws.FnSetJoinBack', WHERE WHAT IT READS IS OF BULK AT MOST 1048576: true; the input reads as it did. -/
def fnSetJoinBackUptoRow : OpenClaim := { program := "ytcjoidoodggfkaa", sum := "f9d8e9c055fc1f28d93cf9b03af8402f56bcc96277967dd85c82bf4c0ccefb1b", func := "loop.example/decisiontables/laws.FnSetJoinBack", spec := "fnSetJoinBack", unfollowed := true, recurses := true, apart := false, narrowed := true }
def FnSetJoinBackUptoSaid : Prop := fnSetJoinBackUptoRow.holds Try.pinned (OpenSpec.upto fnSetJoinBackSpec)

/-- 'laws.FnSetSpans', WHERE WHAT IT READS IS OF BULK AT MOST 1048576: true; the input reads as it did. -/
def fnSetSpansUptoRow : OpenClaim := { program := "ytcjoidoodggfkaa", sum := "f9d8e9c055fc1f28d93cf9b03af8402f56bcc96277967dd85c82bf4c0ccefb1b", func := "loop.example/decisiontables/laws.FnSetSpans", spec := "fnSetSpans", unfollowed := true, recurses := true, apart := false, narrowed := true }
def FnSetSpansUptoSaid : Prop := fnSetSpansUptoRow.holds Try.pinned (OpenSpec.upto fnSetSpansSpec)

end Rows
end Go.Proofs.Ytcjoidoodggfkaa
