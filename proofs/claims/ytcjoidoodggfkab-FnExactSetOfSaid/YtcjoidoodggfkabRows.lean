/-
  No cell of these rows narrows 'for every input' (looked for: loops, veiled, ifaces, maps, wideKeys, modest, calm, conditions, laid).
  DERIVED. THE GIVEN ROWS OF THIS SEAT. 10 by the template 'for every input the law returns true; each argument reads behind the call as it read before'; 0 by the template 'total and deterministic' (their statements: YtcjoidoodggfkabTotals.lean).
  GIVEN WITH THE SEED: the statements are not yours to turn. If you find one false, say at which input.
  Laid BY PROGRAM, IN A SANDBOX (cutbox-rows.mjs): the forced cells as the released guide's own fill.sh prints them over the translation 0229e7db13b3b4bc… (all of the seat's roots in one cut). By AI agents, Wed Nov 11 2026. No macro, syntax, notation, axiom, sorry.
-/
import Derived.Test.YtcjoidoodggfkabChecked
import GoSem.Claim
import GoSem.ClaimJoined
import GoSem.ClaimMapViews
import Derived.JoinedTies
import Derived.KernelRfl
namespace Go.Proofs.Ytcjoidoodggfkab
/- THE CELL 'sum', in the pinned program and in every row, IS THE sha256 OF THE DUMP (.gsa) THAT YtcjoidoodggfkabProg.lean LOADS. Nothing in Lean hashes anything: it is a label: what it is worth is what the hold of that sum in a sandbox is worth. -/
noncomputable def Try.pinned : Pinned := { name := "ytcjoidoodggfkab", sum := "0229e7db13b3b4bc12d01f2b7e0f5653ccf1b9130d9467f13fa92289d7211151", checked := Try.checked }
namespace Rows
def none {H : Type} : Left H := { results := [], args := [] }

/-- 'laws.FnExactSetValid': WHATEVER THE INPUT: true; the input reads as it did. -/
def fnExactSetValidSpec : ChangeSpec := { name := "fnExactSetValid", fn := fun _ => fun
  | [d] => { results := [.lit (.bool true)], args := [d] }
  | _ => none }
def fnExactSetValidRow : OpenClaim := { program := "ytcjoidoodggfkab", sum := "0229e7db13b3b4bc12d01f2b7e0f5653ccf1b9130d9467f13fa92289d7211151", func := "loop.example/decisiontables/laws.FnExactSetValid", spec := "fnExactSetValid", apart := false }
def FnExactSetValidSaid : Prop := fnExactSetValidRow.holds Try.pinned (OpenSpec.ofChange fnExactSetValidSpec)

/-- ITS FALSE NEIGHBOUR: 'it returns false'. Refute it at one input. -/
def fnExactSetValidWrong : ChangeSpec := { name := "fnExactSetValid", fn := fun _ => fun
  | [d] => { results := [.lit (.bool false)], args := [d] }
  | _ => none }
def FnExactSetValidWrongFalsely : Prop := fnExactSetValidRow.holds Try.pinned (OpenSpec.ofChange fnExactSetValidWrong)

/-- 'laws.FnExactSetHas': WHATEVER THE INPUT: true; the input reads as it did. -/
def fnExactSetHasSpec : ChangeSpec := { name := "fnExactSetHas", fn := fun _ => fun
  | [d1, d2] => { results := [.lit (.bool true)], args := [d1, d2] }
  | _ => none }
def fnExactSetHasRow : OpenClaim := { program := "ytcjoidoodggfkab", sum := "0229e7db13b3b4bc12d01f2b7e0f5653ccf1b9130d9467f13fa92289d7211151", func := "loop.example/decisiontables/laws.FnExactSetHas", spec := "fnExactSetHas", apart := false }
def FnExactSetHasSaid : Prop := fnExactSetHasRow.holds Try.pinned (OpenSpec.ofChange fnExactSetHasSpec)

/-- ITS FALSE NEIGHBOUR: 'it returns false'. Refute it at one input. -/
def fnExactSetHasWrong : ChangeSpec := { name := "fnExactSetHas", fn := fun _ => fun
  | [d1, d2] => { results := [.lit (.bool false)], args := [d1, d2] }
  | _ => none }
def FnExactSetHasWrongFalsely : Prop := fnExactSetHasRow.holds Try.pinned (OpenSpec.ofChange fnExactSetHasWrong)

/-- 'laws.FnExactSetOf': WHATEVER THE INPUT: true; the input reads as it did. -/
def fnExactSetOfSpec : ChangeSpec := { name := "fnExactSetOf", fn := fun _ => fun
  | [d] => { results := [.lit (.bool true)], args := [d] }
  | _ => none }
def fnExactSetOfRow : OpenClaim := { program := "ytcjoidoodggfkab", sum := "0229e7db13b3b4bc12d01f2b7e0f5653ccf1b9130d9467f13fa92289d7211151", func := "loop.example/decisiontables/laws.FnExactSetOf", spec := "fnExactSetOf", unfollowed := true, recurses := true, apart := false }
def FnExactSetOfSaid : Prop := fnExactSetOfRow.holds Try.pinned (OpenSpec.ofChange fnExactSetOfSpec)

/-- ITS FALSE NEIGHBOUR: 'it returns false'. Refute it at one input. -/
def fnExactSetOfWrong : ChangeSpec := { name := "fnExactSetOf", fn := fun _ => fun
  | [d] => { results := [.lit (.bool false)], args := [d] }
  | _ => none }
def FnExactSetOfWrongFalsely : Prop := fnExactSetOfRow.holds Try.pinned (OpenSpec.ofChange fnExactSetOfWrong)

/-- 'laws.FnExactSetUnion': WHATEVER THE INPUT: true; the input reads as it did. -/
def fnExactSetUnionSpec : ChangeSpec := { name := "fnExactSetUnion", fn := fun _ => fun
  | [d1, d2] => { results := [.lit (.bool true)], args := [d1, d2] }
  | _ => none }
def fnExactSetUnionRow : OpenClaim := { program := "ytcjoidoodggfkab", sum := "0229e7db13b3b4bc12d01f2b7e0f5653ccf1b9130d9467f13fa92289d7211151", func := "loop.example/decisiontables/laws.FnExactSetUnion", spec := "fnExactSetUnion", unfollowed := true, recurses := true, apart := false }
def FnExactSetUnionSaid : Prop := fnExactSetUnionRow.holds Try.pinned (OpenSpec.ofChange fnExactSetUnionSpec)

/-- ITS FALSE NEIGHBOUR: 'it returns false'. Refute it at one input. -/
def fnExactSetUnionWrong : ChangeSpec := { name := "fnExactSetUnion", fn := fun _ => fun
  | [d1, d2] => { results := [.lit (.bool false)], args := [d1, d2] }
  | _ => none }
def FnExactSetUnionWrongFalsely : Prop := fnExactSetUnionRow.holds Try.pinned (OpenSpec.ofChange fnExactSetUnionWrong)

/-- 'laws.FnExactSetMeet': WHATEVER THE INPUT: true; the input reads as it did. -/
def fnExactSetMeetSpec : ChangeSpec := { name := "fnExactSetMeet", fn := fun _ => fun
  | [d1, d2] => { results := [.lit (.bool true)], args := [d1, d2] }
  | _ => none }
def fnExactSetMeetRow : OpenClaim := { program := "ytcjoidoodggfkab", sum := "0229e7db13b3b4bc12d01f2b7e0f5653ccf1b9130d9467f13fa92289d7211151", func := "loop.example/decisiontables/laws.FnExactSetMeet", spec := "fnExactSetMeet", apart := false }
def FnExactSetMeetSaid : Prop := fnExactSetMeetRow.holds Try.pinned (OpenSpec.ofChange fnExactSetMeetSpec)

/-- ITS FALSE NEIGHBOUR: 'it returns false'. Refute it at one input. -/
def fnExactSetMeetWrong : ChangeSpec := { name := "fnExactSetMeet", fn := fun _ => fun
  | [d1, d2] => { results := [.lit (.bool false)], args := [d1, d2] }
  | _ => none }
def FnExactSetMeetWrongFalsely : Prop := fnExactSetMeetRow.holds Try.pinned (OpenSpec.ofChange fnExactSetMeetWrong)

/-- 'laws.FnExactSetMinus': WHATEVER THE INPUT: true; the input reads as it did. -/
def fnExactSetMinusSpec : ChangeSpec := { name := "fnExactSetMinus", fn := fun _ => fun
  | [d1, d2] => { results := [.lit (.bool true)], args := [d1, d2] }
  | _ => none }
def fnExactSetMinusRow : OpenClaim := { program := "ytcjoidoodggfkab", sum := "0229e7db13b3b4bc12d01f2b7e0f5653ccf1b9130d9467f13fa92289d7211151", func := "loop.example/decisiontables/laws.FnExactSetMinus", spec := "fnExactSetMinus", apart := false }
def FnExactSetMinusSaid : Prop := fnExactSetMinusRow.holds Try.pinned (OpenSpec.ofChange fnExactSetMinusSpec)

/-- ITS FALSE NEIGHBOUR: 'it returns false'. Refute it at one input. -/
def fnExactSetMinusWrong : ChangeSpec := { name := "fnExactSetMinus", fn := fun _ => fun
  | [d1, d2] => { results := [.lit (.bool false)], args := [d1, d2] }
  | _ => none }
def FnExactSetMinusWrongFalsely : Prop := fnExactSetMinusRow.holds Try.pinned (OpenSpec.ofChange fnExactSetMinusWrong)

/-- 'laws.FnExactSetWithin': WHATEVER THE INPUT: true; the input reads as it did. -/
def fnExactSetWithinSpec : ChangeSpec := { name := "fnExactSetWithin", fn := fun _ => fun
  | [d1, d2] => { results := [.lit (.bool true)], args := [d1, d2] }
  | _ => none }
def fnExactSetWithinRow : OpenClaim := { program := "ytcjoidoodggfkab", sum := "0229e7db13b3b4bc12d01f2b7e0f5653ccf1b9130d9467f13fa92289d7211151", func := "loop.example/decisiontables/laws.FnExactSetWithin", spec := "fnExactSetWithin", unfollowed := true, recurses := true, apart := false }
def FnExactSetWithinSaid : Prop := fnExactSetWithinRow.holds Try.pinned (OpenSpec.ofChange fnExactSetWithinSpec)

/-- ITS FALSE NEIGHBOUR: 'it returns false'. Refute it at one input. -/
def fnExactSetWithinWrong : ChangeSpec := { name := "fnExactSetWithin", fn := fun _ => fun
  | [d1, d2] => { results := [.lit (.bool false)], args := [d1, d2] }
  | _ => none }
def FnExactSetWithinWrongFalsely : Prop := fnExactSetWithinRow.holds Try.pinned (OpenSpec.ofChange fnExactSetWithinWrong)

/-- 'laws.FnExactSetSame': WHATEVER THE INPUT: true; the input reads as it did. -/
def fnExactSetSameSpec : ChangeSpec := { name := "fnExactSetSame", fn := fun _ => fun
  | [d1, d2] => { results := [.lit (.bool true)], args := [d1, d2] }
  | _ => none }
def fnExactSetSameRow : OpenClaim := { program := "ytcjoidoodggfkab", sum := "0229e7db13b3b4bc12d01f2b7e0f5653ccf1b9130d9467f13fa92289d7211151", func := "loop.example/decisiontables/laws.FnExactSetSame", spec := "fnExactSetSame", apart := false }
def FnExactSetSameSaid : Prop := fnExactSetSameRow.holds Try.pinned (OpenSpec.ofChange fnExactSetSameSpec)

/-- ITS FALSE NEIGHBOUR: 'it returns false'. Refute it at one input. -/
def fnExactSetSameWrong : ChangeSpec := { name := "fnExactSetSame", fn := fun _ => fun
  | [d1, d2] => { results := [.lit (.bool false)], args := [d1, d2] }
  | _ => none }
def FnExactSetSameWrongFalsely : Prop := fnExactSetSameRow.holds Try.pinned (OpenSpec.ofChange fnExactSetSameWrong)

/-- 'laws.FnExactSetSize': WHATEVER THE INPUT: true; the input reads as it did. -/
def fnExactSetSizeSpec : ChangeSpec := { name := "fnExactSetSize", fn := fun _ => fun
  | [d] => { results := [.lit (.bool true)], args := [d] }
  | _ => none }
def fnExactSetSizeRow : OpenClaim := { program := "ytcjoidoodggfkab", sum := "0229e7db13b3b4bc12d01f2b7e0f5653ccf1b9130d9467f13fa92289d7211151", func := "loop.example/decisiontables/laws.FnExactSetSize", spec := "fnExactSetSize", apart := false }
def FnExactSetSizeSaid : Prop := fnExactSetSizeRow.holds Try.pinned (OpenSpec.ofChange fnExactSetSizeSpec)

/-- ITS FALSE NEIGHBOUR: 'it returns false'. Refute it at one input. -/
def fnExactSetSizeWrong : ChangeSpec := { name := "fnExactSetSize", fn := fun _ => fun
  | [d] => { results := [.lit (.bool false)], args := [d] }
  | _ => none }
def FnExactSetSizeWrongFalsely : Prop := fnExactSetSizeRow.holds Try.pinned (OpenSpec.ofChange fnExactSetSizeWrong)

/-- 'laws.FnExactSetFirst': WHATEVER THE INPUT: true; the input reads as it did. -/
def fnExactSetFirstSpec : ChangeSpec := { name := "fnExactSetFirst", fn := fun _ => fun
  | [d] => { results := [.lit (.bool true)], args := [d] }
  | _ => none }
def fnExactSetFirstRow : OpenClaim := { program := "ytcjoidoodggfkab", sum := "0229e7db13b3b4bc12d01f2b7e0f5653ccf1b9130d9467f13fa92289d7211151", func := "loop.example/decisiontables/laws.FnExactSetFirst", spec := "fnExactSetFirst", apart := false }
def FnExactSetFirstSaid : Prop := fnExactSetFirstRow.holds Try.pinned (OpenSpec.ofChange fnExactSetFirstSpec)

/-- ITS FALSE NEIGHBOUR: 'it returns false'. Refute it at one input. -/
def fnExactSetFirstWrong : ChangeSpec := { name := "fnExactSetFirst", fn := fun _ => fun
  | [d] => { results := [.lit (.bool false)], args := [d] }
  | _ => none }
def FnExactSetFirstWrongFalsely : Prop := fnExactSetFirstRow.holds Try.pinned (OpenSpec.ofChange fnExactSetFirstWrong)

/- THE SECOND FORM. 'bulk': how many values and letters a reading holds, each counted each time it is reached (what is shared counts as often as it is met; a slice's spare places count too). A statement '..UptoSaid' is the law's where the arguments, and the package variables that the reading takes, are together of bulk at most 1048576: NARROWER than '..Said'. Prove '..Said' where nothing that the law and all that it calls make is longer than what came in: it says more and counts as full. Else prove '..UptoSaid'. A law counts once. -/
mutual
def uptoBulk {H : Type} : DataW H → Nat
  | .lit (.string bytes) => bytes.length + 1
  | .lit _ => 1
  | .nil => 1
  | .ptr d => uptoBulk d + 1
  | .slice elems spare => uptoBulkAll elems + uptoBulkAll spare + 1
  | .agg parts => uptoBulkAll parts + 1
  | .iface _ d => uptoBulk d + 1
  | .map entries => uptoBulkEntries entries + 1
  | .held _ => 1
def uptoBulkAll {H : Type} : List (DataW H) → Nat
  | [] => 0
  | d :: r => uptoBulk d + uptoBulkAll r
def uptoBulkEntries {H : Type} : List (Lit × DataW H) → Nat
  | [] => 0
  | x :: r => uptoBulkEntry x + uptoBulkEntries r
def uptoBulkEntry {H : Type} : Lit × DataW H → Nat
  | (.string bytes, d) => bytes.length + uptoBulk d + 1
  | (_, d) => uptoBulk d + 1
 end
def uptoSmall : (H : Type) → List (DataW H) → Bool := fun _ ds => decide (uptoBulkAll ds ≤ 1048576)
def OpenSpec.upto (s : _root_.Go.ChangeSpec) : _root_.Go.OpenSpec := { _root_.Go.OpenSpec.ofChange s with cond := some uptoSmall }

/-- 'laws.FnExactSetValid', WHERE WHAT IT READS IS OF BULK AT MOST 1048576: true; the input reads as it did. -/
def fnExactSetValidUptoRow : OpenClaim := { program := "ytcjoidoodggfkab", sum := "0229e7db13b3b4bc12d01f2b7e0f5653ccf1b9130d9467f13fa92289d7211151", func := "loop.example/decisiontables/laws.FnExactSetValid", spec := "fnExactSetValid", apart := false, narrowed := true }
def FnExactSetValidUptoSaid : Prop := fnExactSetValidUptoRow.holds Try.pinned (OpenSpec.upto fnExactSetValidSpec)

/-- 'laws.FnExactSetHas', WHERE WHAT IT READS IS OF BULK AT MOST 1048576: true; the input reads as it did. -/
def fnExactSetHasUptoRow : OpenClaim := { program := "ytcjoidoodggfkab", sum := "0229e7db13b3b4bc12d01f2b7e0f5653ccf1b9130d9467f13fa92289d7211151", func := "loop.example/decisiontables/laws.FnExactSetHas", spec := "fnExactSetHas", apart := false, narrowed := true }
def FnExactSetHasUptoSaid : Prop := fnExactSetHasUptoRow.holds Try.pinned (OpenSpec.upto fnExactSetHasSpec)

/-- 'laws.FnExactSetOf', WHERE WHAT IT READS IS OF BULK AT MOST 1048576: true; the input reads as it did. -/
def fnExactSetOfUptoRow : OpenClaim := { program := "ytcjoidoodggfkab", sum := "0229e7db13b3b4bc12d01f2b7e0f5653ccf1b9130d9467f13fa92289d7211151", func := "loop.example/decisiontables/laws.FnExactSetOf", spec := "fnExactSetOf", unfollowed := true, recurses := true, apart := false, narrowed := true }
def FnExactSetOfUptoSaid : Prop := fnExactSetOfUptoRow.holds Try.pinned (OpenSpec.upto fnExactSetOfSpec)

/-- 'laws.FnExactSetUnion', WHERE WHAT IT READS IS OF BULK AT MOST 1048576: true; the input reads as it did. -/
def fnExactSetUnionUptoRow : OpenClaim := { program := "ytcjoidoodggfkab", sum := "0229e7db13b3b4bc12d01f2b7e0f5653ccf1b9130d9467f13fa92289d7211151", func := "loop.example/decisiontables/laws.FnExactSetUnion", spec := "fnExactSetUnion", unfollowed := true, recurses := true, apart := false, narrowed := true }
def FnExactSetUnionUptoSaid : Prop := fnExactSetUnionUptoRow.holds Try.pinned (OpenSpec.upto fnExactSetUnionSpec)

/-- 'laws.FnExactSetMeet', WHERE WHAT IT READS IS OF BULK AT MOST 1048576: true; the input reads as it did. -/
def fnExactSetMeetUptoRow : OpenClaim := { program := "ytcjoidoodggfkab", sum := "0229e7db13b3b4bc12d01f2b7e0f5653ccf1b9130d9467f13fa92289d7211151", func := "loop.example/decisiontables/laws.FnExactSetMeet", spec := "fnExactSetMeet", apart := false, narrowed := true }
def FnExactSetMeetUptoSaid : Prop := fnExactSetMeetUptoRow.holds Try.pinned (OpenSpec.upto fnExactSetMeetSpec)

/-- 'laws.FnExactSetMinus', WHERE WHAT IT READS IS OF BULK AT MOST 1048576: true; the input reads as it did. -/
def fnExactSetMinusUptoRow : OpenClaim := { program := "ytcjoidoodggfkab", sum := "0229e7db13b3b4bc12d01f2b7e0f5653ccf1b9130d9467f13fa92289d7211151", func := "loop.example/decisiontables/laws.FnExactSetMinus", spec := "fnExactSetMinus", apart := false, narrowed := true }
def FnExactSetMinusUptoSaid : Prop := fnExactSetMinusUptoRow.holds Try.pinned (OpenSpec.upto fnExactSetMinusSpec)

/-- 'laws.FnExactSetWithin', WHERE WHAT IT READS IS OF BULK AT MOST 1048576: true; the input reads as it did. -/
def fnExactSetWithinUptoRow : OpenClaim := { program := "ytcjoidoodggfkab", sum := "0229e7db13b3b4bc12d01f2b7e0f5653ccf1b9130d9467f13fa92289d7211151", func := "loop.example/decisiontables/laws.FnExactSetWithin", spec := "fnExactSetWithin", unfollowed := true, recurses := true, apart := false, narrowed := true }
def FnExactSetWithinUptoSaid : Prop := fnExactSetWithinUptoRow.holds Try.pinned (OpenSpec.upto fnExactSetWithinSpec)

/-- 'laws.FnExactSetSame', WHERE WHAT IT READS IS OF BULK AT MOST 1048576: true; the input reads as it did. -/
def fnExactSetSameUptoRow : OpenClaim := { program := "ytcjoidoodggfkab", sum := "0229e7db13b3b4bc12d01f2b7e0f5653ccf1b9130d9467f13fa92289d7211151", func := "loop.example/decisiontables/laws.FnExactSetSame", spec := "fnExactSetSame", apart := false, narrowed := true }
def FnExactSetSameUptoSaid : Prop := fnExactSetSameUptoRow.holds Try.pinned (OpenSpec.upto fnExactSetSameSpec)

/-- 'laws.FnExactSetSize', WHERE WHAT IT READS IS OF BULK AT MOST 1048576: true; the input reads as it did. -/
def fnExactSetSizeUptoRow : OpenClaim := { program := "ytcjoidoodggfkab", sum := "0229e7db13b3b4bc12d01f2b7e0f5653ccf1b9130d9467f13fa92289d7211151", func := "loop.example/decisiontables/laws.FnExactSetSize", spec := "fnExactSetSize", apart := false, narrowed := true }
def FnExactSetSizeUptoSaid : Prop := fnExactSetSizeUptoRow.holds Try.pinned (OpenSpec.upto fnExactSetSizeSpec)

/-- 'laws.FnExactSetFirst', WHERE WHAT IT READS IS OF BULK AT MOST 1048576: true; the input reads as it did. -/
def fnExactSetFirstUptoRow : OpenClaim := { program := "ytcjoidoodggfkab", sum := "0229e7db13b3b4bc12d01f2b7e0f5653ccf1b9130d9467f13fa92289d7211151", func := "loop.example/decisiontables/laws.FnExactSetFirst", spec := "fnExactSetFirst", apart := false, narrowed := true }
def FnExactSetFirstUptoSaid : Prop := fnExactSetFirstUptoRow.holds Try.pinned (OpenSpec.upto fnExactSetFirstSpec)

end Rows
end Go.Proofs.Ytcjoidoodggfkab
