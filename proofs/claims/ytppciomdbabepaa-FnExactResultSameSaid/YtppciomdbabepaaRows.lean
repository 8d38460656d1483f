/-
  No cell of these rows narrows 'for every input' (looked for: loops, veiled, ifaces, maps, wideKeys, modest, calm, conditions, laid).
  DERIVED. THE GIVEN ROWS OF THIS SEAT. 8 by the template 'for every input the law returns true; each argument reads behind the call as it read before'; 0 by the template 'total and deterministic' (their statements: YtppciomdbabepaaTotals.lean).
  GIVEN WITH THE SEED: the statements are not yours to turn. If you find one false, say at which input.
  Laid BY PROGRAM, IN A SANDBOX (cutbox-rows.mjs): the forced cells as the released guide's own fill.sh prints them over the translation 7b9d311312e2d655… (all of the seat's roots in one cut). By AI agents, Wed Nov 11 2026. No macro, syntax, notation, axiom, sorry.
-/
import Derived.Test.YtppciomdbabepaaChecked
import GoSem.Claim
import GoSem.ClaimJoined
import GoSem.ClaimMapViews
import Derived.JoinedTies
import Derived.KernelRfl
namespace Go.Proofs.Ytppciomdbabepaa
/- THE CELL 'sum', in the pinned program and in every row, IS THE sha256 OF THE DUMP (.gsa) THAT YtppciomdbabepaaProg.lean LOADS. Nothing in Lean hashes anything: it is a label: what it is worth is what the hold of that sum in a sandbox is worth. -/
noncomputable def Try.pinned : Pinned := { name := "ytppciomdbabepaa", sum := "7b9d311312e2d655fc71dee3139aed2d1f772abdbc9e683a14777ed20c0447d2", checked := Try.checked }
namespace Rows
def none {H : Type} : Left H := { results := [], args := [] }

/-- 'laws.FnExactTableValid': WHATEVER THE INPUT: true; the input reads as it did. -/
def fnExactTableValidSpec : ChangeSpec := { name := "fnExactTableValid", fn := fun _ => fun
  | [d] => { results := [.lit (.bool true)], args := [d] }
  | _ => none }
def fnExactTableValidRow : OpenClaim := { program := "ytppciomdbabepaa", sum := "7b9d311312e2d655fc71dee3139aed2d1f772abdbc9e683a14777ed20c0447d2", func := "loop.example/decisiontables/laws.FnExactTableValid", spec := "fnExactTableValid", unfollowed := true, recurses := true, apart := false }
def FnExactTableValidSaid : Prop := fnExactTableValidRow.holds Try.pinned (OpenSpec.ofChange fnExactTableValidSpec)

/-- ITS FALSE NEIGHBOUR: 'it returns false'. Refute it at one input. -/
def fnExactTableValidWrong : ChangeSpec := { name := "fnExactTableValid", fn := fun _ => fun
  | [d] => { results := [.lit (.bool false)], args := [d] }
  | _ => none }
def FnExactTableValidWrongFalsely : Prop := fnExactTableValidRow.holds Try.pinned (OpenSpec.ofChange fnExactTableValidWrong)

/-- 'laws.FnExactInputValid': WHATEVER THE INPUT: true; the input reads as it did. -/
def fnExactInputValidSpec : ChangeSpec := { name := "fnExactInputValid", fn := fun _ => fun
  | [d1, d2] => { results := [.lit (.bool true)], args := [d1, d2] }
  | _ => none }
def fnExactInputValidRow : OpenClaim := { program := "ytppciomdbabepaa", sum := "7b9d311312e2d655fc71dee3139aed2d1f772abdbc9e683a14777ed20c0447d2", func := "loop.example/decisiontables/laws.FnExactInputValid", spec := "fnExactInputValid", unfollowed := true, recurses := true, apart := false }
def FnExactInputValidSaid : Prop := fnExactInputValidRow.holds Try.pinned (OpenSpec.ofChange fnExactInputValidSpec)

/-- ITS FALSE NEIGHBOUR: 'it returns false'. Refute it at one input. -/
def fnExactInputValidWrong : ChangeSpec := { name := "fnExactInputValid", fn := fun _ => fun
  | [d1, d2] => { results := [.lit (.bool false)], args := [d1, d2] }
  | _ => none }
def FnExactInputValidWrongFalsely : Prop := fnExactInputValidRow.holds Try.pinned (OpenSpec.ofChange fnExactInputValidWrong)

/-- 'laws.FnExactRuleMatches': WHATEVER THE INPUT: true; the input reads as it did. -/
def fnExactRuleMatchesSpec : ChangeSpec := { name := "fnExactRuleMatches", fn := fun _ => fun
  | [d1, d2, d3] => { results := [.lit (.bool true)], args := [d1, d2, d3] }
  | _ => none }
def fnExactRuleMatchesRow : OpenClaim := { program := "ytppciomdbabepaa", sum := "7b9d311312e2d655fc71dee3139aed2d1f772abdbc9e683a14777ed20c0447d2", func := "loop.example/decisiontables/laws.FnExactRuleMatches", spec := "fnExactRuleMatches", unfollowed := true, recurses := true, apart := false }
def FnExactRuleMatchesSaid : Prop := fnExactRuleMatchesRow.holds Try.pinned (OpenSpec.ofChange fnExactRuleMatchesSpec)

/-- ITS FALSE NEIGHBOUR: 'it returns false'. Refute it at one input. -/
def fnExactRuleMatchesWrong : ChangeSpec := { name := "fnExactRuleMatches", fn := fun _ => fun
  | [d1, d2, d3] => { results := [.lit (.bool false)], args := [d1, d2, d3] }
  | _ => none }
def FnExactRuleMatchesWrongFalsely : Prop := fnExactRuleMatchesRow.holds Try.pinned (OpenSpec.ofChange fnExactRuleMatchesWrong)

/-- 'laws.FnExactMatchesOf': WHATEVER THE INPUT: true; the input reads as it did. -/
def fnExactMatchesOfSpec : ChangeSpec := { name := "fnExactMatchesOf", fn := fun _ => fun
  | [d1, d2] => { results := [.lit (.bool true)], args := [d1, d2] }
  | _ => none }
def fnExactMatchesOfRow : OpenClaim := { program := "ytppciomdbabepaa", sum := "7b9d311312e2d655fc71dee3139aed2d1f772abdbc9e683a14777ed20c0447d2", func := "loop.example/decisiontables/laws.FnExactMatchesOf", spec := "fnExactMatchesOf", unfollowed := true, recurses := true, apart := false }
def FnExactMatchesOfSaid : Prop := fnExactMatchesOfRow.holds Try.pinned (OpenSpec.ofChange fnExactMatchesOfSpec)

/-- ITS FALSE NEIGHBOUR: 'it returns false'. Refute it at one input. -/
def fnExactMatchesOfWrong : ChangeSpec := { name := "fnExactMatchesOf", fn := fun _ => fun
  | [d1, d2] => { results := [.lit (.bool false)], args := [d1, d2] }
  | _ => none }
def FnExactMatchesOfWrongFalsely : Prop := fnExactMatchesOfRow.holds Try.pinned (OpenSpec.ofChange fnExactMatchesOfWrong)

/-- 'laws.FnExactInputsOf': WHATEVER THE INPUT: true; the input reads as it did. -/
def fnExactInputsOfSpec : ChangeSpec := { name := "fnExactInputsOf", fn := fun _ => fun
  | [d] => { results := [.lit (.bool true)], args := [d] }
  | _ => none }
def fnExactInputsOfRow : OpenClaim := { program := "ytppciomdbabepaa", sum := "7b9d311312e2d655fc71dee3139aed2d1f772abdbc9e683a14777ed20c0447d2", func := "loop.example/decisiontables/laws.FnExactInputsOf", spec := "fnExactInputsOf", unfollowed := true, recurses := true, apart := false }
def FnExactInputsOfSaid : Prop := fnExactInputsOfRow.holds Try.pinned (OpenSpec.ofChange fnExactInputsOfSpec)

/-- ITS FALSE NEIGHBOUR: 'it returns false'. Refute it at one input. -/
def fnExactInputsOfWrong : ChangeSpec := { name := "fnExactInputsOf", fn := fun _ => fun
  | [d] => { results := [.lit (.bool false)], args := [d] }
  | _ => none }
def FnExactInputsOfWrongFalsely : Prop := fnExactInputsOfRow.holds Try.pinned (OpenSpec.ofChange fnExactInputsOfWrong)

/-- 'laws.FnExactTableSame': WHATEVER THE INPUT: true; the input reads as it did. -/
def fnExactTableSameSpec : ChangeSpec := { name := "fnExactTableSame", fn := fun _ => fun
  | [d1, d2] => { results := [.lit (.bool true)], args := [d1, d2] }
  | _ => none }
def fnExactTableSameRow : OpenClaim := { program := "ytppciomdbabepaa", sum := "7b9d311312e2d655fc71dee3139aed2d1f772abdbc9e683a14777ed20c0447d2", func := "loop.example/decisiontables/laws.FnExactTableSame", spec := "fnExactTableSame", unfollowed := true, recurses := true, apart := false }
def FnExactTableSameSaid : Prop := fnExactTableSameRow.holds Try.pinned (OpenSpec.ofChange fnExactTableSameSpec)

/-- ITS FALSE NEIGHBOUR: 'it returns false'. Refute it at one input. -/
def fnExactTableSameWrong : ChangeSpec := { name := "fnExactTableSame", fn := fun _ => fun
  | [d1, d2] => { results := [.lit (.bool false)], args := [d1, d2] }
  | _ => none }
def FnExactTableSameWrongFalsely : Prop := fnExactTableSameRow.holds Try.pinned (OpenSpec.ofChange fnExactTableSameWrong)

/-- 'laws.FnExactResultSame': WHATEVER THE INPUT: true; the input reads as it did. -/
def fnExactResultSameSpec : ChangeSpec := { name := "fnExactResultSame", fn := fun _ => fun
  | [d1, d2] => { results := [.lit (.bool true)], args := [d1, d2] }
  | _ => none }
def fnExactResultSameRow : OpenClaim := { program := "ytppciomdbabepaa", sum := "7b9d311312e2d655fc71dee3139aed2d1f772abdbc9e683a14777ed20c0447d2", func := "loop.example/decisiontables/laws.FnExactResultSame", spec := "fnExactResultSame", apart := false }
def FnExactResultSameSaid : Prop := fnExactResultSameRow.holds Try.pinned (OpenSpec.ofChange fnExactResultSameSpec)

/-- ITS FALSE NEIGHBOUR: 'it returns false'. Refute it at one input. -/
def fnExactResultSameWrong : ChangeSpec := { name := "fnExactResultSame", fn := fun _ => fun
  | [d1, d2] => { results := [.lit (.bool false)], args := [d1, d2] }
  | _ => none }
def FnExactResultSameWrongFalsely : Prop := fnExactResultSameRow.holds Try.pinned (OpenSpec.ofChange fnExactResultSameWrong)

/-- 'laws.FnExactWithPolicy': WHATEVER THE INPUT: true; the input reads as it did. -/
def fnExactWithPolicySpec : ChangeSpec := { name := "fnExactWithPolicy", fn := fun _ => fun
  | [d1, d2] => { results := [.lit (.bool true)], args := [d1, d2] }
  | _ => none }
def fnExactWithPolicyRow : OpenClaim := { program := "ytppciomdbabepaa", sum := "7b9d311312e2d655fc71dee3139aed2d1f772abdbc9e683a14777ed20c0447d2", func := "loop.example/decisiontables/laws.FnExactWithPolicy", spec := "fnExactWithPolicy", unfollowed := true, recurses := true, apart := false }
def FnExactWithPolicySaid : Prop := fnExactWithPolicyRow.holds Try.pinned (OpenSpec.ofChange fnExactWithPolicySpec)

/-- ITS FALSE NEIGHBOUR: 'it returns false'. Refute it at one input. -/
def fnExactWithPolicyWrong : ChangeSpec := { name := "fnExactWithPolicy", fn := fun _ => fun
  | [d1, d2] => { results := [.lit (.bool false)], args := [d1, d2] }
  | _ => none }
def FnExactWithPolicyWrongFalsely : Prop := fnExactWithPolicyRow.holds Try.pinned (OpenSpec.ofChange fnExactWithPolicyWrong)

/- THE SECOND FORM. 'bulk': how many values and letters a reading holds, each counted each time it is reached (what is shared counts as often as it is met; a slice's spare places count too). A statement '..UptoSaid' is the law's where the arguments, and the package variables that the reading takes, are together of bulk at most 1048576: NARROWER than '..Said'. Prove '..Said' where nothing that the law and all that it calls make is longer than what came in: it says more and counts as full. Else prove '..UptoSaid'. A law counts once. -/
mutual
def uptoBulk {H : Type} : DataW H → Nat
  | .lit (.string bytes) => bytes.length + 1
  | .lit _ => 1
  | .nil => 1
  | .ptr d => uptoBulk d + 1
  | .slice elems spare => uptoBulkAll elems + uptoBulkAll spare + 1
  | .agg parts => uptoBulkAll parts + 1
  | .iface _ d => uptoBulk d + 1
  | .map entries => uptoBulkEntries entries + 1
  | .held _ => 1
def uptoBulkAll {H : Type} : List (DataW H) → Nat
  | [] => 0
  | d :: r => uptoBulk d + uptoBulkAll r
def uptoBulkEntries {H : Type} : List (Lit × DataW H) → Nat
  | [] => 0
  | x :: r => uptoBulkEntry x + uptoBulkEntries r
def uptoBulkEntry {H : Type} : Lit × DataW H → Nat
  | (.string bytes, d) => bytes.length + uptoBulk d + 1
  | (_, d) => uptoBulk d + 1
 end
def uptoSmall : (H : Type) → List (DataW H) → Bool := fun _ ds => decide (uptoBulkAll ds ≤ 1048576)
def OpenSpec.upto (s : _root_.Go.ChangeSpec) : _root_.Go.OpenSpec := { _root_.Go.OpenSpec.ofChange s with cond := some uptoSmall }

/-- 'laws.FnExactTableValid', WHERE WHAT IT READS IS OF BULK AT MOST 1048576: true; the input reads as it did. -/
def fnExactTableValidUptoRow : OpenClaim := { program := "ytppciomdbabepaa", sum := "7b9d311312e2d655fc71dee3139aed2d1f772abdbc9e683a14777ed20c0447d2", func := "loop.example/decisiontables/laws.FnExactTableValid", spec := "fnExactTableValid", unfollowed := true, recurses := true, apart := false, narrowed := true }
def FnExactTableValidUptoSaid : Prop := fnExactTableValidUptoRow.holds Try.pinned (OpenSpec.upto fnExactTableValidSpec)

/-- 'laws.FnExactInputValid', WHERE WHAT IT READS IS OF BULK AT MOST 1048576: true; the input reads as it did. -/
def fnExactInputValidUptoRow : OpenClaim := { program := "ytppciomdbabepaa", sum := "7b9d311312e2d655fc71dee3139aed2d1f772abdbc9e683a14777ed20c0447d2", func := "loop.example/decisiontables/laws.FnExactInputValid", spec := "fnExactInputValid", unfollowed := true, recurses := true, apart := false, narrowed := true }
def FnExactInputValidUptoSaid : Prop := fnExactInputValidUptoRow.holds Try.pinned (OpenSpec.upto fnExactInputValidSpec)

/-- 'laws.FnExactRuleMatches', WHERE WHAT IT READS IS OF BULK AT MOST 1048576: true; the input reads as it did. -/
def fnExactRuleMatchesUptoRow : OpenClaim := { program := "ytppciomdbabepaa", sum := "7b9d311312e2d655fc71dee3139aed2d1f772abdbc9e683a14777ed20c0447d2", func := "loop.example/decisiontables/laws.FnExactRuleMatches", spec := "fnExactRuleMatches", unfollowed := true, recurses := true, apart := false, narrowed := true }
def FnExactRuleMatchesUptoSaid : Prop := fnExactRuleMatchesUptoRow.holds Try.pinned (OpenSpec.upto fnExactRuleMatchesSpec)

/-- 'laws.FnExactMatchesOf', WHERE WHAT IT READS IS OF BULK AT MOST 1048576: true; the input reads as it did. -/
def fnExactMatchesOfUptoRow : OpenClaim := { program := "ytppciomdbabepaa", sum := "7b9d311312e2d655fc71dee3139aed2d1f772abdbc9e683a14777ed20c0447d2", func := "loop.example/decisiontables/laws.FnExactMatchesOf", spec := "fnExactMatchesOf", unfollowed := true, recurses := true, apart := false, narrowed := true }
def FnExactMatchesOfUptoSaid : Prop := fnExactMatchesOfUptoRow.holds Try.pinned (OpenSpec.upto fnExactMatchesOfSpec)

/-- 'laws.FnExactInputsOf', WHERE WHAT IT READS IS OF BULK AT MOST 1048576: true; the input reads as it did. -/
def fnExactInputsOfUptoRow : OpenClaim := { program := "ytppciomdbabepaa", sum := "7b9d311312e2d655fc71dee3139aed2d1f772abdbc9e683a14777ed20c0447d2", func := "loop.example/decisiontables/laws.FnExactInputsOf", spec := "fnExactInputsOf", unfollowed := true, recurses := true, apart := false, narrowed := true }
def FnExactInputsOfUptoSaid : Prop := fnExactInputsOfUptoRow.holds Try.pinned (OpenSpec.upto fnExactInputsOfSpec)

/-- 'laws.FnExactTableSame', WHERE WHAT IT READS IS OF BULK AT MOST 1048576: true; the input reads as it did. -/
def fnExactTableSameUptoRow : OpenClaim := { program := "ytppciomdbabepaa", sum := "7b9d311312e2d655fc71dee3139aed2d1f772abdbc9e683a14777ed20c0447d2", func := "loop.example/decisiontables/laws.FnExactTableSame", spec := "fnExactTableSame", unfollowed := true, recurses := true, apart := false, narrowed := true }
def FnExactTableSameUptoSaid : Prop := fnExactTableSameUptoRow.holds Try.pinned (OpenSpec.upto fnExactTableSameSpec)

/-- 'laws.FnExactResultSame', WHERE WHAT IT READS IS OF BULK AT MOST 1048576: true; the input reads as it did. -/
def fnExactResultSameUptoRow : OpenClaim := { program := "ytppciomdbabepaa", sum := "7b9d311312e2d655fc71dee3139aed2d1f772abdbc9e683a14777ed20c0447d2", func := "loop.example/decisiontables/laws.FnExactResultSame", spec := "fnExactResultSame", apart := false, narrowed := true }
def FnExactResultSameUptoSaid : Prop := fnExactResultSameUptoRow.holds Try.pinned (OpenSpec.upto fnExactResultSameSpec)

/-- 'laws.FnExactWithPolicy', WHERE WHAT IT READS IS OF BULK AT MOST 1048576: true; the input reads as it did. -/
def fnExactWithPolicyUptoRow : OpenClaim := { program := "ytppciomdbabepaa", sum := "7b9d311312e2d655fc71dee3139aed2d1f772abdbc9e683a14777ed20c0447d2", func := "loop.example/decisiontables/laws.FnExactWithPolicy", spec := "fnExactWithPolicy", unfollowed := true, recurses := true, apart := false, narrowed := true }
def FnExactWithPolicyUptoSaid : Prop := fnExactWithPolicyUptoRow.holds Try.pinned (OpenSpec.upto fnExactWithPolicySpec)

end Rows
end Go.Proofs.Ytppciomdbabepaa
