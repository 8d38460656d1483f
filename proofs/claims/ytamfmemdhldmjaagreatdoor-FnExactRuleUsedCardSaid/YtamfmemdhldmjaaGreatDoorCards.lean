/-
  DERIVED. GIVEN WITH THE SEED: THE CARDS: each row of YtamfmemdhldmjaaGreatDoorRows.lean that lists a variable, with what it lists TIED to the program's text (the seventh form; the later family's looks); each row that meets fmt, with fmt's text TOLD by the authors' own Lean function (tested against real Go, not proved from fmt's source: count such statements apart). THE CARD IS WHAT COUNTS. Prove the row's statement (the work); the ties are given (YtamfmemdhldmjaaGreatDoorTie.lean); close each card by the builder's one call (the guide's Derived/Test/ToyasCard.lean, 'card_holds'). Laid BY PROGRAM, IN A SANDBOX (cutbox-door.mjs). By AI agents, Wed Nov 11 2026. No macro, syntax, notation, axiom, sorry.
-/
import Derived.Test.YtamfmemdhldmjaaGreatDoorRows
import GoSem.ClaimSeven
namespace Go.Proofs.YtamfmemdhldmjaaGreatDoor
namespace Rows

/-- THE TIED CARD OF 'laws.FnExactDecide'. -/
def fnExactDecideCard : Claim7 := { stood := { row := fnExactDecideRow, standIns := [], harness := (true, "2ccb0ff642f8d1698dcc3d45658605d5a3587f95a3bbdb318d5cf32323d0a465"), looks := true }, kinds := [], alts := [], laidByText := true, laidKinds := [.sentinel, .sentinel, .sentinel], laidTests := true, laidLooks := .later }
def FnExactDecideCardSaid : Prop := Claim7.holds Tryz.pinned (.plain (OpenSpec.ofChange fnExactDecideSpec)) fnExactDecideCard

/-- THE TIED CARD OF 'laws.FnExactRuleUsed'. -/
def fnExactRuleUsedCard : Claim7 := { stood := { row := fnExactRuleUsedRow, standIns := [], harness := (true, "2ccb0ff642f8d1698dcc3d45658605d5a3587f95a3bbdb318d5cf32323d0a465"), looks := true }, kinds := [], alts := [], laidByText := true, laidKinds := [.sentinel, .sentinel, .sentinel], laidTests := true, laidLooks := .later }
def FnExactRuleUsedCardSaid : Prop := Claim7.holds Tryz.pinned (.plain (OpenSpec.ofChange fnExactRuleUsedSpec)) fnExactRuleUsedCard

/-- THE SECOND FORM's CARD OF 'laws.FnExactDecide'. -/
def fnExactDecideUptoCard : Claim7 := { stood := { row := fnExactDecideUptoRow, standIns := [], harness := (true, "2ccb0ff642f8d1698dcc3d45658605d5a3587f95a3bbdb318d5cf32323d0a465"), looks := true }, kinds := [], alts := [], laidByText := true, laidKinds := [.sentinel, .sentinel, .sentinel], laidTests := true, laidLooks := .later }
def FnExactDecideUptoCardSaid : Prop := Claim7.holds Tryz.pinned (.plain (OpenSpec.upto fnExactDecideSpec)) fnExactDecideUptoCard

/-- THE SECOND FORM's CARD OF 'laws.FnExactRuleUsed'. -/
def fnExactRuleUsedUptoCard : Claim7 := { stood := { row := fnExactRuleUsedUptoRow, standIns := [], harness := (true, "2ccb0ff642f8d1698dcc3d45658605d5a3587f95a3bbdb318d5cf32323d0a465"), looks := true }, kinds := [], alts := [], laidByText := true, laidKinds := [.sentinel, .sentinel, .sentinel], laidTests := true, laidLooks := .later }
def FnExactRuleUsedUptoCardSaid : Prop := Claim7.holds Tryz.pinned (.plain (OpenSpec.upto fnExactRuleUsedSpec)) fnExactRuleUsedUptoCard
end Rows
end Go.Proofs.YtamfmemdhldmjaaGreatDoor
