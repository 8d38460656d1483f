/-
  DERIVED. GIVEN WITH THE SEED: THE CARDS: each row of YtppciomdbabepaaDoorRows.lean that lists a variable, with what it lists TIED to the program's text (the seventh form; the later family's looks); each row that meets fmt, with fmt's text TOLD by the authors' own Lean function (tested against real Go, not proved from fmt's source: count such statements apart). THE CARD IS WHAT COUNTS. Prove the row's statement (the work); the ties are given (YtppciomdbabepaaDoorTie.lean); close each card by the builder's one call (the guide's Derived/Test/ToyasCard.lean, 'card_holds'). Laid BY PROGRAM, IN A SANDBOX (cutbox-door.mjs). By AI agents, Wed Nov 11 2026. No macro, syntax, notation, axiom, sorry.
-/
import Derived.Test.YtppciomdbabepaaDoorRows
import GoSem.ClaimSeven
namespace Go.Proofs.YtppciomdbabepaaDoor
namespace Rows

/-- THE TIED CARD OF 'laws.FnExactDecideOuts'. -/
def fnExactDecideOutsCard : Claim7 := { stood := { row := fnExactDecideOutsRow, standIns := [], harness := (true, "ba7136d2ab142340bed6587290558342fa7c36c9679abdfb8e5c216a8b963b4b"), looks := true }, kinds := [], alts := [], laidByText := true, laidKinds := [.sentinel, .sentinel, .sentinel], laidTests := true, laidLooks := .later }
def FnExactDecideOutsCardSaid : Prop := Claim7.holds Tryd.pinned (.plain (OpenSpec.ofChange fnExactDecideOutsSpec)) fnExactDecideOutsCard

/-- THE TIED CARD OF 'laws.FnExactFormatResult'. -/
def fnExactFormatResultCard : Claim7 := { stood := { row := fnExactFormatResultRow, standIns := [], harness := (true, "ba7136d2ab142340bed6587290558342fa7c36c9679abdfb8e5c216a8b963b4b"), looks := true }, kinds := [], alts := [], laidByText := true, laidKinds := [.data, .data, .data, .sentinel, .sentinel, .sentinel], laidTests := true, laidLooks := .later }
def FnExactFormatResultCardSaid : Prop := Claim7.holds Tryd.pinned (.plain (OpenSpec.ofChange fnExactFormatResultSpec)) fnExactFormatResultCard

/-- THE SECOND FORM's CARD OF 'laws.FnExactDecideOuts'. -/
def fnExactDecideOutsUptoCard : Claim7 := { stood := { row := fnExactDecideOutsUptoRow, standIns := [], harness := (true, "ba7136d2ab142340bed6587290558342fa7c36c9679abdfb8e5c216a8b963b4b"), looks := true }, kinds := [], alts := [], laidByText := true, laidKinds := [.sentinel, .sentinel, .sentinel], laidTests := true, laidLooks := .later }
def FnExactDecideOutsUptoCardSaid : Prop := Claim7.holds Tryd.pinned (.plain (OpenSpec.upto fnExactDecideOutsSpec)) fnExactDecideOutsUptoCard

/-- THE SECOND FORM's CARD OF 'laws.FnExactFormatResult'. -/
def fnExactFormatResultUptoCard : Claim7 := { stood := { row := fnExactFormatResultUptoRow, standIns := [], harness := (true, "ba7136d2ab142340bed6587290558342fa7c36c9679abdfb8e5c216a8b963b4b"), looks := true }, kinds := [], alts := [], laidByText := true, laidKinds := [.data, .data, .data, .sentinel, .sentinel, .sentinel], laidTests := true, laidLooks := .later }
def FnExactFormatResultUptoCardSaid : Prop := Claim7.holds Tryd.pinned (.plain (OpenSpec.upto fnExactFormatResultSpec)) fnExactFormatResultUptoCard
end Rows
end Go.Proofs.YtppciomdbabepaaDoor
