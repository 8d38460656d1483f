/-
  DERIVED. GIVEN WITH THE SEED: THE CARDS: each row of YtajjmdnbmicefabDoorRows.lean that lists a variable, with what it lists TIED to the program's text (the seventh form; the later family's looks); each row that meets fmt, with fmt's text TOLD by the authors' own Lean function (tested against real Go, not proved from fmt's source: count such statements apart). THE CARD IS WHAT COUNTS. Prove the row's statement (the work); the ties are given (YtajjmdnbmicefabDoorTie.lean); close each card by the builder's one call (the guide's Derived/Test/ToyasCard.lean, 'card_holds'). Laid BY PROGRAM, IN A SANDBOX (cutbox-door.mjs). By AI agents, Wed Nov 11 2026. No macro, syntax, notation, axiom, sorry.
-/
import Derived.Test.YtajjmdnbmicefabDoorRows
import GoSem.ClaimSeven
namespace Go.Proofs.YtajjmdnbmicefabDoor
namespace Rows

/-- THE TIED CARD OF 'laws.FnExactFormatValue'. -/
def fnExactFormatValueCard : Claim7 := { stood := { row := fnExactFormatValueRow, standIns := [], harness := (true, "12375fc406ae95836339ba2875db49add4f021e18a31c5a2cf90bdb4a24cac5a"), looks := false }, kinds := [], alts := [], laidByText := true, laidKinds := [.data, .data, .data], laidTests := true, laidLooks := .later }
def FnExactFormatValueCardSaid : Prop := Claim7.holds Tryd.pinned (.plain (OpenSpec.ofChange fnExactFormatValueSpec)) fnExactFormatValueCard

/-- THE TIED CARD OF 'laws.FnExactParseValue'. -/
def fnExactParseValueCard : Claim7 := { stood := { row := fnExactParseValueRow, standIns := [], harness := (true, "12375fc406ae95836339ba2875db49add4f021e18a31c5a2cf90bdb4a24cac5a"), looks := false }, kinds := [], alts := [], laidByText := true, laidKinds := [.data, .data, .data], laidTests := true, laidLooks := .later }
def FnExactParseValueCardSaid : Prop := Claim7.holds Tryd.pinned (.plain (OpenSpec.ofChange fnExactParseValueSpec)) fnExactParseValueCard

/-- THE TIED CARD OF 'laws.FnExactFormatTest'. -/
def fnExactFormatTestCard : Claim7 := { stood := { row := fnExactFormatTestRow, standIns := [], harness := (true, "12375fc406ae95836339ba2875db49add4f021e18a31c5a2cf90bdb4a24cac5a"), looks := false }, kinds := [], alts := [], laidByText := true, laidKinds := [.data, .data, .data], laidTests := true, laidLooks := .later }
def FnExactFormatTestCardSaid : Prop := Claim7.holds Tryd.pinned (.plain (OpenSpec.ofChange fnExactFormatTestSpec)) fnExactFormatTestCard

/-- THE TIED CARD OF 'laws.FnExactFormatColumn'. -/
def fnExactFormatColumnCard : Claim7 := { stood := { row := fnExactFormatColumnRow, standIns := [], harness := (true, "12375fc406ae95836339ba2875db49add4f021e18a31c5a2cf90bdb4a24cac5a"), looks := false }, kinds := [], alts := [], laidByText := true, laidKinds := [.data, .data, .data], laidTests := true, laidLooks := .later }
def FnExactFormatColumnCardSaid : Prop := Claim7.holds Tryd.pinned (.plain (OpenSpec.ofChange fnExactFormatColumnSpec)) fnExactFormatColumnCard

/-- THE TIED CARD OF 'laws.FnExactParseColumn'. -/
def fnExactParseColumnCard : Claim7 := { stood := { row := fnExactParseColumnRow, standIns := [], harness := (true, "12375fc406ae95836339ba2875db49add4f021e18a31c5a2cf90bdb4a24cac5a"), looks := false }, kinds := [], alts := [], laidByText := true, laidKinds := [.data, .data, .data], laidTests := true, laidLooks := .later }
def FnExactParseColumnCardSaid : Prop := Claim7.holds Tryd.pinned (.plain (OpenSpec.ofChange fnExactParseColumnSpec)) fnExactParseColumnCard

/-- THE SECOND FORM's CARD OF 'laws.FnExactFormatValue'. -/
def fnExactFormatValueUptoCard : Claim7 := { stood := { row := fnExactFormatValueUptoRow, standIns := [], harness := (true, "12375fc406ae95836339ba2875db49add4f021e18a31c5a2cf90bdb4a24cac5a"), looks := false }, kinds := [], alts := [], laidByText := true, laidKinds := [.data, .data, .data], laidTests := true, laidLooks := .later }
def FnExactFormatValueUptoCardSaid : Prop := Claim7.holds Tryd.pinned (.plain (OpenSpec.upto fnExactFormatValueSpec)) fnExactFormatValueUptoCard

/-- THE SECOND FORM's CARD OF 'laws.FnExactParseValue'. -/
def fnExactParseValueUptoCard : Claim7 := { stood := { row := fnExactParseValueUptoRow, standIns := [], harness := (true, "12375fc406ae95836339ba2875db49add4f021e18a31c5a2cf90bdb4a24cac5a"), looks := false }, kinds := [], alts := [], laidByText := true, laidKinds := [.data, .data, .data], laidTests := true, laidLooks := .later }
def FnExactParseValueUptoCardSaid : Prop := Claim7.holds Tryd.pinned (.plain (OpenSpec.upto fnExactParseValueSpec)) fnExactParseValueUptoCard

/-- THE SECOND FORM's CARD OF 'laws.FnExactFormatTest'. -/
def fnExactFormatTestUptoCard : Claim7 := { stood := { row := fnExactFormatTestUptoRow, standIns := [], harness := (true, "12375fc406ae95836339ba2875db49add4f021e18a31c5a2cf90bdb4a24cac5a"), looks := false }, kinds := [], alts := [], laidByText := true, laidKinds := [.data, .data, .data], laidTests := true, laidLooks := .later }
def FnExactFormatTestUptoCardSaid : Prop := Claim7.holds Tryd.pinned (.plain (OpenSpec.upto fnExactFormatTestSpec)) fnExactFormatTestUptoCard

/-- THE SECOND FORM's CARD OF 'laws.FnExactFormatColumn'. -/
def fnExactFormatColumnUptoCard : Claim7 := { stood := { row := fnExactFormatColumnUptoRow, standIns := [], harness := (true, "12375fc406ae95836339ba2875db49add4f021e18a31c5a2cf90bdb4a24cac5a"), looks := false }, kinds := [], alts := [], laidByText := true, laidKinds := [.data, .data, .data], laidTests := true, laidLooks := .later }
def FnExactFormatColumnUptoCardSaid : Prop := Claim7.holds Tryd.pinned (.plain (OpenSpec.upto fnExactFormatColumnSpec)) fnExactFormatColumnUptoCard

/-- THE SECOND FORM's CARD OF 'laws.FnExactParseColumn'. -/
def fnExactParseColumnUptoCard : Claim7 := { stood := { row := fnExactParseColumnUptoRow, standIns := [], harness := (true, "12375fc406ae95836339ba2875db49add4f021e18a31c5a2cf90bdb4a24cac5a"), looks := false }, kinds := [], alts := [], laidByText := true, laidKinds := [.data, .data, .data], laidTests := true, laidLooks := .later }
def FnExactParseColumnUptoCardSaid : Prop := Claim7.holds Tryd.pinned (.plain (OpenSpec.upto fnExactParseColumnSpec)) fnExactParseColumnUptoCard
end Rows
end Go.Proofs.YtajjmdnbmicefabDoor
