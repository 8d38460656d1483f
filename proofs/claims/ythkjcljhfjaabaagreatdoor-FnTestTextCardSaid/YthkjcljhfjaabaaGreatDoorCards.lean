/-
  DERIVED. GIVEN WITH THE SEED: THE CARDS: each row of YthkjcljhfjaabaaGreatDoorRows.lean that lists a variable, with what it lists TIED to the program's text (the seventh form; the later family's looks); each row that meets fmt, with fmt's text TOLD by the authors' own Lean function (tested against real Go, not proved from fmt's source: count such statements apart). THE CARD IS WHAT COUNTS. Prove the row's statement (the work); the ties are given (YthkjcljhfjaabaaGreatDoorTie.lean); close each card by the builder's one call (the guide's Derived/Test/ToyasCard.lean, 'card_holds'). Laid BY PROGRAM, IN A SANDBOX (cutbox-door.mjs). By AI agents, Wed Nov 11 2026. No macro, syntax, notation, axiom, sorry.
-/
import Derived.Test.YthkjcljhfjaabaaGreatDoorRows
import GoSem.ClaimSeven
namespace Go.Proofs.YthkjcljhfjaabaaGreatDoor
namespace Rows

/-- THE TIED CARD OF 'laws.FnExactParseTest'. -/
def fnExactParseTestCard : Claim7 := { stood := { row := fnExactParseTestRow, standIns := [], harness := (true, "359ec76307de1f7475d7c9fb4a821af562b374342a24d12490fb8cc06199dd40"), looks := false }, kinds := [], alts := [], laidByText := true, laidKinds := [.data, .data, .data, .data, .pinned], laidTests := true, laidLooks := .later }
def FnExactParseTestCardSaid : Prop := Claim7.holds Tryz.pinned (.plain (OpenSpec.ofChange fnExactParseTestSpec)) fnExactParseTestCard

/-- THE TIED CARD OF 'laws.FnTestText'. -/
def fnTestTextCard : Claim7 := { stood := { row := fnTestTextRow, standIns := [], harness := (true, "359ec76307de1f7475d7c9fb4a821af562b374342a24d12490fb8cc06199dd40"), looks := false }, kinds := [], alts := [], laidByText := true, laidKinds := [.data, .data, .data, .data, .pinned], laidTests := true, laidLooks := .later }
def FnTestTextCardSaid : Prop := Claim7.holds Tryz.pinned (.plain (OpenSpec.ofChange fnTestTextSpec)) fnTestTextCard

/-- THE TIED CARD OF 'laws.FnTestNot'. -/
def fnTestNotCard : Claim7 := { stood := { row := fnTestNotRow, standIns := [], harness := (true, "359ec76307de1f7475d7c9fb4a821af562b374342a24d12490fb8cc06199dd40"), looks := false }, kinds := [], alts := [], laidByText := true, laidKinds := [.data, .data, .data, .data, .pinned], laidTests := true, laidLooks := .later }
def FnTestNotCardSaid : Prop := Claim7.holds Tryz.pinned (.plain (OpenSpec.ofChange fnTestNotSpec)) fnTestNotCard

/-- THE TIED CARD OF 'laws.FnParseValueIn'. -/
def fnParseValueInCard : Claim7 := { stood := { row := fnParseValueInRow, standIns := [], harness := (true, "359ec76307de1f7475d7c9fb4a821af562b374342a24d12490fb8cc06199dd40"), looks := false }, kinds := [], alts := [], laidByText := true, laidKinds := [.data, .data, .data, .data, .pinned], laidTests := true, laidLooks := .later }
def FnParseValueInCardSaid : Prop := Claim7.holds Tryz.pinned (.plain (OpenSpec.ofChange fnParseValueInSpec)) fnParseValueInCard

/-- THE TIED CARD OF 'laws.FnTestBounds'. -/
def fnTestBoundsCard : Claim7 := { stood := { row := fnTestBoundsRow, standIns := [], harness := (true, "359ec76307de1f7475d7c9fb4a821af562b374342a24d12490fb8cc06199dd40"), looks := false }, kinds := [], alts := [], laidByText := true, laidKinds := [.data, .data, .data, .data, .pinned], laidTests := true, laidLooks := .later }
def FnTestBoundsCardSaid : Prop := Claim7.holds Tryz.pinned (.plain (OpenSpec.ofChange fnTestBoundsSpec)) fnTestBoundsCard

/-- THE TIED CARD OF 'laws.FnTestList'. -/
def fnTestListCard : Claim7 := { stood := { row := fnTestListRow, standIns := [], harness := (true, "359ec76307de1f7475d7c9fb4a821af562b374342a24d12490fb8cc06199dd40"), looks := false }, kinds := [], alts := [], laidByText := true, laidKinds := [.data, .data, .data, .data, .pinned], laidTests := true, laidLooks := .later }
def FnTestListCardSaid : Prop := Claim7.holds Tryz.pinned (.plain (OpenSpec.ofChange fnTestListSpec)) fnTestListCard

/-- THE SECOND FORM's CARD OF 'laws.FnExactParseTest'. -/
def fnExactParseTestUptoCard : Claim7 := { stood := { row := fnExactParseTestUptoRow, standIns := [], harness := (true, "359ec76307de1f7475d7c9fb4a821af562b374342a24d12490fb8cc06199dd40"), looks := false }, kinds := [], alts := [], laidByText := true, laidKinds := [.data, .data, .data, .data, .pinned], laidTests := true, laidLooks := .later }
def FnExactParseTestUptoCardSaid : Prop := Claim7.holds Tryz.pinned (.plain (OpenSpec.upto fnExactParseTestSpec)) fnExactParseTestUptoCard

/-- THE SECOND FORM's CARD OF 'laws.FnTestText'. -/
def fnTestTextUptoCard : Claim7 := { stood := { row := fnTestTextUptoRow, standIns := [], harness := (true, "359ec76307de1f7475d7c9fb4a821af562b374342a24d12490fb8cc06199dd40"), looks := false }, kinds := [], alts := [], laidByText := true, laidKinds := [.data, .data, .data, .data, .pinned], laidTests := true, laidLooks := .later }
def FnTestTextUptoCardSaid : Prop := Claim7.holds Tryz.pinned (.plain (OpenSpec.upto fnTestTextSpec)) fnTestTextUptoCard

/-- THE SECOND FORM's CARD OF 'laws.FnTestNot'. -/
def fnTestNotUptoCard : Claim7 := { stood := { row := fnTestNotUptoRow, standIns := [], harness := (true, "359ec76307de1f7475d7c9fb4a821af562b374342a24d12490fb8cc06199dd40"), looks := false }, kinds := [], alts := [], laidByText := true, laidKinds := [.data, .data, .data, .data, .pinned], laidTests := true, laidLooks := .later }
def FnTestNotUptoCardSaid : Prop := Claim7.holds Tryz.pinned (.plain (OpenSpec.upto fnTestNotSpec)) fnTestNotUptoCard

/-- THE SECOND FORM's CARD OF 'laws.FnParseValueIn'. -/
def fnParseValueInUptoCard : Claim7 := { stood := { row := fnParseValueInUptoRow, standIns := [], harness := (true, "359ec76307de1f7475d7c9fb4a821af562b374342a24d12490fb8cc06199dd40"), looks := false }, kinds := [], alts := [], laidByText := true, laidKinds := [.data, .data, .data, .data, .pinned], laidTests := true, laidLooks := .later }
def FnParseValueInUptoCardSaid : Prop := Claim7.holds Tryz.pinned (.plain (OpenSpec.upto fnParseValueInSpec)) fnParseValueInUptoCard

/-- THE SECOND FORM's CARD OF 'laws.FnTestBounds'. -/
def fnTestBoundsUptoCard : Claim7 := { stood := { row := fnTestBoundsUptoRow, standIns := [], harness := (true, "359ec76307de1f7475d7c9fb4a821af562b374342a24d12490fb8cc06199dd40"), looks := false }, kinds := [], alts := [], laidByText := true, laidKinds := [.data, .data, .data, .data, .pinned], laidTests := true, laidLooks := .later }
def FnTestBoundsUptoCardSaid : Prop := Claim7.holds Tryz.pinned (.plain (OpenSpec.upto fnTestBoundsSpec)) fnTestBoundsUptoCard

/-- THE SECOND FORM's CARD OF 'laws.FnTestList'. -/
def fnTestListUptoCard : Claim7 := { stood := { row := fnTestListUptoRow, standIns := [], harness := (true, "359ec76307de1f7475d7c9fb4a821af562b374342a24d12490fb8cc06199dd40"), looks := false }, kinds := [], alts := [], laidByText := true, laidKinds := [.data, .data, .data, .data, .pinned], laidTests := true, laidLooks := .later }
def FnTestListUptoCardSaid : Prop := Claim7.holds Tryz.pinned (.plain (OpenSpec.upto fnTestListSpec)) fnTestListUptoCard
end Rows
end Go.Proofs.YthkjcljhfjaabaaGreatDoor
