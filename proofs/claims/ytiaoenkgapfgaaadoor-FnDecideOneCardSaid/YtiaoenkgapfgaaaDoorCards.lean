/-
  DERIVED. GIVEN WITH THE SEED: THE CARDS: each row of YtiaoenkgapfgaaaDoorRows.lean that lists a variable, with what it lists TIED to the program's text (the seventh form; the later family's looks); each row that meets fmt, with fmt's text TOLD by the authors' own Lean function (tested against real Go, not proved from fmt's source: count such statements apart). THE CARD IS WHAT COUNTS. Prove the row's statement (the work); the ties are given (YtiaoenkgapfgaaaDoorTie.lean); close each card by the builder's one call (the guide's Derived/Test/ToyasCard.lean, 'card_holds'). Laid BY PROGRAM, IN A SANDBOX (cutbox-door.mjs). By AI agents, Wed Nov 11 2026. No macro, syntax, notation, axiom, sorry.
-/
import Derived.Test.YtiaoenkgapfgaaaDoorRows
import GoSem.ClaimSeven
namespace Go.Proofs.YtiaoenkgapfgaaaDoor
namespace Rows

/-- THE TIED CARD OF 'laws.FnDecideOuts'. -/
def fnDecideOutsCard : Claim7 := { stood := { row := fnDecideOutsRow, standIns := [], harness := (true, "4ced2efdcccb6d12e2f18db90f775a9dcb0c701d0e03300c256ce4fc6a03f688"), looks := true }, kinds := [], alts := [], laidByText := true, laidKinds := [.sentinel, .sentinel, .sentinel], laidTests := true, laidLooks := .later }
def FnDecideOutsCardSaid : Prop := Claim7.holds Tryd.pinned (.plain (OpenSpec.ofChange fnDecideOutsSpec)) fnDecideOutsCard

/-- THE TIED CARD OF 'laws.FnDecideOrder'. -/
def fnDecideOrderCard : Claim7 := { stood := { row := fnDecideOrderRow, standIns := [], harness := (true, "4ced2efdcccb6d12e2f18db90f775a9dcb0c701d0e03300c256ce4fc6a03f688"), looks := true }, kinds := [], alts := [], laidByText := true, laidKinds := [.sentinel, .sentinel, .sentinel], laidTests := true, laidLooks := .later }
def FnDecideOrderCardSaid : Prop := Claim7.holds Tryd.pinned (.plain (OpenSpec.ofChange fnDecideOrderSpec)) fnDecideOrderCard

/-- THE TIED CARD OF 'laws.FnDecideOne'. -/
def fnDecideOneCard : Claim7 := { stood := { row := fnDecideOneRow, standIns := [], harness := (true, "4ced2efdcccb6d12e2f18db90f775a9dcb0c701d0e03300c256ce4fc6a03f688"), looks := true }, kinds := [], alts := [], laidByText := true, laidKinds := [.sentinel, .sentinel, .sentinel], laidTests := true, laidLooks := .later }
def FnDecideOneCardSaid : Prop := Claim7.holds Tryd.pinned (.plain (OpenSpec.ofChange fnDecideOneSpec)) fnDecideOneCard

/-- THE TIED CARD OF 'laws.FnDecideBounds'. -/
def fnDecideBoundsCard : Claim7 := { stood := { row := fnDecideBoundsRow, standIns := [], harness := (true, "4ced2efdcccb6d12e2f18db90f775a9dcb0c701d0e03300c256ce4fc6a03f688"), looks := true }, kinds := [], alts := [], laidByText := true, laidKinds := [.sentinel, .sentinel, .sentinel], laidTests := true, laidLooks := .later }
def FnDecideBoundsCardSaid : Prop := Claim7.holds Tryd.pinned (.plain (OpenSpec.ofChange fnDecideBoundsSpec)) fnDecideBoundsCard

/-- THE TIED CARD OF 'laws.FnExactFormatTable'. -/
def fnExactFormatTableCard : Claim7 := { stood := { row := fnExactFormatTableRow, standIns := [], harness := (true, "4ced2efdcccb6d12e2f18db90f775a9dcb0c701d0e03300c256ce4fc6a03f688"), looks := true }, kinds := [], alts := [], laidByText := true, laidKinds := [.data, .data, .data], laidTests := true, laidLooks := .later }
def FnExactFormatTableCardSaid : Prop := Claim7.holds Tryd.pinned (.plain (OpenSpec.ofChange fnExactFormatTableSpec)) fnExactFormatTableCard

/-- THE SECOND FORM's CARD OF 'laws.FnDecideOuts'. -/
def fnDecideOutsUptoCard : Claim7 := { stood := { row := fnDecideOutsUptoRow, standIns := [], harness := (true, "4ced2efdcccb6d12e2f18db90f775a9dcb0c701d0e03300c256ce4fc6a03f688"), looks := true }, kinds := [], alts := [], laidByText := true, laidKinds := [.sentinel, .sentinel, .sentinel], laidTests := true, laidLooks := .later }
def FnDecideOutsUptoCardSaid : Prop := Claim7.holds Tryd.pinned (.plain (OpenSpec.upto fnDecideOutsSpec)) fnDecideOutsUptoCard

/-- THE SECOND FORM's CARD OF 'laws.FnDecideOrder'. -/
def fnDecideOrderUptoCard : Claim7 := { stood := { row := fnDecideOrderUptoRow, standIns := [], harness := (true, "4ced2efdcccb6d12e2f18db90f775a9dcb0c701d0e03300c256ce4fc6a03f688"), looks := true }, kinds := [], alts := [], laidByText := true, laidKinds := [.sentinel, .sentinel, .sentinel], laidTests := true, laidLooks := .later }
def FnDecideOrderUptoCardSaid : Prop := Claim7.holds Tryd.pinned (.plain (OpenSpec.upto fnDecideOrderSpec)) fnDecideOrderUptoCard

/-- THE SECOND FORM's CARD OF 'laws.FnDecideOne'. -/
def fnDecideOneUptoCard : Claim7 := { stood := { row := fnDecideOneUptoRow, standIns := [], harness := (true, "4ced2efdcccb6d12e2f18db90f775a9dcb0c701d0e03300c256ce4fc6a03f688"), looks := true }, kinds := [], alts := [], laidByText := true, laidKinds := [.sentinel, .sentinel, .sentinel], laidTests := true, laidLooks := .later }
def FnDecideOneUptoCardSaid : Prop := Claim7.holds Tryd.pinned (.plain (OpenSpec.upto fnDecideOneSpec)) fnDecideOneUptoCard

/-- THE SECOND FORM's CARD OF 'laws.FnDecideBounds'. -/
def fnDecideBoundsUptoCard : Claim7 := { stood := { row := fnDecideBoundsUptoRow, standIns := [], harness := (true, "4ced2efdcccb6d12e2f18db90f775a9dcb0c701d0e03300c256ce4fc6a03f688"), looks := true }, kinds := [], alts := [], laidByText := true, laidKinds := [.sentinel, .sentinel, .sentinel], laidTests := true, laidLooks := .later }
def FnDecideBoundsUptoCardSaid : Prop := Claim7.holds Tryd.pinned (.plain (OpenSpec.upto fnDecideBoundsSpec)) fnDecideBoundsUptoCard

/-- THE SECOND FORM's CARD OF 'laws.FnExactFormatTable'. -/
def fnExactFormatTableUptoCard : Claim7 := { stood := { row := fnExactFormatTableUptoRow, standIns := [], harness := (true, "4ced2efdcccb6d12e2f18db90f775a9dcb0c701d0e03300c256ce4fc6a03f688"), looks := true }, kinds := [], alts := [], laidByText := true, laidKinds := [.data, .data, .data], laidTests := true, laidLooks := .later }
def FnExactFormatTableUptoCardSaid : Prop := Claim7.holds Tryd.pinned (.plain (OpenSpec.upto fnExactFormatTableSpec)) fnExactFormatTableUptoCard
end Rows
end Go.Proofs.YtiaoenkgapfgaaaDoor
