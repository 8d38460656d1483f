/-
  DERIVED. GIVEN WITH THE SEED: THE CARDS: each row of YtajjmdnbmicefaaDoorRows.lean that lists a variable, with what it lists TIED to the program's text (the seventh form; the later family's looks); each row that meets fmt, with fmt's text TOLD by the authors' own Lean function (tested against real Go, not proved from fmt's source: count such statements apart). THE CARD IS WHAT COUNTS. Prove the row's statement (the work); the ties are given (YtajjmdnbmicefaaDoorTie.lean); close each card by the builder's one call (the guide's Derived/Test/ToyasCard.lean, 'card_holds'). Laid BY PROGRAM, IN A SANDBOX (cutbox-door.mjs). By AI agents, Wed Nov 11 2026. No macro, syntax, notation, axiom, sorry.
-/
import Derived.Test.YtajjmdnbmicefaaDoorRows
import GoSem.ClaimSeven
namespace Go.Proofs.YtajjmdnbmicefaaDoor
namespace Rows

/-- THE TIED CARD OF 'laws.FnValueText'. -/
def fnValueTextCard : Claim7 := { stood := { row := fnValueTextRow, standIns := [], harness := (true, "a049a642da17259d8fa563383dfd73d49c880e60328e9274f72e22e10ce67893"), looks := false }, kinds := [], alts := [], laidByText := true, laidKinds := [.data, .data, .data], laidTests := true, laidLooks := .later }
def FnValueTextCardSaid : Prop := Claim7.holds Tryd.pinned (.plain (OpenSpec.ofChange fnValueTextSpec)) fnValueTextCard

/-- THE TIED CARD OF 'laws.FnColumnText'. -/
def fnColumnTextCard : Claim7 := { stood := { row := fnColumnTextRow, standIns := [], harness := (true, "a049a642da17259d8fa563383dfd73d49c880e60328e9274f72e22e10ce67893"), looks := false }, kinds := [], alts := [], laidByText := true, laidKinds := [.data, .data, .data], laidTests := true, laidLooks := .later }
def FnColumnTextCardSaid : Prop := Claim7.holds Tryd.pinned (.plain (OpenSpec.ofChange fnColumnTextSpec)) fnColumnTextCard

/-- THE TIED CARD OF 'laws.FnColumnSet'. -/
def fnColumnSetCard : Claim7 := { stood := { row := fnColumnSetRow, standIns := [], harness := (true, "a049a642da17259d8fa563383dfd73d49c880e60328e9274f72e22e10ce67893"), looks := false }, kinds := [], alts := [], laidByText := true, laidKinds := [.data, .data, .data], laidTests := true, laidLooks := .later }
def FnColumnSetCardSaid : Prop := Claim7.holds Tryd.pinned (.plain (OpenSpec.ofChange fnColumnSetSpec)) fnColumnSetCard

/-- THE TIED CARD OF 'laws.FnColumnValues'. -/
def fnColumnValuesCard : Claim7 := { stood := { row := fnColumnValuesRow, standIns := [], harness := (true, "a049a642da17259d8fa563383dfd73d49c880e60328e9274f72e22e10ce67893"), looks := false }, kinds := [], alts := [], laidByText := true, laidKinds := [.data, .data, .data], laidTests := true, laidLooks := .later }
def FnColumnValuesCardSaid : Prop := Claim7.holds Tryd.pinned (.plain (OpenSpec.ofChange fnColumnValuesSpec)) fnColumnValuesCard

/-- THE TIED CARD OF 'laws.FnTestLength'. -/
def fnTestLengthCard : Claim7 := { stood := { row := fnTestLengthRow, standIns := [], harness := (true, "a049a642da17259d8fa563383dfd73d49c880e60328e9274f72e22e10ce67893"), looks := false }, kinds := [], alts := [], laidByText := true, laidKinds := [.data, .data, .data], laidTests := true, laidLooks := .later }
def FnTestLengthCardSaid : Prop := Claim7.holds Tryd.pinned (.plain (OpenSpec.ofChange fnTestLengthSpec)) fnTestLengthCard

/-- THE SECOND FORM's CARD OF 'laws.FnValueText'. -/
def fnValueTextUptoCard : Claim7 := { stood := { row := fnValueTextUptoRow, standIns := [], harness := (true, "a049a642da17259d8fa563383dfd73d49c880e60328e9274f72e22e10ce67893"), looks := false }, kinds := [], alts := [], laidByText := true, laidKinds := [.data, .data, .data], laidTests := true, laidLooks := .later }
def FnValueTextUptoCardSaid : Prop := Claim7.holds Tryd.pinned (.plain (OpenSpec.upto fnValueTextSpec)) fnValueTextUptoCard

/-- THE SECOND FORM's CARD OF 'laws.FnColumnText'. -/
def fnColumnTextUptoCard : Claim7 := { stood := { row := fnColumnTextUptoRow, standIns := [], harness := (true, "a049a642da17259d8fa563383dfd73d49c880e60328e9274f72e22e10ce67893"), looks := false }, kinds := [], alts := [], laidByText := true, laidKinds := [.data, .data, .data], laidTests := true, laidLooks := .later }
def FnColumnTextUptoCardSaid : Prop := Claim7.holds Tryd.pinned (.plain (OpenSpec.upto fnColumnTextSpec)) fnColumnTextUptoCard

/-- THE SECOND FORM's CARD OF 'laws.FnColumnSet'. -/
def fnColumnSetUptoCard : Claim7 := { stood := { row := fnColumnSetUptoRow, standIns := [], harness := (true, "a049a642da17259d8fa563383dfd73d49c880e60328e9274f72e22e10ce67893"), looks := false }, kinds := [], alts := [], laidByText := true, laidKinds := [.data, .data, .data], laidTests := true, laidLooks := .later }
def FnColumnSetUptoCardSaid : Prop := Claim7.holds Tryd.pinned (.plain (OpenSpec.upto fnColumnSetSpec)) fnColumnSetUptoCard

/-- THE SECOND FORM's CARD OF 'laws.FnColumnValues'. -/
def fnColumnValuesUptoCard : Claim7 := { stood := { row := fnColumnValuesUptoRow, standIns := [], harness := (true, "a049a642da17259d8fa563383dfd73d49c880e60328e9274f72e22e10ce67893"), looks := false }, kinds := [], alts := [], laidByText := true, laidKinds := [.data, .data, .data], laidTests := true, laidLooks := .later }
def FnColumnValuesUptoCardSaid : Prop := Claim7.holds Tryd.pinned (.plain (OpenSpec.upto fnColumnValuesSpec)) fnColumnValuesUptoCard

/-- THE SECOND FORM's CARD OF 'laws.FnTestLength'. -/
def fnTestLengthUptoCard : Claim7 := { stood := { row := fnTestLengthUptoRow, standIns := [], harness := (true, "a049a642da17259d8fa563383dfd73d49c880e60328e9274f72e22e10ce67893"), looks := false }, kinds := [], alts := [], laidByText := true, laidKinds := [.data, .data, .data], laidTests := true, laidLooks := .later }
def FnTestLengthUptoCardSaid : Prop := Claim7.holds Tryd.pinned (.plain (OpenSpec.upto fnTestLengthSpec)) fnTestLengthUptoCard
end Rows
end Go.Proofs.YtajjmdnbmicefaaDoor
