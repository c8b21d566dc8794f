/-
  DERIVED. GIVEN WITH THE SEED: THE CARDS: each row of YtepiiiekcmbpaaaDoorRows.lean that lists a variable, with what it lists TIED to the program's text (the seventh form; the later family's looks); each row that meets fmt, with fmt's text TOLD by the authors' own Lean function (tested against real Go, not proved from fmt's source: count such statements apart). THE CARD IS WHAT COUNTS. Prove the row's statement (the work); the ties are given (YtepiiiekcmbpaaaDoorTie.lean); close each card by the builder's one call (the guide's Derived/Test/ToyasCard.lean, 'card_holds'). Laid BY PROGRAM, IN A SANDBOX (cutbox-door.mjs). By AI agents, Wed Nov 11 2026. No macro, syntax, notation, axiom, sorry.
-/
import Derived.Test.YtepiiiekcmbpaaaDoorRows
import GoSem.ClaimSeven
namespace Go.Proofs.YtepiiiekcmbpaaaDoor
namespace Rows

/-- THE TIED CARD OF 'ballastlaw07.TwinNames'. -/
def twinNamesCard : Claim7 := { stood := { row := twinNamesRow, standIns := [], harness := (true, "fb10743364119a112cc62195393929757f26584e7c457c42a89dfa7121b0b5c5"), looks := false }, kinds := [], alts := [], laidByText := true, laidKinds := [.data], laidTests := true, laidLooks := .later }
def TwinNamesCardSaid : Prop := Claim7.holds Tryd.pinned (.plain (OpenSpec.ofChange twinNamesSpec)) twinNamesCard

/-- THE TIED CARD OF 'ballastlaw07.TwinTells'. -/
def twinTellsCard : Claim7 := { stood := { row := twinTellsRow, standIns := [], harness := (true, "fb10743364119a112cc62195393929757f26584e7c457c42a89dfa7121b0b5c5"), looks := false }, kinds := [], alts := [], laidByText := true, laidKinds := [.data], laidTests := true, laidLooks := .later }
def TwinTellsCardSaid : Prop := Claim7.holds Tryd.pinned (.plain (OpenSpec.ofChange twinTellsSpec)) twinTellsCard

/-- THE TIED CARD OF 'ballastlaw07.TwinHeals'. -/
def twinHealsCard : Claim7 := { stood := { row := twinHealsRow, standIns := [], harness := (true, "fb10743364119a112cc62195393929757f26584e7c457c42a89dfa7121b0b5c5"), looks := false }, kinds := [], alts := [], laidByText := true, laidKinds := [.data], laidTests := true, laidLooks := .later }
def TwinHealsCardSaid : Prop := Claim7.holds Tryd.pinned (.plain (OpenSpec.ofChange twinHealsSpec)) twinHealsCard

/-- THE TIED CARD OF 'ballastlaw07.TwinAgain'. -/
def twinAgainCard : Claim7 := { stood := { row := twinAgainRow, standIns := [], harness := (true, "fb10743364119a112cc62195393929757f26584e7c457c42a89dfa7121b0b5c5"), looks := false }, kinds := [], alts := [], laidByText := true, laidKinds := [.data], laidTests := true, laidLooks := .later }
def TwinAgainCardSaid : Prop := Claim7.holds Tryd.pinned (.plain (OpenSpec.ofChange twinAgainSpec)) twinAgainCard

/-- THE TIED CARD OF 'ballastlaw07.TwinApart'. -/
def twinApartCard : Claim7 := { stood := { row := twinApartRow, standIns := [], harness := (true, "fb10743364119a112cc62195393929757f26584e7c457c42a89dfa7121b0b5c5"), looks := false }, kinds := [], alts := [], laidByText := true, laidKinds := [.data], laidTests := true, laidLooks := .later }
def TwinApartCardSaid : Prop := Claim7.holds Tryd.pinned (.plain (OpenSpec.ofChange twinApartSpec)) twinApartCard

/-- THE TIED CARD OF 'ballastlaw07.TwinFirst'. -/
def twinFirstCard : Claim7 := { stood := { row := twinFirstRow, standIns := [], harness := (true, "fb10743364119a112cc62195393929757f26584e7c457c42a89dfa7121b0b5c5"), looks := false }, kinds := [], alts := [], laidByText := true, laidKinds := [.data], laidTests := true, laidLooks := .later }
def TwinFirstCardSaid : Prop := Claim7.holds Tryd.pinned (.plain (OpenSpec.ofChange twinFirstSpec)) twinFirstCard

/-- THE SECOND FORM's CARD OF 'ballastlaw07.TwinNames'. -/
def twinNamesUptoCard : Claim7 := { stood := { row := twinNamesUptoRow, standIns := [], harness := (true, "fb10743364119a112cc62195393929757f26584e7c457c42a89dfa7121b0b5c5"), looks := false }, kinds := [], alts := [], laidByText := true, laidKinds := [.data], laidTests := true, laidLooks := .later }
def TwinNamesUptoCardSaid : Prop := Claim7.holds Tryd.pinned (.plain (OpenSpec.upto twinNamesSpec)) twinNamesUptoCard

/-- THE SECOND FORM's CARD OF 'ballastlaw07.TwinTells'. -/
def twinTellsUptoCard : Claim7 := { stood := { row := twinTellsUptoRow, standIns := [], harness := (true, "fb10743364119a112cc62195393929757f26584e7c457c42a89dfa7121b0b5c5"), looks := false }, kinds := [], alts := [], laidByText := true, laidKinds := [.data], laidTests := true, laidLooks := .later }
def TwinTellsUptoCardSaid : Prop := Claim7.holds Tryd.pinned (.plain (OpenSpec.upto twinTellsSpec)) twinTellsUptoCard

/-- THE SECOND FORM's CARD OF 'ballastlaw07.TwinHeals'. -/
def twinHealsUptoCard : Claim7 := { stood := { row := twinHealsUptoRow, standIns := [], harness := (true, "fb10743364119a112cc62195393929757f26584e7c457c42a89dfa7121b0b5c5"), looks := false }, kinds := [], alts := [], laidByText := true, laidKinds := [.data], laidTests := true, laidLooks := .later }
def TwinHealsUptoCardSaid : Prop := Claim7.holds Tryd.pinned (.plain (OpenSpec.upto twinHealsSpec)) twinHealsUptoCard

/-- THE SECOND FORM's CARD OF 'ballastlaw07.TwinAgain'. -/
def twinAgainUptoCard : Claim7 := { stood := { row := twinAgainUptoRow, standIns := [], harness := (true, "fb10743364119a112cc62195393929757f26584e7c457c42a89dfa7121b0b5c5"), looks := false }, kinds := [], alts := [], laidByText := true, laidKinds := [.data], laidTests := true, laidLooks := .later }
def TwinAgainUptoCardSaid : Prop := Claim7.holds Tryd.pinned (.plain (OpenSpec.upto twinAgainSpec)) twinAgainUptoCard

/-- THE SECOND FORM's CARD OF 'ballastlaw07.TwinApart'. -/
def twinApartUptoCard : Claim7 := { stood := { row := twinApartUptoRow, standIns := [], harness := (true, "fb10743364119a112cc62195393929757f26584e7c457c42a89dfa7121b0b5c5"), looks := false }, kinds := [], alts := [], laidByText := true, laidKinds := [.data], laidTests := true, laidLooks := .later }
def TwinApartUptoCardSaid : Prop := Claim7.holds Tryd.pinned (.plain (OpenSpec.upto twinApartSpec)) twinApartUptoCard

/-- THE SECOND FORM's CARD OF 'ballastlaw07.TwinFirst'. -/
def twinFirstUptoCard : Claim7 := { stood := { row := twinFirstUptoRow, standIns := [], harness := (true, "fb10743364119a112cc62195393929757f26584e7c457c42a89dfa7121b0b5c5"), looks := false }, kinds := [], alts := [], laidByText := true, laidKinds := [.data], laidTests := true, laidLooks := .later }
def TwinFirstUptoCardSaid : Prop := Claim7.holds Tryd.pinned (.plain (OpenSpec.upto twinFirstSpec)) twinFirstUptoCard
end Rows
end Go.Proofs.YtepiiiekcmbpaaaDoor
