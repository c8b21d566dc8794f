/-
  DERIVED. GIVEN WITH THE SEED: THE CARDS: each row of YtpildlikebhpjaaDoorRows.lean that lists a variable, with what it lists TIED to the program's text (the seventh form; the later family's looks); each row that meets fmt, with fmt's text TOLD by the authors' own Lean function (tested against real Go, not proved from fmt's source: count such statements apart). THE CARD IS WHAT COUNTS. Prove the row's statement (the work); the ties are given (YtpildlikebhpjaaDoorTie.lean); close each card by the builder's one call (the guide's Derived/Test/ToyasCard.lean, 'card_holds'). Laid BY PROGRAM, IN A SANDBOX (cutbox-door.mjs). By AI agents, Wed Nov 11 2026. No macro, syntax, notation, axiom, sorry.
-/
import Derived.Test.YtpildlikebhpjaaDoorRows
import GoSem.ClaimSeven
namespace Go.Proofs.YtpildlikebhpjaaDoor
namespace Rows

/-- THE TIED CARD OF 'ballastlaw06.SuperNames'. -/
def superNamesCard : Claim7 := { stood := { row := superNamesRow, standIns := [], harness := (true, "eb3a1d83748288551fb6783226c28b3aaf64a7274cfc29aab63bcc2bf36a16be"), looks := false }, kinds := [], alts := [], laidByText := true, laidKinds := [.data], laidTests := true, laidLooks := .later }
def SuperNamesCardSaid : Prop := Claim7.holds Tryd.pinned (.plain (OpenSpec.ofChange superNamesSpec)) superNamesCard

/-- THE TIED CARD OF 'ballastlaw06.SuperTells'. -/
def superTellsCard : Claim7 := { stood := { row := superTellsRow, standIns := [], harness := (true, "eb3a1d83748288551fb6783226c28b3aaf64a7274cfc29aab63bcc2bf36a16be"), looks := false }, kinds := [], alts := [], laidByText := true, laidKinds := [.data], laidTests := true, laidLooks := .later }
def SuperTellsCardSaid : Prop := Claim7.holds Tryd.pinned (.plain (OpenSpec.ofChange superTellsSpec)) superTellsCard

/-- THE TIED CARD OF 'ballastlaw06.SuperBack'. -/
def superBackCard : Claim7 := { stood := { row := superBackRow, standIns := [], harness := (true, "eb3a1d83748288551fb6783226c28b3aaf64a7274cfc29aab63bcc2bf36a16be"), looks := false }, kinds := [], alts := [], laidByText := true, laidKinds := [.data], laidTests := true, laidLooks := .later }
def SuperBackCardSaid : Prop := Claim7.holds Tryd.pinned (.plain (OpenSpec.ofChange superBackSpec)) superBackCard

/-- THE TIED CARD OF 'ballastlaw06.SuperOnce'. -/
def superOnceCard : Claim7 := { stood := { row := superOnceRow, standIns := [], harness := (true, "eb3a1d83748288551fb6783226c28b3aaf64a7274cfc29aab63bcc2bf36a16be"), looks := false }, kinds := [], alts := [], laidByText := true, laidKinds := [.data], laidTests := true, laidLooks := .later }
def SuperOnceCardSaid : Prop := Claim7.holds Tryd.pinned (.plain (OpenSpec.ofChange superOnceSpec)) superOnceCard

/-- THE TIED CARD OF 'ballastlaw06.SuperByte'. -/
def superByteCard : Claim7 := { stood := { row := superByteRow, standIns := [], harness := (true, "eb3a1d83748288551fb6783226c28b3aaf64a7274cfc29aab63bcc2bf36a16be"), looks := false }, kinds := [], alts := [], laidByText := true, laidKinds := [.data], laidTests := true, laidLooks := .later }
def SuperByteCardSaid : Prop := Claim7.holds Tryd.pinned (.plain (OpenSpec.ofChange superByteSpec)) superByteCard

/-- THE TIED CARD OF 'ballastlaw06.SuperSum'. -/
def superSumCard : Claim7 := { stood := { row := superSumRow, standIns := [], harness := (true, "eb3a1d83748288551fb6783226c28b3aaf64a7274cfc29aab63bcc2bf36a16be"), looks := false }, kinds := [], alts := [], laidByText := true, laidKinds := [.data], laidTests := true, laidLooks := .later }
def SuperSumCardSaid : Prop := Claim7.holds Tryd.pinned (.plain (OpenSpec.ofChange superSumSpec)) superSumCard

/-- THE SECOND FORM's CARD OF 'ballastlaw06.SuperNames'. -/
def superNamesUptoCard : Claim7 := { stood := { row := superNamesUptoRow, standIns := [], harness := (true, "eb3a1d83748288551fb6783226c28b3aaf64a7274cfc29aab63bcc2bf36a16be"), looks := false }, kinds := [], alts := [], laidByText := true, laidKinds := [.data], laidTests := true, laidLooks := .later }
def SuperNamesUptoCardSaid : Prop := Claim7.holds Tryd.pinned (.plain (OpenSpec.upto superNamesSpec)) superNamesUptoCard

/-- THE SECOND FORM's CARD OF 'ballastlaw06.SuperTells'. -/
def superTellsUptoCard : Claim7 := { stood := { row := superTellsUptoRow, standIns := [], harness := (true, "eb3a1d83748288551fb6783226c28b3aaf64a7274cfc29aab63bcc2bf36a16be"), looks := false }, kinds := [], alts := [], laidByText := true, laidKinds := [.data], laidTests := true, laidLooks := .later }
def SuperTellsUptoCardSaid : Prop := Claim7.holds Tryd.pinned (.plain (OpenSpec.upto superTellsSpec)) superTellsUptoCard

/-- THE SECOND FORM's CARD OF 'ballastlaw06.SuperBack'. -/
def superBackUptoCard : Claim7 := { stood := { row := superBackUptoRow, standIns := [], harness := (true, "eb3a1d83748288551fb6783226c28b3aaf64a7274cfc29aab63bcc2bf36a16be"), looks := false }, kinds := [], alts := [], laidByText := true, laidKinds := [.data], laidTests := true, laidLooks := .later }
def SuperBackUptoCardSaid : Prop := Claim7.holds Tryd.pinned (.plain (OpenSpec.upto superBackSpec)) superBackUptoCard

/-- THE SECOND FORM's CARD OF 'ballastlaw06.SuperOnce'. -/
def superOnceUptoCard : Claim7 := { stood := { row := superOnceUptoRow, standIns := [], harness := (true, "eb3a1d83748288551fb6783226c28b3aaf64a7274cfc29aab63bcc2bf36a16be"), looks := false }, kinds := [], alts := [], laidByText := true, laidKinds := [.data], laidTests := true, laidLooks := .later }
def SuperOnceUptoCardSaid : Prop := Claim7.holds Tryd.pinned (.plain (OpenSpec.upto superOnceSpec)) superOnceUptoCard

/-- THE SECOND FORM's CARD OF 'ballastlaw06.SuperByte'. -/
def superByteUptoCard : Claim7 := { stood := { row := superByteUptoRow, standIns := [], harness := (true, "eb3a1d83748288551fb6783226c28b3aaf64a7274cfc29aab63bcc2bf36a16be"), looks := false }, kinds := [], alts := [], laidByText := true, laidKinds := [.data], laidTests := true, laidLooks := .later }
def SuperByteUptoCardSaid : Prop := Claim7.holds Tryd.pinned (.plain (OpenSpec.upto superByteSpec)) superByteUptoCard

/-- THE SECOND FORM's CARD OF 'ballastlaw06.SuperSum'. -/
def superSumUptoCard : Claim7 := { stood := { row := superSumUptoRow, standIns := [], harness := (true, "eb3a1d83748288551fb6783226c28b3aaf64a7274cfc29aab63bcc2bf36a16be"), looks := false }, kinds := [], alts := [], laidByText := true, laidKinds := [.data], laidTests := true, laidLooks := .later }
def SuperSumUptoCardSaid : Prop := Claim7.holds Tryd.pinned (.plain (OpenSpec.upto superSumSpec)) superSumUptoCard
end Rows
end Go.Proofs.YtpildlikebhpjaaDoor
