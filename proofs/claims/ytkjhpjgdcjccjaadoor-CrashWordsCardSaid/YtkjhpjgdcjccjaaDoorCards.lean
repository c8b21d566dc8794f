/-
  DERIVED. GIVEN WITH THE SEED: THE CARDS: each row of YtkjhpjgdcjccjaaDoorRows.lean that lists a variable, with what it lists TIED to the program's text (the seventh form; the later family's looks); each row that meets fmt, with fmt's text TOLD by the authors' own Lean function (tested against real Go, not proved from fmt's source: count such statements apart). THE CARD IS WHAT COUNTS. Prove the row's statement (the work); the ties are given (YtkjhpjgdcjccjaaDoorTie.lean); close each card by the builder's one call (the guide's Derived/Test/ToyasCard.lean, 'card_holds'). Laid BY PROGRAM, IN A SANDBOX (cutbox-door.mjs). By AI agents, Wed Nov 11 2026. No macro, syntax, notation, axiom, sorry.
-/
import Derived.Test.YtkjhpjgdcjccjaaDoorRows
import GoSem.ClaimSeven
namespace Go.Proofs.YtkjhpjgdcjccjaaDoor
namespace Rows

/-- THE TIED CARD OF 'ballastlaw04.CrashNames'. -/
def crashNamesCard : Claim7 := { stood := { row := crashNamesRow, standIns := [], harness := (true, "568df056531d6794368a21137a8c457ceded85e39e15d01760beb15b7e527d3b"), looks := false }, kinds := [], alts := [], laidByText := true, laidKinds := [.data], laidTests := true, laidLooks := .later }
def CrashNamesCardSaid : Prop := Claim7.holds Tryd.pinned (.plain (OpenSpec.ofChange crashNamesSpec)) crashNamesCard

/-- THE TIED CARD OF 'ballastlaw04.CrashTells'. -/
def crashTellsCard : Claim7 := { stood := { row := crashTellsRow, standIns := [], harness := (true, "568df056531d6794368a21137a8c457ceded85e39e15d01760beb15b7e527d3b"), looks := false }, kinds := [], alts := [], laidByText := true, laidKinds := [.data], laidTests := true, laidLooks := .later }
def CrashTellsCardSaid : Prop := Claim7.holds Tryd.pinned (.plain (OpenSpec.ofChange crashTellsSpec)) crashTellsCard

/-- THE TIED CARD OF 'ballastlaw04.CrashWords'. -/
def crashWordsCard : Claim7 := { stood := { row := crashWordsRow, standIns := [], harness := (true, "568df056531d6794368a21137a8c457ceded85e39e15d01760beb15b7e527d3b"), looks := false }, kinds := [], alts := [], laidByText := true, laidKinds := [.data], laidTests := true, laidLooks := .later }
def CrashWordsCardSaid : Prop := Claim7.holds Tryd.pinned (.plain (OpenSpec.ofChange crashWordsSpec)) crashWordsCard

/-- THE TIED CARD OF 'ballastlaw04.CrashEnds'. -/
def crashEndsCard : Claim7 := { stood := { row := crashEndsRow, standIns := [], harness := (true, "568df056531d6794368a21137a8c457ceded85e39e15d01760beb15b7e527d3b"), looks := false }, kinds := [], alts := [], laidByText := true, laidKinds := [.data], laidTests := true, laidLooks := .later }
def CrashEndsCardSaid : Prop := Claim7.holds Tryd.pinned (.plain (OpenSpec.ofChange crashEndsSpec)) crashEndsCard

/-- THE TIED CARD OF 'ballastlaw04.CrashFenced'. -/
def crashFencedCard : Claim7 := { stood := { row := crashFencedRow, standIns := [], harness := (true, "568df056531d6794368a21137a8c457ceded85e39e15d01760beb15b7e527d3b"), looks := false }, kinds := [], alts := [], laidByText := true, laidKinds := [.data], laidTests := true, laidLooks := .later }
def CrashFencedCardSaid : Prop := Claim7.holds Tryd.pinned (.plain (OpenSpec.ofChange crashFencedSpec)) crashFencedCard

/-- THE TIED CARD OF 'ballastlaw04.CrashMasks'. -/
def crashMasksCard : Claim7 := { stood := { row := crashMasksRow, standIns := [], harness := (true, "568df056531d6794368a21137a8c457ceded85e39e15d01760beb15b7e527d3b"), looks := false }, kinds := [], alts := [], laidByText := true, laidKinds := [.data], laidTests := true, laidLooks := .later }
def CrashMasksCardSaid : Prop := Claim7.holds Tryd.pinned (.plain (OpenSpec.ofChange crashMasksSpec)) crashMasksCard

/-- THE SECOND FORM's CARD OF 'ballastlaw04.CrashNames'. -/
def crashNamesUptoCard : Claim7 := { stood := { row := crashNamesUptoRow, standIns := [], harness := (true, "568df056531d6794368a21137a8c457ceded85e39e15d01760beb15b7e527d3b"), looks := false }, kinds := [], alts := [], laidByText := true, laidKinds := [.data], laidTests := true, laidLooks := .later }
def CrashNamesUptoCardSaid : Prop := Claim7.holds Tryd.pinned (.plain (OpenSpec.upto crashNamesSpec)) crashNamesUptoCard

/-- THE SECOND FORM's CARD OF 'ballastlaw04.CrashTells'. -/
def crashTellsUptoCard : Claim7 := { stood := { row := crashTellsUptoRow, standIns := [], harness := (true, "568df056531d6794368a21137a8c457ceded85e39e15d01760beb15b7e527d3b"), looks := false }, kinds := [], alts := [], laidByText := true, laidKinds := [.data], laidTests := true, laidLooks := .later }
def CrashTellsUptoCardSaid : Prop := Claim7.holds Tryd.pinned (.plain (OpenSpec.upto crashTellsSpec)) crashTellsUptoCard

/-- THE SECOND FORM's CARD OF 'ballastlaw04.CrashWords'. -/
def crashWordsUptoCard : Claim7 := { stood := { row := crashWordsUptoRow, standIns := [], harness := (true, "568df056531d6794368a21137a8c457ceded85e39e15d01760beb15b7e527d3b"), looks := false }, kinds := [], alts := [], laidByText := true, laidKinds := [.data], laidTests := true, laidLooks := .later }
def CrashWordsUptoCardSaid : Prop := Claim7.holds Tryd.pinned (.plain (OpenSpec.upto crashWordsSpec)) crashWordsUptoCard

/-- THE SECOND FORM's CARD OF 'ballastlaw04.CrashEnds'. -/
def crashEndsUptoCard : Claim7 := { stood := { row := crashEndsUptoRow, standIns := [], harness := (true, "568df056531d6794368a21137a8c457ceded85e39e15d01760beb15b7e527d3b"), looks := false }, kinds := [], alts := [], laidByText := true, laidKinds := [.data], laidTests := true, laidLooks := .later }
def CrashEndsUptoCardSaid : Prop := Claim7.holds Tryd.pinned (.plain (OpenSpec.upto crashEndsSpec)) crashEndsUptoCard

/-- THE SECOND FORM's CARD OF 'ballastlaw04.CrashFenced'. -/
def crashFencedUptoCard : Claim7 := { stood := { row := crashFencedUptoRow, standIns := [], harness := (true, "568df056531d6794368a21137a8c457ceded85e39e15d01760beb15b7e527d3b"), looks := false }, kinds := [], alts := [], laidByText := true, laidKinds := [.data], laidTests := true, laidLooks := .later }
def CrashFencedUptoCardSaid : Prop := Claim7.holds Tryd.pinned (.plain (OpenSpec.upto crashFencedSpec)) crashFencedUptoCard

/-- THE SECOND FORM's CARD OF 'ballastlaw04.CrashMasks'. -/
def crashMasksUptoCard : Claim7 := { stood := { row := crashMasksUptoRow, standIns := [], harness := (true, "568df056531d6794368a21137a8c457ceded85e39e15d01760beb15b7e527d3b"), looks := false }, kinds := [], alts := [], laidByText := true, laidKinds := [.data], laidTests := true, laidLooks := .later }
def CrashMasksUptoCardSaid : Prop := Claim7.holds Tryd.pinned (.plain (OpenSpec.upto crashMasksSpec)) crashMasksUptoCard
end Rows
end Go.Proofs.YtkjhpjgdcjccjaaDoor
