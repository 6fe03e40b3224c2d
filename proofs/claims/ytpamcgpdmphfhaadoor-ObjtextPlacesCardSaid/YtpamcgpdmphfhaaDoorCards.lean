/-
  DERIVED. GIVEN WITH THE SEED: THE CARDS: each row of YtpamcgpdmphfhaaDoorRows.lean that lists a variable, with what it lists TIED to the program's text (the seventh form; the later family's looks); each row that meets fmt, with fmt's text TOLD by the authors' own Lean function (tested against real Go, not proved from fmt's source: count such statements apart). THE CARD IS WHAT COUNTS. Prove the row's statement (the work); the ties are given (YtpamcgpdmphfhaaDoorTie.lean); close each card by the builder's one call (the guide's Derived/Test/ToyasCard.lean, 'card_holds'). Laid BY PROGRAM, IN A SANDBOX (cutbox-door.mjs). By AI agents, Wed Nov 11 2026. No macro, syntax, notation, axiom, sorry.
-/
import Derived.Test.YtpamcgpdmphfhaaDoorRows
import GoSem.ClaimSeven
namespace Go.Proofs.YtpamcgpdmphfhaaDoor
namespace Rows

/-- THE TIED CARD OF 'replevinlaw24.ObjtextReads'. -/
def objtextReadsCard : Claim7 := { stood := { row := objtextReadsRow, standIns := [], harness := (true, "58943f822a943d47ae02a4d86221812e61d19078e4833418caf26277d12429ef"), looks := true }, kinds := [], alts := [], laidByText := true, laidKinds := [.data, .data, .data, .sentinel, .sentinel], laidTests := true, laidLooks := .later }
def ObjtextReadsCardSaid : Prop := Claim7.holds Tryd.pinned (.plain (OpenSpec.ofChange objtextReadsSpec)) objtextReadsCard

/-- THE TIED CARD OF 'replevinlaw24.ObjtextLines'. -/
def objtextLinesCard : Claim7 := { stood := { row := objtextLinesRow, standIns := [], harness := (true, "58943f822a943d47ae02a4d86221812e61d19078e4833418caf26277d12429ef"), looks := true }, kinds := [], alts := [], laidByText := true, laidKinds := [.data, .data, .data, .sentinel, .sentinel], laidTests := true, laidLooks := .later }
def ObjtextLinesCardSaid : Prop := Claim7.holds Tryd.pinned (.plain (OpenSpec.ofChange objtextLinesSpec)) objtextLinesCard

/-- THE TIED CARD OF 'replevinlaw24.ObjtextBack'. -/
def objtextBackCard : Claim7 := { stood := { row := objtextBackRow, standIns := [], harness := (true, "58943f822a943d47ae02a4d86221812e61d19078e4833418caf26277d12429ef"), looks := true }, kinds := [], alts := [], laidByText := true, laidKinds := [.data, .data, .data, .sentinel, .sentinel], laidTests := true, laidLooks := .later }
def ObjtextBackCardSaid : Prop := Claim7.holds Tryd.pinned (.plain (OpenSpec.ofChange objtextBackSpec)) objtextBackCard

/-- THE TIED CARD OF 'replevinlaw24.ObjtextPlaces'. -/
def objtextPlacesCard : Claim7 := { stood := { row := objtextPlacesRow, standIns := [], harness := (true, "58943f822a943d47ae02a4d86221812e61d19078e4833418caf26277d12429ef"), looks := true }, kinds := [], alts := [], laidByText := true, laidKinds := [.data, .data, .data, .sentinel, .sentinel], laidTests := true, laidLooks := .later }
def ObjtextPlacesCardSaid : Prop := Claim7.holds Tryd.pinned (.plain (OpenSpec.ofChange objtextPlacesSpec)) objtextPlacesCard

/-- THE SECOND FORM's CARD OF 'replevinlaw24.ObjtextReads'. -/
def objtextReadsUptoCard : Claim7 := { stood := { row := objtextReadsUptoRow, standIns := [], harness := (true, "58943f822a943d47ae02a4d86221812e61d19078e4833418caf26277d12429ef"), looks := true }, kinds := [], alts := [], laidByText := true, laidKinds := [.data, .data, .data, .sentinel, .sentinel], laidTests := true, laidLooks := .later }
def ObjtextReadsUptoCardSaid : Prop := Claim7.holds Tryd.pinned (.plain (OpenSpec.upto objtextReadsSpec)) objtextReadsUptoCard

/-- THE SECOND FORM's CARD OF 'replevinlaw24.ObjtextLines'. -/
def objtextLinesUptoCard : Claim7 := { stood := { row := objtextLinesUptoRow, standIns := [], harness := (true, "58943f822a943d47ae02a4d86221812e61d19078e4833418caf26277d12429ef"), looks := true }, kinds := [], alts := [], laidByText := true, laidKinds := [.data, .data, .data, .sentinel, .sentinel], laidTests := true, laidLooks := .later }
def ObjtextLinesUptoCardSaid : Prop := Claim7.holds Tryd.pinned (.plain (OpenSpec.upto objtextLinesSpec)) objtextLinesUptoCard

/-- THE SECOND FORM's CARD OF 'replevinlaw24.ObjtextBack'. -/
def objtextBackUptoCard : Claim7 := { stood := { row := objtextBackUptoRow, standIns := [], harness := (true, "58943f822a943d47ae02a4d86221812e61d19078e4833418caf26277d12429ef"), looks := true }, kinds := [], alts := [], laidByText := true, laidKinds := [.data, .data, .data, .sentinel, .sentinel], laidTests := true, laidLooks := .later }
def ObjtextBackUptoCardSaid : Prop := Claim7.holds Tryd.pinned (.plain (OpenSpec.upto objtextBackSpec)) objtextBackUptoCard

/-- THE SECOND FORM's CARD OF 'replevinlaw24.ObjtextPlaces'. -/
def objtextPlacesUptoCard : Claim7 := { stood := { row := objtextPlacesUptoRow, standIns := [], harness := (true, "58943f822a943d47ae02a4d86221812e61d19078e4833418caf26277d12429ef"), looks := true }, kinds := [], alts := [], laidByText := true, laidKinds := [.data, .data, .data, .sentinel, .sentinel], laidTests := true, laidLooks := .later }
def ObjtextPlacesUptoCardSaid : Prop := Claim7.holds Tryd.pinned (.plain (OpenSpec.upto objtextPlacesSpec)) objtextPlacesUptoCard
end Rows
end Go.Proofs.YtpamcgpdmphfhaaDoor
