/-
  DERIVED. GIVEN WITH THE SEED: THE CARDS: each row of YtliiooldlooagaaGreatDoorRows.lean that lists a variable, with what it lists TIED to the program's text (the seventh form; the later family's looks); each row that meets fmt, with fmt's text TOLD by the authors' own Lean function (tested against real Go, not proved from fmt's source: count such statements apart). THE CARD IS WHAT COUNTS. Prove the row's statement (the work); the ties are given (YtliiooldlooagaaGreatDoorTie.lean); close each card by the builder's one call (the guide's Derived/Test/ToyasCard.lean, 'card_holds'). Laid BY PROGRAM, IN A SANDBOX (cutbox-door.mjs). By AI agents, Wed Nov 11 2026. No macro, syntax, notation, axiom, sorry.
-/
import Derived.Test.YtliiooldlooagaaGreatDoorRows
import GoSem.ClaimSeven
namespace Go.Proofs.YtliiooldlooagaaGreatDoor
namespace Rows

/-- THE TIED CARD OF 'foyerlaw12.OverBack'. -/
def overBackCard : Claim7 := { stood := { row := overBackRow, standIns := [], harness := (true, "af215eba534182fd772a362e38de2ae4c6cb1d324e808c8856af01af6d90f930"), looks := true }, kinds := [], alts := [], laidByText := true, laidKinds := [.data, .data, .handle], laidTests := true, laidLooks := .later }
def OverBackCardSaid : Prop := Claim7.holds Tryz.pinned (.plain (OpenSpec.ofChange overBackSpec)) overBackCard

/-- THE TIED CARD OF 'foyerlaw12.OverSpace'. -/
def overSpaceCard : Claim7 := { stood := { row := overSpaceRow, standIns := [], harness := (true, "af215eba534182fd772a362e38de2ae4c6cb1d324e808c8856af01af6d90f930"), looks := true }, kinds := [], alts := [], laidByText := true, laidKinds := [.data, .data, .handle], laidTests := true, laidLooks := .later }
def OverSpaceCardSaid : Prop := Claim7.holds Tryz.pinned (.plain (OpenSpec.ofChange overSpaceSpec)) overSpaceCard

/-- THE TIED CARD OF 'foyerlaw12.OverKnown'. -/
def overKnownCard : Claim7 := { stood := { row := overKnownRow, standIns := [], harness := (true, "af215eba534182fd772a362e38de2ae4c6cb1d324e808c8856af01af6d90f930"), looks := true }, kinds := [], alts := [], laidByText := true, laidKinds := [.data, .data, .handle], laidTests := true, laidLooks := .later }
def OverKnownCardSaid : Prop := Claim7.holds Tryz.pinned (.plain (OpenSpec.ofChange overKnownSpec)) overKnownCard

/-- THE SECOND FORM's CARD OF 'foyerlaw12.OverBack'. -/
def overBackUptoCard : Claim7 := { stood := { row := overBackUptoRow, standIns := [], harness := (true, "af215eba534182fd772a362e38de2ae4c6cb1d324e808c8856af01af6d90f930"), looks := true }, kinds := [], alts := [], laidByText := true, laidKinds := [.data, .data, .handle], laidTests := true, laidLooks := .later }
def OverBackUptoCardSaid : Prop := Claim7.holds Tryz.pinned (.plain (OpenSpec.upto overBackSpec)) overBackUptoCard

/-- THE SECOND FORM's CARD OF 'foyerlaw12.OverSpace'. -/
def overSpaceUptoCard : Claim7 := { stood := { row := overSpaceUptoRow, standIns := [], harness := (true, "af215eba534182fd772a362e38de2ae4c6cb1d324e808c8856af01af6d90f930"), looks := true }, kinds := [], alts := [], laidByText := true, laidKinds := [.data, .data, .handle], laidTests := true, laidLooks := .later }
def OverSpaceUptoCardSaid : Prop := Claim7.holds Tryz.pinned (.plain (OpenSpec.upto overSpaceSpec)) overSpaceUptoCard

/-- THE SECOND FORM's CARD OF 'foyerlaw12.OverKnown'. -/
def overKnownUptoCard : Claim7 := { stood := { row := overKnownUptoRow, standIns := [], harness := (true, "af215eba534182fd772a362e38de2ae4c6cb1d324e808c8856af01af6d90f930"), looks := true }, kinds := [], alts := [], laidByText := true, laidKinds := [.data, .data, .handle], laidTests := true, laidLooks := .later }
def OverKnownUptoCardSaid : Prop := Claim7.holds Tryz.pinned (.plain (OpenSpec.upto overKnownSpec)) overKnownUptoCard
end Rows
end Go.Proofs.YtliiooldlooagaaGreatDoor
