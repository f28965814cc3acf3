/-
  DERIVED. GIVEN WITH THE SEED: THE CARDS: each row of YtjbfooaembpdfaaGreatDoorRows.lean that lists a variable, with what it lists TIED to the program's text (the seventh form; the later family's looks); each row that meets fmt, with fmt's text TOLD by the authors' own Lean function (tested against real Go, not proved from fmt's source: count such statements apart). THE CARD IS WHAT COUNTS. Prove the row's statement (the work); the ties are given (YtjbfooaembpdfaaGreatDoorTie.lean); close each card by the builder's one call (the guide's Derived/Test/ToyasCard.lean, 'card_holds'). Laid BY PROGRAM, IN A SANDBOX (cutbox-door.mjs). By AI agents, Wed Nov 11 2026. No macro, syntax, notation, axiom, sorry.
-/
import Derived.Test.YtjbfooaembpdfaaGreatDoorRows
import GoSem.ClaimSeven
namespace Go.Proofs.YtjbfooaembpdfaaGreatDoor
namespace Rows

/-- THE TIED CARD OF 'foyerlaw10.PagerWhole'. -/
def pagerWholeCard : Claim7 := { stood := { row := pagerWholeRow, standIns := [], harness := (true, "a434c47748ce3e2fe823468887a12d92487d361a46abb7e38f56bcdc9c759b9e"), looks := true }, kinds := [], alts := [], laidByText := true, laidKinds := [.data, .data, .handle, .data], laidTests := true, laidLooks := .later }
def PagerWholeCardSaid : Prop := Claim7.holds Tryz.pinned (.plain (OpenSpec.ofChange pagerWholeSpec)) pagerWholeCard

/-- THE TIED CARD OF 'foyerlaw10.PagerSpace'. -/
def pagerSpaceCard : Claim7 := { stood := { row := pagerSpaceRow, standIns := [], harness := (true, "a434c47748ce3e2fe823468887a12d92487d361a46abb7e38f56bcdc9c759b9e"), looks := true }, kinds := [], alts := [], laidByText := true, laidKinds := [.data, .data, .handle], laidTests := true, laidLooks := .later }
def PagerSpaceCardSaid : Prop := Claim7.holds Tryz.pinned (.plain (OpenSpec.ofChange pagerSpaceSpec)) pagerSpaceCard

/-- THE TIED CARD OF 'foyerlaw10.PagerKnown'. -/
def pagerKnownCard : Claim7 := { stood := { row := pagerKnownRow, standIns := [], harness := (true, "a434c47748ce3e2fe823468887a12d92487d361a46abb7e38f56bcdc9c759b9e"), looks := true }, kinds := [], alts := [], laidByText := true, laidKinds := [.data, .data, .handle, .data], laidTests := true, laidLooks := .later }
def PagerKnownCardSaid : Prop := Claim7.holds Tryz.pinned (.plain (OpenSpec.ofChange pagerKnownSpec)) pagerKnownCard

/-- THE SECOND FORM's CARD OF 'foyerlaw10.PagerWhole'. -/
def pagerWholeUptoCard : Claim7 := { stood := { row := pagerWholeUptoRow, standIns := [], harness := (true, "a434c47748ce3e2fe823468887a12d92487d361a46abb7e38f56bcdc9c759b9e"), looks := true }, kinds := [], alts := [], laidByText := true, laidKinds := [.data, .data, .handle, .data], laidTests := true, laidLooks := .later }
def PagerWholeUptoCardSaid : Prop := Claim7.holds Tryz.pinned (.plain (OpenSpec.upto pagerWholeSpec)) pagerWholeUptoCard

/-- THE SECOND FORM's CARD OF 'foyerlaw10.PagerSpace'. -/
def pagerSpaceUptoCard : Claim7 := { stood := { row := pagerSpaceUptoRow, standIns := [], harness := (true, "a434c47748ce3e2fe823468887a12d92487d361a46abb7e38f56bcdc9c759b9e"), looks := true }, kinds := [], alts := [], laidByText := true, laidKinds := [.data, .data, .handle], laidTests := true, laidLooks := .later }
def PagerSpaceUptoCardSaid : Prop := Claim7.holds Tryz.pinned (.plain (OpenSpec.upto pagerSpaceSpec)) pagerSpaceUptoCard

/-- THE SECOND FORM's CARD OF 'foyerlaw10.PagerKnown'. -/
def pagerKnownUptoCard : Claim7 := { stood := { row := pagerKnownUptoRow, standIns := [], harness := (true, "a434c47748ce3e2fe823468887a12d92487d361a46abb7e38f56bcdc9c759b9e"), looks := true }, kinds := [], alts := [], laidByText := true, laidKinds := [.data, .data, .handle, .data], laidTests := true, laidLooks := .later }
def PagerKnownUptoCardSaid : Prop := Claim7.holds Tryz.pinned (.plain (OpenSpec.upto pagerKnownSpec)) pagerKnownUptoCard
end Rows
end Go.Proofs.YtjbfooaembpdfaaGreatDoor
