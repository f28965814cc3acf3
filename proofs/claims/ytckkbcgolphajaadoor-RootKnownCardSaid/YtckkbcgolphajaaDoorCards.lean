/-
  DERIVED. GIVEN WITH THE SEED: THE CARDS: each row of YtckkbcgolphajaaDoorRows.lean that lists a variable, with what it lists TIED to the program's text (the seventh form; the later family's looks); each row that meets fmt, with fmt's text TOLD by the authors' own Lean function (tested against real Go, not proved from fmt's source: count such statements apart). THE CARD IS WHAT COUNTS. Prove the row's statement (the work); the ties are given (YtckkbcgolphajaaDoorTie.lean); close each card by the builder's one call (the guide's Derived/Test/ToyasCard.lean, 'card_holds'). Laid BY PROGRAM, IN A SANDBOX (cutbox-door.mjs). By AI agents, Wed Nov 11 2026. No macro, syntax, notation, axiom, sorry.
-/
import Derived.Test.YtckkbcgolphajaaDoorRows
import GoSem.ClaimSeven
namespace Go.Proofs.YtckkbcgolphajaaDoor
namespace Rows

/-- THE TIED CARD OF 'foyerlaw08.RootLays'. -/
def rootLaysCard : Claim7 := { stood := { row := rootLaysRow, standIns := [], harness := (true, "404e6eb30107c7d346ca793d03a4ed2f8e69f052caa51dedf6c1e210d36fbce1"), looks := false }, kinds := [], alts := [], laidByText := true, laidKinds := [.data], laidTests := true, laidLooks := .later }
def RootLaysCardSaid : Prop := Claim7.holds Tryd.pinned (.plain (OpenSpec.ofChange rootLaysSpec)) rootLaysCard

/-- THE TIED CARD OF 'foyerlaw08.RootPicks'. -/
def rootPicksCard : Claim7 := { stood := { row := rootPicksRow, standIns := [], harness := (true, "404e6eb30107c7d346ca793d03a4ed2f8e69f052caa51dedf6c1e210d36fbce1"), looks := false }, kinds := [], alts := [], laidByText := true, laidKinds := [.data], laidTests := true, laidLooks := .later }
def RootPicksCardSaid : Prop := Claim7.holds Tryd.pinned (.plain (OpenSpec.ofChange rootPicksSpec)) rootPicksCard

/-- THE TIED CARD OF 'foyerlaw08.RootBack'. -/
def rootBackCard : Claim7 := { stood := { row := rootBackRow, standIns := [], harness := (true, "404e6eb30107c7d346ca793d03a4ed2f8e69f052caa51dedf6c1e210d36fbce1"), looks := false }, kinds := [], alts := [], laidByText := true, laidKinds := [.data], laidTests := true, laidLooks := .later }
def RootBackCardSaid : Prop := Claim7.holds Tryd.pinned (.plain (OpenSpec.ofChange rootBackSpec)) rootBackCard

/-- THE TIED CARD OF 'foyerlaw08.RootTorn'. -/
def rootTornCard : Claim7 := { stood := { row := rootTornRow, standIns := [], harness := (true, "404e6eb30107c7d346ca793d03a4ed2f8e69f052caa51dedf6c1e210d36fbce1"), looks := false }, kinds := [], alts := [], laidByText := true, laidKinds := [.data], laidTests := true, laidLooks := .later }
def RootTornCardSaid : Prop := Claim7.holds Tryd.pinned (.plain (OpenSpec.ofChange rootTornSpec)) rootTornCard

/-- THE TIED CARD OF 'foyerlaw08.RootNext'. -/
def rootNextCard : Claim7 := { stood := { row := rootNextRow, standIns := [], harness := (true, "404e6eb30107c7d346ca793d03a4ed2f8e69f052caa51dedf6c1e210d36fbce1"), looks := false }, kinds := [], alts := [], laidByText := true, laidKinds := [.data], laidTests := true, laidLooks := .later }
def RootNextCardSaid : Prop := Claim7.holds Tryd.pinned (.plain (OpenSpec.ofChange rootNextSpec)) rootNextCard

/-- THE TIED CARD OF 'foyerlaw08.RootKnown'. -/
def rootKnownCard : Claim7 := { stood := { row := rootKnownRow, standIns := [], harness := (true, "404e6eb30107c7d346ca793d03a4ed2f8e69f052caa51dedf6c1e210d36fbce1"), looks := false }, kinds := [], alts := [], laidByText := true, laidKinds := [.data], laidTests := true, laidLooks := .later }
def RootKnownCardSaid : Prop := Claim7.holds Tryd.pinned (.plain (OpenSpec.ofChange rootKnownSpec)) rootKnownCard

/-- THE SECOND FORM's CARD OF 'foyerlaw08.RootLays'. -/
def rootLaysUptoCard : Claim7 := { stood := { row := rootLaysUptoRow, standIns := [], harness := (true, "404e6eb30107c7d346ca793d03a4ed2f8e69f052caa51dedf6c1e210d36fbce1"), looks := false }, kinds := [], alts := [], laidByText := true, laidKinds := [.data], laidTests := true, laidLooks := .later }
def RootLaysUptoCardSaid : Prop := Claim7.holds Tryd.pinned (.plain (OpenSpec.upto rootLaysSpec)) rootLaysUptoCard

/-- THE SECOND FORM's CARD OF 'foyerlaw08.RootPicks'. -/
def rootPicksUptoCard : Claim7 := { stood := { row := rootPicksUptoRow, standIns := [], harness := (true, "404e6eb30107c7d346ca793d03a4ed2f8e69f052caa51dedf6c1e210d36fbce1"), looks := false }, kinds := [], alts := [], laidByText := true, laidKinds := [.data], laidTests := true, laidLooks := .later }
def RootPicksUptoCardSaid : Prop := Claim7.holds Tryd.pinned (.plain (OpenSpec.upto rootPicksSpec)) rootPicksUptoCard

/-- THE SECOND FORM's CARD OF 'foyerlaw08.RootBack'. -/
def rootBackUptoCard : Claim7 := { stood := { row := rootBackUptoRow, standIns := [], harness := (true, "404e6eb30107c7d346ca793d03a4ed2f8e69f052caa51dedf6c1e210d36fbce1"), looks := false }, kinds := [], alts := [], laidByText := true, laidKinds := [.data], laidTests := true, laidLooks := .later }
def RootBackUptoCardSaid : Prop := Claim7.holds Tryd.pinned (.plain (OpenSpec.upto rootBackSpec)) rootBackUptoCard

/-- THE SECOND FORM's CARD OF 'foyerlaw08.RootTorn'. -/
def rootTornUptoCard : Claim7 := { stood := { row := rootTornUptoRow, standIns := [], harness := (true, "404e6eb30107c7d346ca793d03a4ed2f8e69f052caa51dedf6c1e210d36fbce1"), looks := false }, kinds := [], alts := [], laidByText := true, laidKinds := [.data], laidTests := true, laidLooks := .later }
def RootTornUptoCardSaid : Prop := Claim7.holds Tryd.pinned (.plain (OpenSpec.upto rootTornSpec)) rootTornUptoCard

/-- THE SECOND FORM's CARD OF 'foyerlaw08.RootNext'. -/
def rootNextUptoCard : Claim7 := { stood := { row := rootNextUptoRow, standIns := [], harness := (true, "404e6eb30107c7d346ca793d03a4ed2f8e69f052caa51dedf6c1e210d36fbce1"), looks := false }, kinds := [], alts := [], laidByText := true, laidKinds := [.data], laidTests := true, laidLooks := .later }
def RootNextUptoCardSaid : Prop := Claim7.holds Tryd.pinned (.plain (OpenSpec.upto rootNextSpec)) rootNextUptoCard

/-- THE SECOND FORM's CARD OF 'foyerlaw08.RootKnown'. -/
def rootKnownUptoCard : Claim7 := { stood := { row := rootKnownUptoRow, standIns := [], harness := (true, "404e6eb30107c7d346ca793d03a4ed2f8e69f052caa51dedf6c1e210d36fbce1"), looks := false }, kinds := [], alts := [], laidByText := true, laidKinds := [.data], laidTests := true, laidLooks := .later }
def RootKnownUptoCardSaid : Prop := Claim7.holds Tryd.pinned (.plain (OpenSpec.upto rootKnownSpec)) rootKnownUptoCard
end Rows
end Go.Proofs.YtckkbcgolphajaaDoor
