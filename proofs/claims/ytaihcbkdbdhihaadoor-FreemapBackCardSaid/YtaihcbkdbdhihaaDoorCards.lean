/-
  DERIVED. GIVEN WITH THE SEED: THE CARDS: each row of YtaihcbkdbdhihaaDoorRows.lean that lists a variable, with what it lists TIED to the program's text (the seventh form; the later family's looks); each row that meets fmt, with fmt's text TOLD by the authors' own Lean function (tested against real Go, not proved from fmt's source: count such statements apart). THE CARD IS WHAT COUNTS. Prove the row's statement (the work); the ties are given (YtaihcbkdbdhihaaDoorTie.lean); close each card by the builder's one call (the guide's Derived/Test/ToyasCard.lean, 'card_holds'). Laid BY PROGRAM, IN A SANDBOX (cutbox-door.mjs). By AI agents, Wed Nov 11 2026. No macro, syntax, notation, axiom, sorry.
-/
import Derived.Test.YtaihcbkdbdhihaaDoorRows
import GoSem.ClaimSeven
namespace Go.Proofs.YtaihcbkdbdhihaaDoor
namespace Rows

/-- THE TIED CARD OF 'foyerlaw06.FreemapPlays'. -/
def freemapPlaysCard : Claim7 := { stood := { row := freemapPlaysRow, standIns := [], harness := (true, "dff3953a7fe1513234e5bc14e0f7b4a8ef48de55e8fa2b887a9543311a50ba57"), looks := false }, kinds := [], alts := [], laidByText := true, laidKinds := [.data], laidTests := true, laidLooks := .later }
def FreemapPlaysCardSaid : Prop := Claim7.holds Tryd.pinned (.plain (OpenSpec.ofChange freemapPlaysSpec)) freemapPlaysCard

/-- THE TIED CARD OF 'foyerlaw06.FreemapReads'. -/
def freemapReadsCard : Claim7 := { stood := { row := freemapReadsRow, standIns := [], harness := (true, "dff3953a7fe1513234e5bc14e0f7b4a8ef48de55e8fa2b887a9543311a50ba57"), looks := false }, kinds := [], alts := [], laidByText := true, laidKinds := [.data], laidTests := true, laidLooks := .later }
def FreemapReadsCardSaid : Prop := Claim7.holds Tryd.pinned (.plain (OpenSpec.ofChange freemapReadsSpec)) freemapReadsCard

/-- THE TIED CARD OF 'foyerlaw06.FreemapLowest'. -/
def freemapLowestCard : Claim7 := { stood := { row := freemapLowestRow, standIns := [], harness := (true, "dff3953a7fe1513234e5bc14e0f7b4a8ef48de55e8fa2b887a9543311a50ba57"), looks := false }, kinds := [], alts := [], laidByText := true, laidKinds := [.data], laidTests := true, laidLooks := .later }
def FreemapLowestCardSaid : Prop := Claim7.holds Tryd.pinned (.plain (OpenSpec.ofChange freemapLowestSpec)) freemapLowestCard

/-- THE TIED CARD OF 'foyerlaw06.FreemapBack'. -/
def freemapBackCard : Claim7 := { stood := { row := freemapBackRow, standIns := [], harness := (true, "dff3953a7fe1513234e5bc14e0f7b4a8ef48de55e8fa2b887a9543311a50ba57"), looks := false }, kinds := [], alts := [], laidByText := true, laidKinds := [.data], laidTests := true, laidLooks := .later }
def FreemapBackCardSaid : Prop := Claim7.holds Tryd.pinned (.plain (OpenSpec.ofChange freemapBackSpec)) freemapBackCard

/-- THE TIED CARD OF 'foyerlaw06.FreemapKnown'. -/
def freemapKnownCard : Claim7 := { stood := { row := freemapKnownRow, standIns := [], harness := (true, "dff3953a7fe1513234e5bc14e0f7b4a8ef48de55e8fa2b887a9543311a50ba57"), looks := false }, kinds := [], alts := [], laidByText := true, laidKinds := [.data], laidTests := true, laidLooks := .later }
def FreemapKnownCardSaid : Prop := Claim7.holds Tryd.pinned (.plain (OpenSpec.ofChange freemapKnownSpec)) freemapKnownCard

/-- THE SECOND FORM's CARD OF 'foyerlaw06.FreemapPlays'. -/
def freemapPlaysUptoCard : Claim7 := { stood := { row := freemapPlaysUptoRow, standIns := [], harness := (true, "dff3953a7fe1513234e5bc14e0f7b4a8ef48de55e8fa2b887a9543311a50ba57"), looks := false }, kinds := [], alts := [], laidByText := true, laidKinds := [.data], laidTests := true, laidLooks := .later }
def FreemapPlaysUptoCardSaid : Prop := Claim7.holds Tryd.pinned (.plain (OpenSpec.upto freemapPlaysSpec)) freemapPlaysUptoCard

/-- THE SECOND FORM's CARD OF 'foyerlaw06.FreemapReads'. -/
def freemapReadsUptoCard : Claim7 := { stood := { row := freemapReadsUptoRow, standIns := [], harness := (true, "dff3953a7fe1513234e5bc14e0f7b4a8ef48de55e8fa2b887a9543311a50ba57"), looks := false }, kinds := [], alts := [], laidByText := true, laidKinds := [.data], laidTests := true, laidLooks := .later }
def FreemapReadsUptoCardSaid : Prop := Claim7.holds Tryd.pinned (.plain (OpenSpec.upto freemapReadsSpec)) freemapReadsUptoCard

/-- THE SECOND FORM's CARD OF 'foyerlaw06.FreemapLowest'. -/
def freemapLowestUptoCard : Claim7 := { stood := { row := freemapLowestUptoRow, standIns := [], harness := (true, "dff3953a7fe1513234e5bc14e0f7b4a8ef48de55e8fa2b887a9543311a50ba57"), looks := false }, kinds := [], alts := [], laidByText := true, laidKinds := [.data], laidTests := true, laidLooks := .later }
def FreemapLowestUptoCardSaid : Prop := Claim7.holds Tryd.pinned (.plain (OpenSpec.upto freemapLowestSpec)) freemapLowestUptoCard

/-- THE SECOND FORM's CARD OF 'foyerlaw06.FreemapBack'. -/
def freemapBackUptoCard : Claim7 := { stood := { row := freemapBackUptoRow, standIns := [], harness := (true, "dff3953a7fe1513234e5bc14e0f7b4a8ef48de55e8fa2b887a9543311a50ba57"), looks := false }, kinds := [], alts := [], laidByText := true, laidKinds := [.data], laidTests := true, laidLooks := .later }
def FreemapBackUptoCardSaid : Prop := Claim7.holds Tryd.pinned (.plain (OpenSpec.upto freemapBackSpec)) freemapBackUptoCard

/-- THE SECOND FORM's CARD OF 'foyerlaw06.FreemapKnown'. -/
def freemapKnownUptoCard : Claim7 := { stood := { row := freemapKnownUptoRow, standIns := [], harness := (true, "dff3953a7fe1513234e5bc14e0f7b4a8ef48de55e8fa2b887a9543311a50ba57"), looks := false }, kinds := [], alts := [], laidByText := true, laidKinds := [.data], laidTests := true, laidLooks := .later }
def FreemapKnownUptoCardSaid : Prop := Claim7.holds Tryd.pinned (.plain (OpenSpec.upto freemapKnownSpec)) freemapKnownUptoCard
end Rows
end Go.Proofs.YtaihcbkdbdhihaaDoor
