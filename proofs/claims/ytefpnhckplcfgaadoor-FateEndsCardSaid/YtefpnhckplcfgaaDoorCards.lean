/-
  DERIVED. GIVEN WITH THE SEED: THE CARDS: each row of YtefpnhckplcfgaaDoorRows.lean that lists a variable, with what it lists TIED to the program's text (the seventh form; the later family's looks); each row that meets fmt, with fmt's text TOLD by the authors' own Lean function (tested against real Go, not proved from fmt's source: count such statements apart). THE CARD IS WHAT COUNTS. Prove the row's statement (the work); the ties are given (YtefpnhckplcfgaaDoorTie.lean); close each card by the builder's one call (the guide's Derived/Test/ToyasCard.lean, 'card_holds'). Laid BY PROGRAM, IN A SANDBOX (cutbox-door.mjs). By AI agents, Wed Nov 11 2026. No macro, syntax, notation, axiom, sorry.
-/
import Derived.Test.YtefpnhckplcfgaaDoorRows
import GoSem.ClaimSeven
namespace Go.Proofs.YtefpnhckplcfgaaDoor
namespace Rows

/-- THE TIED CARD OF 'foyerlaw04.FateReads'. -/
def fateReadsCard : Claim7 := { stood := { row := fateReadsRow, standIns := [], harness := (true, "ffa7e87e884504062083d09e3c6c6ba014db7506e4dfccf8f7fd323f25d1d945"), looks := false }, kinds := [], alts := [], laidByText := true, laidKinds := [.data], laidTests := true, laidLooks := .later }
def FateReadsCardSaid : Prop := Claim7.holds Tryd.pinned (.plain (OpenSpec.ofChange fateReadsSpec)) fateReadsCard

/-- THE TIED CARD OF 'foyerlaw04.FatePuts'. -/
def fatePutsCard : Claim7 := { stood := { row := fatePutsRow, standIns := [], harness := (true, "ffa7e87e884504062083d09e3c6c6ba014db7506e4dfccf8f7fd323f25d1d945"), looks := false }, kinds := [], alts := [], laidByText := true, laidKinds := [.data], laidTests := true, laidLooks := .later }
def FatePutsCardSaid : Prop := Claim7.holds Tryd.pinned (.plain (OpenSpec.ofChange fatePutsSpec)) fatePutsCard

/-- THE TIED CARD OF 'foyerlaw04.FateAfters'. -/
def fateAftersCard : Claim7 := { stood := { row := fateAftersRow, standIns := [], harness := (true, "ffa7e87e884504062083d09e3c6c6ba014db7506e4dfccf8f7fd323f25d1d945"), looks := false }, kinds := [], alts := [], laidByText := true, laidKinds := [.data], laidTests := true, laidLooks := .later }
def FateAftersCardSaid : Prop := Claim7.holds Tryd.pinned (.plain (OpenSpec.ofChange fateAftersSpec)) fateAftersCard

/-- THE TIED CARD OF 'foyerlaw04.FateBack'. -/
def fateBackCard : Claim7 := { stood := { row := fateBackRow, standIns := [], harness := (true, "ffa7e87e884504062083d09e3c6c6ba014db7506e4dfccf8f7fd323f25d1d945"), looks := false }, kinds := [], alts := [], laidByText := true, laidKinds := [.data], laidTests := true, laidLooks := .later }
def FateBackCardSaid : Prop := Claim7.holds Tryd.pinned (.plain (OpenSpec.ofChange fateBackSpec)) fateBackCard

/-- THE TIED CARD OF 'foyerlaw04.FateEach'. -/
def fateEachCard : Claim7 := { stood := { row := fateEachRow, standIns := [], harness := (true, "ffa7e87e884504062083d09e3c6c6ba014db7506e4dfccf8f7fd323f25d1d945"), looks := false }, kinds := [], alts := [], laidByText := true, laidKinds := [.data], laidTests := true, laidLooks := .later }
def FateEachCardSaid : Prop := Claim7.holds Tryd.pinned (.plain (OpenSpec.ofChange fateEachSpec)) fateEachCard

/-- THE TIED CARD OF 'foyerlaw04.FateEnds'. -/
def fateEndsCard : Claim7 := { stood := { row := fateEndsRow, standIns := [], harness := (true, "ffa7e87e884504062083d09e3c6c6ba014db7506e4dfccf8f7fd323f25d1d945"), looks := false }, kinds := [], alts := [], laidByText := true, laidKinds := [.data], laidTests := true, laidLooks := .later }
def FateEndsCardSaid : Prop := Claim7.holds Tryd.pinned (.plain (OpenSpec.ofChange fateEndsSpec)) fateEndsCard

/-- THE SECOND FORM's CARD OF 'foyerlaw04.FateReads'. -/
def fateReadsUptoCard : Claim7 := { stood := { row := fateReadsUptoRow, standIns := [], harness := (true, "ffa7e87e884504062083d09e3c6c6ba014db7506e4dfccf8f7fd323f25d1d945"), looks := false }, kinds := [], alts := [], laidByText := true, laidKinds := [.data], laidTests := true, laidLooks := .later }
def FateReadsUptoCardSaid : Prop := Claim7.holds Tryd.pinned (.plain (OpenSpec.upto fateReadsSpec)) fateReadsUptoCard

/-- THE SECOND FORM's CARD OF 'foyerlaw04.FatePuts'. -/
def fatePutsUptoCard : Claim7 := { stood := { row := fatePutsUptoRow, standIns := [], harness := (true, "ffa7e87e884504062083d09e3c6c6ba014db7506e4dfccf8f7fd323f25d1d945"), looks := false }, kinds := [], alts := [], laidByText := true, laidKinds := [.data], laidTests := true, laidLooks := .later }
def FatePutsUptoCardSaid : Prop := Claim7.holds Tryd.pinned (.plain (OpenSpec.upto fatePutsSpec)) fatePutsUptoCard

/-- THE SECOND FORM's CARD OF 'foyerlaw04.FateAfters'. -/
def fateAftersUptoCard : Claim7 := { stood := { row := fateAftersUptoRow, standIns := [], harness := (true, "ffa7e87e884504062083d09e3c6c6ba014db7506e4dfccf8f7fd323f25d1d945"), looks := false }, kinds := [], alts := [], laidByText := true, laidKinds := [.data], laidTests := true, laidLooks := .later }
def FateAftersUptoCardSaid : Prop := Claim7.holds Tryd.pinned (.plain (OpenSpec.upto fateAftersSpec)) fateAftersUptoCard

/-- THE SECOND FORM's CARD OF 'foyerlaw04.FateBack'. -/
def fateBackUptoCard : Claim7 := { stood := { row := fateBackUptoRow, standIns := [], harness := (true, "ffa7e87e884504062083d09e3c6c6ba014db7506e4dfccf8f7fd323f25d1d945"), looks := false }, kinds := [], alts := [], laidByText := true, laidKinds := [.data], laidTests := true, laidLooks := .later }
def FateBackUptoCardSaid : Prop := Claim7.holds Tryd.pinned (.plain (OpenSpec.upto fateBackSpec)) fateBackUptoCard

/-- THE SECOND FORM's CARD OF 'foyerlaw04.FateEach'. -/
def fateEachUptoCard : Claim7 := { stood := { row := fateEachUptoRow, standIns := [], harness := (true, "ffa7e87e884504062083d09e3c6c6ba014db7506e4dfccf8f7fd323f25d1d945"), looks := false }, kinds := [], alts := [], laidByText := true, laidKinds := [.data], laidTests := true, laidLooks := .later }
def FateEachUptoCardSaid : Prop := Claim7.holds Tryd.pinned (.plain (OpenSpec.upto fateEachSpec)) fateEachUptoCard

/-- THE SECOND FORM's CARD OF 'foyerlaw04.FateEnds'. -/
def fateEndsUptoCard : Claim7 := { stood := { row := fateEndsUptoRow, standIns := [], harness := (true, "ffa7e87e884504062083d09e3c6c6ba014db7506e4dfccf8f7fd323f25d1d945"), looks := false }, kinds := [], alts := [], laidByText := true, laidKinds := [.data], laidTests := true, laidLooks := .later }
def FateEndsUptoCardSaid : Prop := Claim7.holds Tryd.pinned (.plain (OpenSpec.upto fateEndsSpec)) fateEndsUptoCard
end Rows
end Go.Proofs.YtefpnhckplcfgaaDoor
