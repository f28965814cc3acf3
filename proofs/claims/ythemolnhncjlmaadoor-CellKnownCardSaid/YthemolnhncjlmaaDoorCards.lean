/-
  DERIVED. GIVEN WITH THE SEED: THE CARDS: each row of YthemolnhncjlmaaDoorRows.lean that lists a variable, with what it lists TIED to the program's text (the seventh form; the later family's looks); each row that meets fmt, with fmt's text TOLD by the authors' own Lean function (tested against real Go, not proved from fmt's source: count such statements apart). THE CARD IS WHAT COUNTS. Prove the row's statement (the work); the ties are given (YthemolnhncjlmaaDoorTie.lean); close each card by the builder's one call (the guide's Derived/Test/ToyasCard.lean, 'card_holds'). Laid BY PROGRAM, IN A SANDBOX (cutbox-door.mjs). By AI agents, Wed Nov 11 2026. No macro, syntax, notation, axiom, sorry.
-/
import Derived.Test.YthemolnhncjlmaaDoorRows
import GoSem.ClaimSeven
namespace Go.Proofs.YthemolnhncjlmaaDoor
namespace Rows

/-- THE TIED CARD OF 'foyerlaw07.CellSeals'. -/
def cellSealsCard : Claim7 := { stood := { row := cellSealsRow, standIns := [], harness := (true, "27859300ff4965ba35a1179e86e8d823e83aebb2a9d46a20f630b7d1065aba94"), looks := true }, kinds := [], alts := [], laidByText := true, laidKinds := [.handle], laidTests := true, laidLooks := .later }
def CellSealsCardSaid : Prop := Claim7.holds Tryd.pinned (.plain (OpenSpec.ofChange cellSealsSpec)) cellSealsCard

/-- THE TIED CARD OF 'foyerlaw07.CellOpens'. -/
def cellOpensCard : Claim7 := { stood := { row := cellOpensRow, standIns := [], harness := (true, "27859300ff4965ba35a1179e86e8d823e83aebb2a9d46a20f630b7d1065aba94"), looks := true }, kinds := [], alts := [], laidByText := true, laidKinds := [.handle], laidTests := true, laidLooks := .later }
def CellOpensCardSaid : Prop := Claim7.holds Tryd.pinned (.plain (OpenSpec.ofChange cellOpensSpec)) cellOpensCard

/-- THE TIED CARD OF 'foyerlaw07.CellBack'. -/
def cellBackCard : Claim7 := { stood := { row := cellBackRow, standIns := [], harness := (true, "27859300ff4965ba35a1179e86e8d823e83aebb2a9d46a20f630b7d1065aba94"), looks := true }, kinds := [], alts := [], laidByText := true, laidKinds := [.handle], laidTests := true, laidLooks := .later }
def CellBackCardSaid : Prop := Claim7.holds Tryd.pinned (.plain (OpenSpec.ofChange cellBackSpec)) cellBackCard

/-- THE TIED CARD OF 'foyerlaw07.CellKnown'. -/
def cellKnownCard : Claim7 := { stood := { row := cellKnownRow, standIns := [], harness := (true, "27859300ff4965ba35a1179e86e8d823e83aebb2a9d46a20f630b7d1065aba94"), looks := true }, kinds := [], alts := [], laidByText := true, laidKinds := [.handle], laidTests := true, laidLooks := .later }
def CellKnownCardSaid : Prop := Claim7.holds Tryd.pinned (.plain (OpenSpec.ofChange cellKnownSpec)) cellKnownCard

/-- THE SECOND FORM's CARD OF 'foyerlaw07.CellSeals'. -/
def cellSealsUptoCard : Claim7 := { stood := { row := cellSealsUptoRow, standIns := [], harness := (true, "27859300ff4965ba35a1179e86e8d823e83aebb2a9d46a20f630b7d1065aba94"), looks := true }, kinds := [], alts := [], laidByText := true, laidKinds := [.handle], laidTests := true, laidLooks := .later }
def CellSealsUptoCardSaid : Prop := Claim7.holds Tryd.pinned (.plain (OpenSpec.upto cellSealsSpec)) cellSealsUptoCard

/-- THE SECOND FORM's CARD OF 'foyerlaw07.CellOpens'. -/
def cellOpensUptoCard : Claim7 := { stood := { row := cellOpensUptoRow, standIns := [], harness := (true, "27859300ff4965ba35a1179e86e8d823e83aebb2a9d46a20f630b7d1065aba94"), looks := true }, kinds := [], alts := [], laidByText := true, laidKinds := [.handle], laidTests := true, laidLooks := .later }
def CellOpensUptoCardSaid : Prop := Claim7.holds Tryd.pinned (.plain (OpenSpec.upto cellOpensSpec)) cellOpensUptoCard

/-- THE SECOND FORM's CARD OF 'foyerlaw07.CellBack'. -/
def cellBackUptoCard : Claim7 := { stood := { row := cellBackUptoRow, standIns := [], harness := (true, "27859300ff4965ba35a1179e86e8d823e83aebb2a9d46a20f630b7d1065aba94"), looks := true }, kinds := [], alts := [], laidByText := true, laidKinds := [.handle], laidTests := true, laidLooks := .later }
def CellBackUptoCardSaid : Prop := Claim7.holds Tryd.pinned (.plain (OpenSpec.upto cellBackSpec)) cellBackUptoCard

/-- THE SECOND FORM's CARD OF 'foyerlaw07.CellKnown'. -/
def cellKnownUptoCard : Claim7 := { stood := { row := cellKnownUptoRow, standIns := [], harness := (true, "27859300ff4965ba35a1179e86e8d823e83aebb2a9d46a20f630b7d1065aba94"), looks := true }, kinds := [], alts := [], laidByText := true, laidKinds := [.handle], laidTests := true, laidLooks := .later }
def CellKnownUptoCardSaid : Prop := Claim7.holds Tryd.pinned (.plain (OpenSpec.upto cellKnownSpec)) cellKnownUptoCard
end Rows
end Go.Proofs.YthemolnhncjlmaaDoor
