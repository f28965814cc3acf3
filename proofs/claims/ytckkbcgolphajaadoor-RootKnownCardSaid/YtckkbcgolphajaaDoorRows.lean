/-
  NARROWER THAN 'FOR EVERY INPUT', by the rows' own cells (each row's printed sentence says how): RootLays: laid · RootPicks: laid · RootBack: laid · RootTorn: laid · RootNext: laid · RootKnown: laid.
  DERIVED. THE GIVEN ROWS OF THIS SEAT. 6 by the template 'for every input the law returns true; each argument reads behind the call as it read before'; 0 by the template 'total and deterministic' (their statements: YtckkbcgolphajaaDoorTotals.lean).
  GIVEN WITH THE SEED: the statements are not yours to turn. If you find one false, say at which input.
  Laid BY PROGRAM, IN A SANDBOX (cutbox-rows.mjs): the forced cells as the released guide's own fill.sh prints them over the translation d92c2215d2020060… (all of the seat's roots in one cut). By AI agents, Wed Nov 11 2026. No macro, syntax, notation, axiom, sorry.
-/
import Derived.Test.YtckkbcgolphajaaDoorChecked
import GoSem.Claim
import GoSem.ClaimJoined
import GoSem.ClaimMapViews
import Derived.JoinedTies
import Derived.KernelRfl
namespace Go.Proofs.YtckkbcgolphajaaDoor
/- THE CELL 'sum', in the pinned program and in every row, IS THE sha256 OF THE DUMP (.gsa) THAT YtckkbcgolphajaaDoorProg.lean LOADS. Nothing in Lean hashes anything: it is a label: what it is worth is what the hold of that sum in a sandbox is worth. -/
noncomputable def Tryd.pinned : Pinned := { name := "ytckkbcgolphajaadoor", sum := "d92c2215d20200606e0e194f58b5b80aa414629b2232a613dbb96bb90ff20600", checked := Tryd.checked }
namespace Rows
def none {H : Type} : Left H := { results := [], args := [] }

/- WHAT THE LISTED PACKAGE-LEVEL VARIABLES READ AS WHEN THE CALL BEGINS. Each datum BY PROGRAM (the guide's laid-datum.mjs) off the statement by which the dump's own 'gosem.cut.vars' lays the variable. In a bare row this is a premise. The card (YtckkbcgolphajaaDoorCards.lean) ties it to the program's text. -/
def laid_foyer_root_places {H : Type} : DataW H := .agg [.agg [.lit (.int .i64 0), .lit (.int .i64 8)], .agg [.lit (.int .i64 8), .lit (.int .i64 2)], .agg [.lit (.int .i64 10), .lit (.int .i64 2)], .agg [.lit (.int .i64 248), .lit (.int .i64 8)]]

/-- 'foyerlaw08.RootLays': WHATEVER THE INPUT: true; the input reads as it did. -/
def rootLaysSpec : ChangeSpec := { name := "rootLays", fn := fun _ => fun
  | [d1, d2, d3] => { results := [.lit (.bool true)], args := [d1, d2, d3] }
  | _ => none }
def rootLaysRow : OpenClaim := { program := "ytckkbcgolphajaadoor", sum := "d92c2215d20200606e0e194f58b5b80aa414629b2232a613dbb96bb90ff20600", func := "foyer/foyerlaw08.RootLays", spec := "rootLays", unfollowed := true, recurses := true, named := ["foyer/root.places"], apart := false, laid := [("foyer/root.places", laid_foyer_root_places)] }
def RootLaysSaid : Prop := rootLaysRow.holds Tryd.pinned (OpenSpec.ofChange rootLaysSpec)

/-- ITS FALSE NEIGHBOUR: 'it returns false'. Refute it at one input. -/
def rootLaysWrong : ChangeSpec := { name := "rootLays", fn := fun _ => fun
  | [d1, d2, d3] => { results := [.lit (.bool false)], args := [d1, d2, d3] }
  | _ => none }
def RootLaysWrongFalsely : Prop := rootLaysRow.holds Tryd.pinned (OpenSpec.ofChange rootLaysWrong)

/-- 'foyerlaw08.RootPicks': WHATEVER THE INPUT: true; the input reads as it did. -/
def rootPicksSpec : ChangeSpec := { name := "rootPicks", fn := fun _ => fun
  | [d1, d2, d3] => { results := [.lit (.bool true)], args := [d1, d2, d3] }
  | _ => none }
def rootPicksRow : OpenClaim := { program := "ytckkbcgolphajaadoor", sum := "d92c2215d20200606e0e194f58b5b80aa414629b2232a613dbb96bb90ff20600", func := "foyer/foyerlaw08.RootPicks", spec := "rootPicks", unfollowed := true, recurses := true, named := ["foyer/root.places"], apart := false, laid := [("foyer/root.places", laid_foyer_root_places)] }
def RootPicksSaid : Prop := rootPicksRow.holds Tryd.pinned (OpenSpec.ofChange rootPicksSpec)

/-- ITS FALSE NEIGHBOUR: 'it returns false'. Refute it at one input. -/
def rootPicksWrong : ChangeSpec := { name := "rootPicks", fn := fun _ => fun
  | [d1, d2, d3] => { results := [.lit (.bool false)], args := [d1, d2, d3] }
  | _ => none }
def RootPicksWrongFalsely : Prop := rootPicksRow.holds Tryd.pinned (OpenSpec.ofChange rootPicksWrong)

/-- 'foyerlaw08.RootBack': WHATEVER THE INPUT: true; the input reads as it did. -/
def rootBackSpec : ChangeSpec := { name := "rootBack", fn := fun _ => fun
  | [d1, d2] => { results := [.lit (.bool true)], args := [d1, d2] }
  | _ => none }
def rootBackRow : OpenClaim := { program := "ytckkbcgolphajaadoor", sum := "d92c2215d20200606e0e194f58b5b80aa414629b2232a613dbb96bb90ff20600", func := "foyer/foyerlaw08.RootBack", spec := "rootBack", unfollowed := true, recurses := true, named := ["foyer/root.places"], apart := false, laid := [("foyer/root.places", laid_foyer_root_places)] }
def RootBackSaid : Prop := rootBackRow.holds Tryd.pinned (OpenSpec.ofChange rootBackSpec)

/-- ITS FALSE NEIGHBOUR: 'it returns false'. Refute it at one input. -/
def rootBackWrong : ChangeSpec := { name := "rootBack", fn := fun _ => fun
  | [d1, d2] => { results := [.lit (.bool false)], args := [d1, d2] }
  | _ => none }
def RootBackWrongFalsely : Prop := rootBackRow.holds Tryd.pinned (OpenSpec.ofChange rootBackWrong)

/-- 'foyerlaw08.RootTorn': WHATEVER THE INPUT: true; the input reads as it did. -/
def rootTornSpec : ChangeSpec := { name := "rootTorn", fn := fun _ => fun
  | [d1, d2, d3] => { results := [.lit (.bool true)], args := [d1, d2, d3] }
  | _ => none }
def rootTornRow : OpenClaim := { program := "ytckkbcgolphajaadoor", sum := "d92c2215d20200606e0e194f58b5b80aa414629b2232a613dbb96bb90ff20600", func := "foyer/foyerlaw08.RootTorn", spec := "rootTorn", unfollowed := true, recurses := true, named := ["foyer/root.places"], apart := false, laid := [("foyer/root.places", laid_foyer_root_places)] }
def RootTornSaid : Prop := rootTornRow.holds Tryd.pinned (OpenSpec.ofChange rootTornSpec)

/-- ITS FALSE NEIGHBOUR: 'it returns false'. Refute it at one input. -/
def rootTornWrong : ChangeSpec := { name := "rootTorn", fn := fun _ => fun
  | [d1, d2, d3] => { results := [.lit (.bool false)], args := [d1, d2, d3] }
  | _ => none }
def RootTornWrongFalsely : Prop := rootTornRow.holds Tryd.pinned (OpenSpec.ofChange rootTornWrong)

/-- 'foyerlaw08.RootNext': WHATEVER THE INPUT: true; the input reads as it did. -/
def rootNextSpec : ChangeSpec := { name := "rootNext", fn := fun _ => fun
  | [d1, d2, d3] => { results := [.lit (.bool true)], args := [d1, d2, d3] }
  | _ => none }
def rootNextRow : OpenClaim := { program := "ytckkbcgolphajaadoor", sum := "d92c2215d20200606e0e194f58b5b80aa414629b2232a613dbb96bb90ff20600", func := "foyer/foyerlaw08.RootNext", spec := "rootNext", unfollowed := true, recurses := true, named := ["foyer/root.places"], apart := false, laid := [("foyer/root.places", laid_foyer_root_places)] }
def RootNextSaid : Prop := rootNextRow.holds Tryd.pinned (OpenSpec.ofChange rootNextSpec)

/-- ITS FALSE NEIGHBOUR: 'it returns false'. Refute it at one input. -/
def rootNextWrong : ChangeSpec := { name := "rootNext", fn := fun _ => fun
  | [d1, d2, d3] => { results := [.lit (.bool false)], args := [d1, d2, d3] }
  | _ => none }
def RootNextWrongFalsely : Prop := rootNextRow.holds Tryd.pinned (OpenSpec.ofChange rootNextWrong)

/-- 'foyerlaw08.RootKnown': WHATEVER THE INPUT: true; the input reads as it did. -/
def rootKnownSpec : ChangeSpec := { name := "rootKnown", fn := fun _ => fun
  | [] => { results := [.lit (.bool true)], args := [] }
  | _ => none }
def rootKnownRow : OpenClaim := { program := "ytckkbcgolphajaadoor", sum := "d92c2215d20200606e0e194f58b5b80aa414629b2232a613dbb96bb90ff20600", func := "foyer/foyerlaw08.RootKnown", spec := "rootKnown", unfollowed := true, recurses := true, named := ["foyer/root.places"], apart := false, laid := [("foyer/root.places", laid_foyer_root_places)] }
def RootKnownSaid : Prop := rootKnownRow.holds Tryd.pinned (OpenSpec.ofChange rootKnownSpec)

/-- ITS FALSE NEIGHBOUR: 'it returns false'. Refute it at one input. -/
def rootKnownWrong : ChangeSpec := { name := "rootKnown", fn := fun _ => fun
  | [] => { results := [.lit (.bool false)], args := [] }
  | _ => none }
def RootKnownWrongFalsely : Prop := rootKnownRow.holds Tryd.pinned (OpenSpec.ofChange rootKnownWrong)

/- THE SECOND FORM. 'bulk': how many values and letters a reading holds, each counted each time it is reached (what is shared counts as often as it is met; a slice's spare places count too). A statement '..UptoSaid' is the law's where the arguments, and the package variables that the reading takes, are together of bulk at most 1048576: NARROWER than '..Said'. Prove '..Said' where nothing that the law and all that it calls make is longer than what came in: it says more and counts as full. Else prove '..UptoSaid'. A law counts once. -/
mutual
def uptoBulk {H : Type} : DataW H → Nat
  | .lit (.string bytes) => bytes.length + 1
  | .lit _ => 1
  | .nil => 1
  | .ptr d => uptoBulk d + 1
  | .slice elems spare => uptoBulkAll elems + uptoBulkAll spare + 1
  | .agg parts => uptoBulkAll parts + 1
  | .iface _ d => uptoBulk d + 1
  | .map entries => uptoBulkEntries entries + 1
  | .held _ => 1
def uptoBulkAll {H : Type} : List (DataW H) → Nat
  | [] => 0
  | d :: r => uptoBulk d + uptoBulkAll r
def uptoBulkEntries {H : Type} : List (Lit × DataW H) → Nat
  | [] => 0
  | x :: r => uptoBulkEntry x + uptoBulkEntries r
def uptoBulkEntry {H : Type} : Lit × DataW H → Nat
  | (.string bytes, d) => bytes.length + uptoBulk d + 1
  | (_, d) => uptoBulk d + 1
 end
def uptoSmall : (H : Type) → List (DataW H) → Bool := fun _ ds => decide (uptoBulkAll ds ≤ 1048576)
def OpenSpec.upto (s : _root_.Go.ChangeSpec) : _root_.Go.OpenSpec := { _root_.Go.OpenSpec.ofChange s with cond := some uptoSmall }

/-- 'foyerlaw08.RootLays', WHERE WHAT IT READS IS OF BULK AT MOST 1048576: true; the input reads as it did. -/
def rootLaysUptoRow : OpenClaim := { program := "ytckkbcgolphajaadoor", sum := "d92c2215d20200606e0e194f58b5b80aa414629b2232a613dbb96bb90ff20600", func := "foyer/foyerlaw08.RootLays", spec := "rootLays", unfollowed := true, recurses := true, named := ["foyer/root.places"], apart := false, laid := [("foyer/root.places", laid_foyer_root_places)], narrowed := true }
def RootLaysUptoSaid : Prop := rootLaysUptoRow.holds Tryd.pinned (OpenSpec.upto rootLaysSpec)

/-- 'foyerlaw08.RootPicks', WHERE WHAT IT READS IS OF BULK AT MOST 1048576: true; the input reads as it did. -/
def rootPicksUptoRow : OpenClaim := { program := "ytckkbcgolphajaadoor", sum := "d92c2215d20200606e0e194f58b5b80aa414629b2232a613dbb96bb90ff20600", func := "foyer/foyerlaw08.RootPicks", spec := "rootPicks", unfollowed := true, recurses := true, named := ["foyer/root.places"], apart := false, laid := [("foyer/root.places", laid_foyer_root_places)], narrowed := true }
def RootPicksUptoSaid : Prop := rootPicksUptoRow.holds Tryd.pinned (OpenSpec.upto rootPicksSpec)

/-- 'foyerlaw08.RootBack', WHERE WHAT IT READS IS OF BULK AT MOST 1048576: true; the input reads as it did. -/
def rootBackUptoRow : OpenClaim := { program := "ytckkbcgolphajaadoor", sum := "d92c2215d20200606e0e194f58b5b80aa414629b2232a613dbb96bb90ff20600", func := "foyer/foyerlaw08.RootBack", spec := "rootBack", unfollowed := true, recurses := true, named := ["foyer/root.places"], apart := false, laid := [("foyer/root.places", laid_foyer_root_places)], narrowed := true }
def RootBackUptoSaid : Prop := rootBackUptoRow.holds Tryd.pinned (OpenSpec.upto rootBackSpec)

/-- 'foyerlaw08.RootTorn', WHERE WHAT IT READS IS OF BULK AT MOST 1048576: true; the input reads as it did. -/
def rootTornUptoRow : OpenClaim := { program := "ytckkbcgolphajaadoor", sum := "d92c2215d20200606e0e194f58b5b80aa414629b2232a613dbb96bb90ff20600", func := "foyer/foyerlaw08.RootTorn", spec := "rootTorn", unfollowed := true, recurses := true, named := ["foyer/root.places"], apart := false, laid := [("foyer/root.places", laid_foyer_root_places)], narrowed := true }
def RootTornUptoSaid : Prop := rootTornUptoRow.holds Tryd.pinned (OpenSpec.upto rootTornSpec)

/-- 'foyerlaw08.RootNext', WHERE WHAT IT READS IS OF BULK AT MOST 1048576: true; the input reads as it did. -/
def rootNextUptoRow : OpenClaim := { program := "ytckkbcgolphajaadoor", sum := "d92c2215d20200606e0e194f58b5b80aa414629b2232a613dbb96bb90ff20600", func := "foyer/foyerlaw08.RootNext", spec := "rootNext", unfollowed := true, recurses := true, named := ["foyer/root.places"], apart := false, laid := [("foyer/root.places", laid_foyer_root_places)], narrowed := true }
def RootNextUptoSaid : Prop := rootNextUptoRow.holds Tryd.pinned (OpenSpec.upto rootNextSpec)

/-- 'foyerlaw08.RootKnown', WHERE WHAT IT READS IS OF BULK AT MOST 1048576: true; the input reads as it did. -/
def rootKnownUptoRow : OpenClaim := { program := "ytckkbcgolphajaadoor", sum := "d92c2215d20200606e0e194f58b5b80aa414629b2232a613dbb96bb90ff20600", func := "foyer/foyerlaw08.RootKnown", spec := "rootKnown", unfollowed := true, recurses := true, named := ["foyer/root.places"], apart := false, laid := [("foyer/root.places", laid_foyer_root_places)], narrowed := true }
def RootKnownUptoSaid : Prop := rootKnownUptoRow.holds Tryd.pinned (OpenSpec.upto rootKnownSpec)

end Rows
end Go.Proofs.YtckkbcgolphajaaDoor
