/-
  NARROWER THAN 'FOR EVERY INPUT', by the rows' own cells (each row's printed sentence says how): FateReads: laid · FatePuts: laid · FateAfters: laid · FateBack: laid · FateEach: laid · FateEnds: laid.
  DERIVED. THE GIVEN ROWS OF THIS SEAT. 6 by the template 'for every input the law returns true; each argument reads behind the call as it read before'; 0 by the template 'total and deterministic' (their statements: YtefpnhckplcfgaaDoorTotals.lean).
  GIVEN WITH THE SEED: the statements are not yours to turn. If you find one false, say at which input.
  Laid BY PROGRAM, IN A SANDBOX (cutbox-rows.mjs): the forced cells as the released guide's own fill.sh prints them over the translation ebab009379b7f9f6… (all of the seat's roots in one cut). By AI agents, Wed Nov 11 2026. No macro, syntax, notation, axiom, sorry.
-/
import Derived.Test.YtefpnhckplcfgaaDoorChecked
import GoSem.Claim
import GoSem.ClaimJoined
import GoSem.ClaimMapViews
import Derived.JoinedTies
import Derived.KernelRfl
namespace Go.Proofs.YtefpnhckplcfgaaDoor
/- THE CELL 'sum', in the pinned program and in every row, IS THE sha256 OF THE DUMP (.gsa) THAT YtefpnhckplcfgaaDoorProg.lean LOADS. Nothing in Lean hashes anything: it is a label: what it is worth is what the hold of that sum in a sandbox is worth. -/
noncomputable def Tryd.pinned : Pinned := { name := "ytefpnhckplcfgaadoor", sum := "ebab009379b7f9f6b26c9ac0f9160463aec80ad8c0c3529c8d850262f0927078", checked := Tryd.checked }
namespace Rows
def none {H : Type} : Left H := { results := [], args := [] }

/- WHAT THE LISTED PACKAGE-LEVEL VARIABLES READ AS WHEN THE CALL BEGINS. Each datum BY PROGRAM (the guide's laid-datum.mjs) off the statement by which the dump's own 'gosem.cut.vars' lays the variable. In a bare row this is a premise. The card (YtefpnhckplcfgaaDoorCards.lean) ties it to the program's text. -/
def laid_foyer_fate_masks {H : Type} : DataW H := .agg [.lit (.int .u8 1), .lit (.int .u8 2), .lit (.int .u8 4), .lit (.int .u8 8), .lit (.int .u8 16), .lit (.int .u8 32), .lit (.int .u8 64), .lit (.int .u8 128)]

/-- 'foyerlaw04.FateReads': WHATEVER THE INPUT: true; the input reads as it did. -/
def fateReadsSpec : ChangeSpec := { name := "fateReads", fn := fun _ => fun
  | [d1, d2] => { results := [.lit (.bool true)], args := [d1, d2] }
  | _ => none }
def fateReadsRow : OpenClaim := { program := "ytefpnhckplcfgaadoor", sum := "ebab009379b7f9f6b26c9ac0f9160463aec80ad8c0c3529c8d850262f0927078", func := "foyer/foyerlaw04.FateReads", spec := "fateReads", unfollowed := true, recurses := true, named := ["foyer/fate.masks"], apart := false, laid := [("foyer/fate.masks", laid_foyer_fate_masks)] }
def FateReadsSaid : Prop := fateReadsRow.holds Tryd.pinned (OpenSpec.ofChange fateReadsSpec)

/-- ITS FALSE NEIGHBOUR: 'it returns false'. Refute it at one input. -/
def fateReadsWrong : ChangeSpec := { name := "fateReads", fn := fun _ => fun
  | [d1, d2] => { results := [.lit (.bool false)], args := [d1, d2] }
  | _ => none }
def FateReadsWrongFalsely : Prop := fateReadsRow.holds Tryd.pinned (OpenSpec.ofChange fateReadsWrong)

/-- 'foyerlaw04.FatePuts': WHATEVER THE INPUT: true; the input reads as it did. -/
def fatePutsSpec : ChangeSpec := { name := "fatePuts", fn := fun _ => fun
  | [d1, d2, d3] => { results := [.lit (.bool true)], args := [d1, d2, d3] }
  | _ => none }
def fatePutsRow : OpenClaim := { program := "ytefpnhckplcfgaadoor", sum := "ebab009379b7f9f6b26c9ac0f9160463aec80ad8c0c3529c8d850262f0927078", func := "foyer/foyerlaw04.FatePuts", spec := "fatePuts", unfollowed := true, recurses := true, named := ["foyer/fate.masks"], apart := false, laid := [("foyer/fate.masks", laid_foyer_fate_masks)] }
def FatePutsSaid : Prop := fatePutsRow.holds Tryd.pinned (OpenSpec.ofChange fatePutsSpec)

/-- ITS FALSE NEIGHBOUR: 'it returns false'. Refute it at one input. -/
def fatePutsWrong : ChangeSpec := { name := "fatePuts", fn := fun _ => fun
  | [d1, d2, d3] => { results := [.lit (.bool false)], args := [d1, d2, d3] }
  | _ => none }
def FatePutsWrongFalsely : Prop := fatePutsRow.holds Tryd.pinned (OpenSpec.ofChange fatePutsWrong)

/-- 'foyerlaw04.FateAfters': WHATEVER THE INPUT: true; the input reads as it did. -/
def fateAftersSpec : ChangeSpec := { name := "fateAfters", fn := fun _ => fun
  | [d1, d2, d3] => { results := [.lit (.bool true)], args := [d1, d2, d3] }
  | _ => none }
def fateAftersRow : OpenClaim := { program := "ytefpnhckplcfgaadoor", sum := "ebab009379b7f9f6b26c9ac0f9160463aec80ad8c0c3529c8d850262f0927078", func := "foyer/foyerlaw04.FateAfters", spec := "fateAfters", unfollowed := true, recurses := true, named := ["foyer/fate.masks"], apart := false, laid := [("foyer/fate.masks", laid_foyer_fate_masks)] }
def FateAftersSaid : Prop := fateAftersRow.holds Tryd.pinned (OpenSpec.ofChange fateAftersSpec)

/-- ITS FALSE NEIGHBOUR: 'it returns false'. Refute it at one input. -/
def fateAftersWrong : ChangeSpec := { name := "fateAfters", fn := fun _ => fun
  | [d1, d2, d3] => { results := [.lit (.bool false)], args := [d1, d2, d3] }
  | _ => none }
def FateAftersWrongFalsely : Prop := fateAftersRow.holds Tryd.pinned (OpenSpec.ofChange fateAftersWrong)

/-- 'foyerlaw04.FateBack': WHATEVER THE INPUT: true; the input reads as it did. -/
def fateBackSpec : ChangeSpec := { name := "fateBack", fn := fun _ => fun
  | [d1, d2] => { results := [.lit (.bool true)], args := [d1, d2] }
  | _ => none }
def fateBackRow : OpenClaim := { program := "ytefpnhckplcfgaadoor", sum := "ebab009379b7f9f6b26c9ac0f9160463aec80ad8c0c3529c8d850262f0927078", func := "foyer/foyerlaw04.FateBack", spec := "fateBack", unfollowed := true, recurses := true, named := ["foyer/fate.masks"], apart := false, laid := [("foyer/fate.masks", laid_foyer_fate_masks)] }
def FateBackSaid : Prop := fateBackRow.holds Tryd.pinned (OpenSpec.ofChange fateBackSpec)

/-- ITS FALSE NEIGHBOUR: 'it returns false'. Refute it at one input. -/
def fateBackWrong : ChangeSpec := { name := "fateBack", fn := fun _ => fun
  | [d1, d2] => { results := [.lit (.bool false)], args := [d1, d2] }
  | _ => none }
def FateBackWrongFalsely : Prop := fateBackRow.holds Tryd.pinned (OpenSpec.ofChange fateBackWrong)

/-- 'foyerlaw04.FateEach': WHATEVER THE INPUT: true; the input reads as it did. -/
def fateEachSpec : ChangeSpec := { name := "fateEach", fn := fun _ => fun
  | [d1, d2, d3] => { results := [.lit (.bool true)], args := [d1, d2, d3] }
  | _ => none }
def fateEachRow : OpenClaim := { program := "ytefpnhckplcfgaadoor", sum := "ebab009379b7f9f6b26c9ac0f9160463aec80ad8c0c3529c8d850262f0927078", func := "foyer/foyerlaw04.FateEach", spec := "fateEach", unfollowed := true, recurses := true, named := ["foyer/fate.masks"], apart := false, laid := [("foyer/fate.masks", laid_foyer_fate_masks)] }
def FateEachSaid : Prop := fateEachRow.holds Tryd.pinned (OpenSpec.ofChange fateEachSpec)

/-- ITS FALSE NEIGHBOUR: 'it returns false'. Refute it at one input. -/
def fateEachWrong : ChangeSpec := { name := "fateEach", fn := fun _ => fun
  | [d1, d2, d3] => { results := [.lit (.bool false)], args := [d1, d2, d3] }
  | _ => none }
def FateEachWrongFalsely : Prop := fateEachRow.holds Tryd.pinned (OpenSpec.ofChange fateEachWrong)

/-- 'foyerlaw04.FateEnds': WHATEVER THE INPUT: true; the input reads as it did. -/
def fateEndsSpec : ChangeSpec := { name := "fateEnds", fn := fun _ => fun
  | [d1, d2, d3] => { results := [.lit (.bool true)], args := [d1, d2, d3] }
  | _ => none }
def fateEndsRow : OpenClaim := { program := "ytefpnhckplcfgaadoor", sum := "ebab009379b7f9f6b26c9ac0f9160463aec80ad8c0c3529c8d850262f0927078", func := "foyer/foyerlaw04.FateEnds", spec := "fateEnds", unfollowed := true, recurses := true, named := ["foyer/fate.masks"], apart := false, laid := [("foyer/fate.masks", laid_foyer_fate_masks)] }
def FateEndsSaid : Prop := fateEndsRow.holds Tryd.pinned (OpenSpec.ofChange fateEndsSpec)

/-- ITS FALSE NEIGHBOUR: 'it returns false'. Refute it at one input. -/
def fateEndsWrong : ChangeSpec := { name := "fateEnds", fn := fun _ => fun
  | [d1, d2, d3] => { results := [.lit (.bool false)], args := [d1, d2, d3] }
  | _ => none }
def FateEndsWrongFalsely : Prop := fateEndsRow.holds Tryd.pinned (OpenSpec.ofChange fateEndsWrong)

/- THE SECOND FORM. 'bulk': how many values and letters a reading holds, each counted each time it is reached (what is shared counts as often as it is met; a slice's spare places count too). A statement '..UptoSaid' is the law's where the arguments, and the package variables that the reading takes, are together of bulk at most 1048576: NARROWER than '..Said'. Prove '..Said' where nothing that the law and all that it calls make is longer than what came in: it says more and counts as full. Else prove '..UptoSaid'. A law counts once. -/
mutual
def uptoBulk {H : Type} : DataW H → Nat
  | .lit (.string bytes) => bytes.length + 1
  | .lit _ => 1
  | .nil => 1
  | .ptr d => uptoBulk d + 1
  | .slice elems spare => uptoBulkAll elems + uptoBulkAll spare + 1
  | .agg parts => uptoBulkAll parts + 1
  | .iface _ d => uptoBulk d + 1
  | .map entries => uptoBulkEntries entries + 1
  | .held _ => 1
def uptoBulkAll {H : Type} : List (DataW H) → Nat
  | [] => 0
  | d :: r => uptoBulk d + uptoBulkAll r
def uptoBulkEntries {H : Type} : List (Lit × DataW H) → Nat
  | [] => 0
  | x :: r => uptoBulkEntry x + uptoBulkEntries r
def uptoBulkEntry {H : Type} : Lit × DataW H → Nat
  | (.string bytes, d) => bytes.length + uptoBulk d + 1
  | (_, d) => uptoBulk d + 1
 end
def uptoSmall : (H : Type) → List (DataW H) → Bool := fun _ ds => decide (uptoBulkAll ds ≤ 1048576)
def OpenSpec.upto (s : _root_.Go.ChangeSpec) : _root_.Go.OpenSpec := { _root_.Go.OpenSpec.ofChange s with cond := some uptoSmall }

/-- 'foyerlaw04.FateReads', WHERE WHAT IT READS IS OF BULK AT MOST 1048576: true; the input reads as it did. -/
def fateReadsUptoRow : OpenClaim := { program := "ytefpnhckplcfgaadoor", sum := "ebab009379b7f9f6b26c9ac0f9160463aec80ad8c0c3529c8d850262f0927078", func := "foyer/foyerlaw04.FateReads", spec := "fateReads", unfollowed := true, recurses := true, named := ["foyer/fate.masks"], apart := false, laid := [("foyer/fate.masks", laid_foyer_fate_masks)], narrowed := true }
def FateReadsUptoSaid : Prop := fateReadsUptoRow.holds Tryd.pinned (OpenSpec.upto fateReadsSpec)

/-- 'foyerlaw04.FatePuts', WHERE WHAT IT READS IS OF BULK AT MOST 1048576: true; the input reads as it did. -/
def fatePutsUptoRow : OpenClaim := { program := "ytefpnhckplcfgaadoor", sum := "ebab009379b7f9f6b26c9ac0f9160463aec80ad8c0c3529c8d850262f0927078", func := "foyer/foyerlaw04.FatePuts", spec := "fatePuts", unfollowed := true, recurses := true, named := ["foyer/fate.masks"], apart := false, laid := [("foyer/fate.masks", laid_foyer_fate_masks)], narrowed := true }
def FatePutsUptoSaid : Prop := fatePutsUptoRow.holds Tryd.pinned (OpenSpec.upto fatePutsSpec)

/-- 'foyerlaw04.FateAfters', WHERE WHAT IT READS IS OF BULK AT MOST 1048576: true; the input reads as it did. -/
def fateAftersUptoRow : OpenClaim := { program := "ytefpnhckplcfgaadoor", sum := "ebab009379b7f9f6b26c9ac0f9160463aec80ad8c0c3529c8d850262f0927078", func := "foyer/foyerlaw04.FateAfters", spec := "fateAfters", unfollowed := true, recurses := true, named := ["foyer/fate.masks"], apart := false, laid := [("foyer/fate.masks", laid_foyer_fate_masks)], narrowed := true }
def FateAftersUptoSaid : Prop := fateAftersUptoRow.holds Tryd.pinned (OpenSpec.upto fateAftersSpec)

/-- 'foyerlaw04.FateBack', WHERE WHAT IT READS IS OF BULK AT MOST 1048576: true; the input reads as it did. -/
def fateBackUptoRow : OpenClaim := { program := "ytefpnhckplcfgaadoor", sum := "ebab009379b7f9f6b26c9ac0f9160463aec80ad8c0c3529c8d850262f0927078", func := "foyer/foyerlaw04.FateBack", spec := "fateBack", unfollowed := true, recurses := true, named := ["foyer/fate.masks"], apart := false, laid := [("foyer/fate.masks", laid_foyer_fate_masks)], narrowed := true }
def FateBackUptoSaid : Prop := fateBackUptoRow.holds Tryd.pinned (OpenSpec.upto fateBackSpec)

/-- 'foyerlaw04.FateEach', WHERE WHAT IT READS IS OF BULK AT MOST 1048576: true; the input reads as it did. -/
def fateEachUptoRow : OpenClaim := { program := "ytefpnhckplcfgaadoor", sum := "ebab009379b7f9f6b26c9ac0f9160463aec80ad8c0c3529c8d850262f0927078", func := "foyer/foyerlaw04.FateEach", spec := "fateEach", unfollowed := true, recurses := true, named := ["foyer/fate.masks"], apart := false, laid := [("foyer/fate.masks", laid_foyer_fate_masks)], narrowed := true }
def FateEachUptoSaid : Prop := fateEachUptoRow.holds Tryd.pinned (OpenSpec.upto fateEachSpec)

/-- 'foyerlaw04.FateEnds', WHERE WHAT IT READS IS OF BULK AT MOST 1048576: true; the input reads as it did. -/
def fateEndsUptoRow : OpenClaim := { program := "ytefpnhckplcfgaadoor", sum := "ebab009379b7f9f6b26c9ac0f9160463aec80ad8c0c3529c8d850262f0927078", func := "foyer/foyerlaw04.FateEnds", spec := "fateEnds", unfollowed := true, recurses := true, named := ["foyer/fate.masks"], apart := false, laid := [("foyer/fate.masks", laid_foyer_fate_masks)], narrowed := true }
def FateEndsUptoSaid : Prop := fateEndsUptoRow.holds Tryd.pinned (OpenSpec.upto fateEndsSpec)

end Rows
end Go.Proofs.YtefpnhckplcfgaaDoor
