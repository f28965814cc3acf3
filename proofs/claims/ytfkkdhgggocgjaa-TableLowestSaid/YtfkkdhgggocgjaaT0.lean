/-
  What the texts of this seat stand on: nothing of its own.
-/
import Derived.RangeFuncNested
import Derived.RangeFuncBound
import Derived.RangeFuncCalls
import Derived.RangeFuncLeaves
import Derived.RangeFuncBox
import Derived.Shelf.Abstract
import Derived.Shelf.RegionOpen
import Derived.OwnWalkIn
import Derived.TacticsInMore
import Derived.LoopNIn
import Derived.LoopIn
import Derived.IntWalk
import Derived.WalkLawsBesides
import Derived.WalkSpells
import Derived.Test.YtfkkdhgggocgjaaGb
namespace Go.Proofs.Ytfkkdhgggocgjaa
open Go.RowKit
end Go.Proofs.Ytfkkdhgggocgjaa

