/-
  The base of this seat: nothing of its own (the small laws on memory stand in Gb).
-/
import Derived.Test.YthhimhjegodklaaGreatErr
import Derived.Test.YthhimhjegodklaaGreatIs
import Derived.Test.YthhimhjegodklaaGreatGb
import Derived.Below
import Derived.Deep.QuietTactic
import Derived.BigQuiet
import Derived.Deep.RegionWith
namespace Go.Proofs.YthhimhjegodklaaGreat
open Go.RowKit
end Go.Proofs.YthhimhjegodklaaGreat

