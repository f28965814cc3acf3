/-
  The law NodeRoom's walk and the reading of its argument, side by side, over this seat's translation; no conditions beside.
-/
import Derived.Test.YthhimhjegodklaaGreatNrow
import Derived.Test.YthhimhjegodklaaGreatNzg
namespace Go.Proofs.YthhimhjegodklaaGreat.N11
set_option linter.unusedSimpArgs false
set_option linter.unusedVariables false
open Go.RowKit
end Go.Proofs.YthhimhjegodklaaGreat.N11

