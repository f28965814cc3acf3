/-
  The law NodeBack's walk and the reading of its arguments, side by side, over this seat's translation; no conditions beside.
-/
import Derived.Test.YthhimhjegodklaaGreatNrow
import Derived.Test.YthhimhjegodklaaGreatNzi
namespace Go.Proofs.YthhimhjegodklaaGreat.N11
set_option linter.unusedSimpArgs false
set_option linter.unusedVariables false
open Go.RowKit
end Go.Proofs.YthhimhjegodklaaGreat.N11

