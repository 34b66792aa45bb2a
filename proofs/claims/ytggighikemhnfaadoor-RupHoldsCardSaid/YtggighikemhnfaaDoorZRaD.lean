/- ref16's Closes, Implies; units' Values. -/
import Derived.Test.YtggighikemhnfaaDoorZRaC
namespace Go.Proofs.YtggighikemhnfaaDoor.Tm
open Go.RowKit Go.Lib
set_option linter.unusedVariables false
end Go.Proofs.YtggighikemhnfaaDoor.Tm
