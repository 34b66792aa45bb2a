/- ref16's Run. -/
import Derived.Test.YtggighikemhnfaaDoorZRaB
namespace Go.Proofs.YtggighikemhnfaaDoor.Tm
open Go.RowKit Go.Lib
set_option linter.unusedVariables false
end Go.Proofs.YtggighikemhnfaaDoor.Tm
