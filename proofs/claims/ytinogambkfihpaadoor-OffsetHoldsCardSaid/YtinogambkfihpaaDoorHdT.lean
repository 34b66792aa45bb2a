/- OffsetHolds' walk and the opening of its arguments, together. -/
import Derived.Test.YtinogambkfihpaaDoorHdW
import Derived.Test.YtinogambkfihpaaDoorHdZ
namespace Go.Proofs.YtinogambkfihpaaDoor
end Go.Proofs.YtinogambkfihpaaDoor
