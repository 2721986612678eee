/- The examples. -/
import Derived.Test.YtbncpfkoeahhpaaGS
namespace Go.Proofs.Ytbncpfkoeahhpaa
open Go.ChangeShapes Go.WideShapes Go.ChangeAt Go.RowKit Go.Maps
set_option linter.unusedVariables false
set_option linter.unusedSimpArgs false

end Go.Proofs.Ytbncpfkoeahhpaa
