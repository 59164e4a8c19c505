/-
  Contracts of package checked's Sub, Neg and Mul, for every input.
-/
import Derived.Test.YtcjbokbdgpbjoaaTimes
namespace Go.Proofs.Ytcjbokbdgpbjoaa
open Go.ChangeShapes Go.WideShapes Go.ChangeAt Go.RowKit

end Go.Proofs.Ytcjbokbdgpbjoaa
