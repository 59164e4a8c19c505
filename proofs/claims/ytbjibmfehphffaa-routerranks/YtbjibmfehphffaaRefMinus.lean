/-
  Contract of the reference's minus: the difference of two lists of bits, the first not below the second.
-/
import Derived.Test.YtbjibmfehphffaaRefPlus
namespace Go.Proofs.Ytbjibmfehphffaa
open Go.ChangeShapes Go.WideShapes Go.ChangeAt Go.RowKit

end Go.Proofs.Ytbjibmfehphffaa
