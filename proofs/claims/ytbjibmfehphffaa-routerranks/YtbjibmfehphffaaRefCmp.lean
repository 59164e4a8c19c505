/-
  Contract of the reference's cmp: two lists of bits are held against each other as numbers.
-/
import Derived.Test.YtbjibmfehphffaaRefOf
namespace Go.Proofs.Ytbjibmfehphffaa
open Go.ChangeShapes Go.WideShapes Go.ChangeAt Go.RowKit

end Go.Proofs.Ytbjibmfehphffaa
