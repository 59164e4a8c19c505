/-
  Contracts of the reference's Same (of two lists that are the same) and of the statements' awake: the chapter's examples hold.
-/
import Derived.Test.YtcjbokbdgpbjoaaCurveDone
import Derived.BigQuiet
namespace Go.Proofs.Ytcjbokbdgpbjoaa
open Go.ChangeShapes Go.WideShapes Go.ChangeAt Go.RowKit

/-- A list of two. -/
def two (x y : Int) (i : Nat) : Int := if i = 0 then x else if i = 1 then y else 0
theorem two_row (w : World) (x y : Int) : Row (w.alloc (.cells #[.int .i64 x, .int .i64 y] 3)) (.slice (some ⟨w.heap.size, 0, none⟩) 2 2) 2 fun i => .int .i64 (two x y i) := by
  refine ⟨_, 2, rfl, Nat.le_refl _, by unfold maxLen; omega, fun i hi => ⟨w.heap.size, 0, rfl, ?_⟩⟩
  have : i = 0 ∨ i = 1 := by omega
  rcases this with rfl | rfl
  · simp [two, World.cell?_alloc_at]
  · simp [two, World.cell?_alloc_at]
theorem two_curve : Curve (two 1 3) 2 where
  len := by omega
  each := fun i => by unfold two; split <;> (try split) <;> omega
  beyond := fun i hi => by unfold two; rw [if_neg (by omega), if_neg (by omega)]
  some := by decide

end Go.Proofs.Ytcjbokbdgpbjoaa
