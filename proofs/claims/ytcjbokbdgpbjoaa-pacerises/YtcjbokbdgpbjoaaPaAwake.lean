/-
  Contract of the statements' awake (layer 24): the chapter's examples hold.
-/
import Derived.Test.YtcjbokbdgpbjoaaPaPace
import Derived.Test.YtcjbokbdgpbjoaaCurveAwake
namespace Go.Proofs.Ytcjbokbdgpbjoaa.PA
open Go.ChangeShapes Go.WideShapes Go.ChangeAt Go.RowKit

set_option maxHeartbeats 1000000 in
theorem awake24_any (w : World) : Calls Try.prog 8 #[] w fun e w' => e = .returned (.bool true) ∧ Below w.heap.size w w' := by
  have F1 := fun w => twap_good 10 0 4 1 w (fine_of (by decide)) 2 (by show _ = _; decide)
  have F2 := fun v w h => vwap_good 10 0 8 6 (two 1 3) 2 v w h two_curve (fine_of (by decide)) 6 (by show _ = _; decide)
  have F3 := fun w => goal_any 2 5 10 w (by omega)
  rw [show goN 2 5 10 = 5 by decide, show goE 2 5 10 = 0 by decide] at F3
  have A : ∀ (w : World) (o : Obj), Below w.heap.size w (w.alloc o) := fun w o => (Below.refl _ w).alloc (Nat.le_refl _) _
  go_enter Try.func8, Try.ntmps8
  go_wp2_with fail
  refine (F1 _).mono ?_
  rintro e w1 ⟨rfl, hb1⟩
  go_wp2_with fail
  refine (F2 _ _ (two_row w1 1 3)).mono ?_
  rintro e w2 ⟨rfl, hb2⟩
  have B2 := hb1.trans (((A w1 _).trans (hb2.mono (by simp))).mono hb1.size)
  go_wp2_with fail
  refine (F3 _).mono ?_
  rintro e w3 ⟨rfl, hb3⟩
  go_wp2_with fail
  go_ret
  exact ⟨rfl, B2.trans (hb3.mono B2.size)⟩
end Go.Proofs.Ytcjbokbdgpbjoaa.PA
