/-
  The contract of wire's trailer.
-/
import Derived.Test.YtcgojnofkbjinaaDoorWireMath
import Derived.Test.YtcgojnofkbjinaaDoorSumForms
namespace Go.Proofs.YtcgojnofkbjinaaDoor
open Go.ChangeShapes Go.WideShapes Go.ChangeAt Go.RowKit Go.Lib

theorem trail_text (a : List UInt8) : (⟨#[49, 48, 61]⟩ : ByteArray) ++ mk (three (sumL a)) ++ (⟨#[1]⟩ : ByteArray) = mk (trailL a) := by
  apply bytes_ext8
  simp [mk, trailL]
set_option maxRecDepth 1000000 in
set_option maxHeartbeats 2000000 in
theorem trailer_any (a : ByteArray) (w : World) (ha : a.size ≤ maxLen) :
    Calls Tryd.prog 14 #[.string a] w fun e w' => e = .returned (.string (mk (trailL a.data.toList))) ∧ Below w.heap.size w w' := by
  have F1 := fun w => sum_any a w ha
  have F2 := fun w => three_yes (sumL a.data.toList) w (by have := sumL_lt a.data.toList; omega)
  have ht := trail_text a.data.toList
  have hz : (mk (three (sumL a.data.toList))).size = 3 := by rw [mk_size]; rfl
  generalize sumL a.data.toList = n at F1 F2 ht hz
  generalize mk (three n) = D at F2 ht hz
  generalize mk (trailL a.data.toList) = T at ht
  go_enter Tryd.func14, Tryd.ntmps14
  go_wp2_with fail
  refine (F1 _).mono ?_
  rintro e w1 ⟨rfl, rfl⟩
  go_wp2_with fail
  refine (F2 _).mono ?_
  rintro e w2 ⟨rfl, hb⟩
  go_wp2_with fail
  go_ret
  exact ⟨rfl, hb⟩
end Go.Proofs.YtcgojnofkbjinaaDoor
