/-
  The chapter's examples: the program is awake.
-/
import Derived.Test.YtihcbainolichaaSumForms
import Derived.ChangeOld
import Derived.ShutString
import Derived.ChangeMaps5
import Derived.Deep.Strs
import Derived.Lib.SmallJoins
namespace Go.Proofs.Ytihcbainolichaa
open Go.ChangeShapes Go.WideShapes Go.ChangeAt Go.RowKit Go.Lib

set_option maxRecDepth 1000000 in
set_option maxHeartbeats 4000000 in
theorem awake9_any (w : World) :
    Calls Try.prog 8 #[] w fun e w' => e = .returned (.bool true) ∧ Below w.heap.size w w' := by
  have F1 := fun w => sum_any ⟨#[65]⟩ w (by decide)
  have F2 := fun w => three_yes 65 w (by decide)
  have F3 := fun w => read3_any ⟨#[54, 53]⟩ w (by decide)
  have F4 := fun w => readLength_any ⟨#[48, 53]⟩ w (by decide)
  rw [show sumL ((⟨#[65]⟩ : ByteArray)).data.toList = 65 by decide] at F1
  rw [show mk (three 65) = ⟨#[48, 54, 53]⟩ by decide] at F2
  rw [show sumE ((⟨#[54, 53]⟩ : ByteArray)).data.toList = (0, 112) by decide] at F3
  rw [show lengthE ((⟨#[48, 53]⟩ : ByteArray)).data.toList = (0, 112) by decide] at F4
  dsimp only at F3 F4
  go_enter Try.func8, Try.ntmps8
  go_wp2_with fail
  refine (F1 _).mono ?_
  rintro e w1 ⟨rfl, rfl⟩
  go_wp2_with fail
  refine (F2 _).mono ?_
  rintro e w2 ⟨rfl, hb2⟩
  go_wp2_with fail
  refine (F3 _).mono ?_
  rintro e w3 ⟨rfl, rfl⟩
  go_wp2_with fail
  refine (F4 _).mono ?_
  rintro e w4 ⟨rfl, rfl⟩
  go_wp2_with fail
  go_ret
  exact ⟨rfl, hb2⟩
end Go.Proofs.Ytihcbainolichaa
