/-
  The chapter's example: the program is awake.
-/
import Derived.Test.YtcgojnofkbjinaaDoorWireOpen
import Derived.Test.YtcgojnofkbjinaaDoorWireSeal
import Derived.ChangeOld
import Derived.ShutString
import Derived.ChangeMaps5
import Derived.Deep.Strs
import Derived.Lib.SmallJoins
namespace Go.Proofs.YtcgojnofkbjinaaDoor
open Go.ChangeShapes Go.WideShapes Go.ChangeAt Go.RowKit Go.Lib

abbrev exBody : ByteArray := ⟨#[51, 53, 61, 48, 1]⟩
abbrev exWhole : ByteArray := ⟨#[56, 61, 70, 73, 88, 46, 52, 46, 52, 1, 57, 61, 53, 1, 51, 53, 61, 48, 1, 49, 48, 61, 49, 54, 51, 1]⟩
abbrev exMore : ByteArray := ⟨#[56, 61, 70, 73, 88, 46, 52, 46, 52, 1, 57, 61, 53, 1, 51, 53, 61, 48, 1, 49, 48, 61, 49, 54, 51, 1, 120]⟩
theorem ex_fields : (fieldsL [51, 53, 61, 48, 1]).2.2 = 0 := by
  have hv : valB [48] = true := by decide +kernel
  have hf : formE (35, mk [48]) = ([51, 53, 61, 48, 1], 0) := by
    unfold formE
    dsimp only
    rw [mk_list, if_neg (by decide), hv, if_neg (by decide), show (35 : Int).toNat = 35 from rfl, decDigits_two (by decide) (by decide)]
    rfl
  obtain ⟨h1, _⟩ := form_next [] hf
  rw [List.append_nil] at h1
  unfold fieldsL
  rw [fieldsA, if_neg (by simp), h1]
  dsimp only
  rw [if_pos rfl]
  exact congrArg (fun x => x.2.2) (fieldsA_end (by rfl) _ _ 63)
theorem ex_form : formL [51, 53, 61, 48, 1] = [56, 61, 70, 73, 88, 46, 52, 46, 52, 1, 57, 61, 53, 1, 51, 53, 61, 48, 1, 49, 48, 61, 49, 54, 51, 1] := by
  have ha : aheadL [51, 53, 61, 48, 1] = [56, 61, 70, 73, 88, 46, 52, 46, 52, 1, 57, 61, 53, 1, 51, 53, 61, 48, 1] := by
    unfold aheadL
    rw [show ([51, 53, 61, 48, 1] : List UInt8).length = 5 from rfl, decDigits_one (by decide)]
    rfl
  unfold formL
  rw [ha]
  decide +kernel
theorem ex_seal : sealE [51, 53, 61, 48, 1] = ([56, 61, 70, 73, 88, 46, 52, 46, 52, 1, 57, 61, 53, 1, 51, 53, 61, 48, 1, 49, 48, 61, 49, 54, 51, 1], 0) := by
  unfold sealE
  rw [if_neg (by decide), if_pos ex_fields, ex_form]
theorem ex_open : openE exMore.data.toList = ([51, 53, 61, 48, 1], 26, 0) := (open_seal [120] ex_seal).1
set_option maxRecDepth 1000000 in
set_option maxHeartbeats 4000000 in
theorem awake10_any (w : World) :
    Calls Tryd.prog 5 #[] w fun e w' => e = .returned (.bool true) ∧ Below w.heap.size w w' := by
  have F1 := fun w => seal_any exBody w
  have F2 := fun w => open_any exMore w (by decide)
  rw [show exBody.data.toList = [51, 53, 61, 48, 1] from rfl, ex_seal] at F1
  rw [ex_open] at F2
  dsimp only at F1 F2
  rw [show mk [56, 61, 70, 73, 88, 46, 52, 46, 52, 1, 57, 61, 53, 1, 51, 53, 61, 48, 1, 49, 48, 61, 49, 54, 51, 1] = exWhole from rfl] at F1
  rw [show mk [51, 53, 61, 48, 1] = exBody from rfl] at F2
  have hj : ∀ w, (Op.stringOp .add exWhole ⟨#[120]⟩).run Tryd.prog w = .ok (.string exMore) w := add_run _ _ _ (by rfl) (by decide) (by decide)
  go_enter Tryd.func5, Tryd.ntmps5
  go_wp2_with fail
  refine (F1 _).mono ?_
  rintro e w1 ⟨rfl, hb1⟩
  go_wp2_with fail
  refine (F2 _).mono ?_
  rintro e w2 ⟨rfl, hb2⟩
  go_wp2_with fail
  go_ret
  exact ⟨rfl, hb1.trans (hb2.mono hb1.size)⟩
end Go.Proofs.YtcgojnofkbjinaaDoor
