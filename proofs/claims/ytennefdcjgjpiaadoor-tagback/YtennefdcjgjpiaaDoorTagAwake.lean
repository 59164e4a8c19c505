/-
  The chapter's examples: the program is awake.
-/
import Derived.Test.YtennefdcjgjpiaaDoorTagForms
import Derived.Test.YtennefdcjgjpiaaDoorTagNext
namespace Go.Proofs.YtennefdcjgjpiaaDoor
open Go.ChangeShapes Go.WideShapes Go.ChangeAt Go.RowKit Go.Lib

theorem ex_form : formE (35, ⟨#[68]⟩) = ([51, 53, 61, 68, 1], 0) := by
  unfold formE
  have h : valB ((⟨#[68]⟩ : ByteArray)).data.toList = true := by decide +kernel
  dsimp only
  rw [if_neg (by decide), h, if_neg (by decide), show (35 : Int).toNat = 35 from rfl, decDigits_two (by decide) (by decide)]
  rfl
theorem ex_nought : nextL [48, 51, 53, 61, 68, 1] = (none8, 0, 80) := by
  have h : tagR [48, 51, 53, 61, 68, 1] 0 0 = (0, 0, 80) := by decide +kernel
  rw [next_bad (by rw [h]; decide), h]
theorem ex_empty : nextL [51, 53, 61, 1] = (none8, 0, 81) := by
  have h : tagR [51, 53, 61, 1] 0 0 = (35, 3, 0) := by decide +kernel
  have h2 : valL (List.drop 3 [51, 53, 61, 1]) = ([], 81) := by decide +kernel
  rw [next_good h, h2]
  rfl
set_option maxRecDepth 1000000 in
set_option maxHeartbeats 4000000 in
theorem awake_any (w : World) (P : Pow w) :
    Calls Tryd.prog 7 #[] w fun e w' => e = .returned (.bool true) ∧ Below w.heap.size w w' := by
  have F1 := form_any 35 ⟨#[68]⟩ w (by decide) P
  have F2 := fun w => next_any ⟨#[48, 51, 53, 61, 68, 1]⟩ w (by decide)
  have F3 := fun w => next_any ⟨#[51, 53, 61, 1]⟩ w (by decide)
  rw [ex_form] at F1
  rw [show ((⟨#[48, 51, 53, 61, 68, 1]⟩ : ByteArray)).data.toList = [48, 51, 53, 61, 68, 1] from rfl, ex_nought] at F2
  rw [show ((⟨#[51, 53, 61, 1]⟩ : ByteArray)).data.toList = [51, 53, 61, 1] from rfl, ex_empty] at F3
  have e5 : mk [51, 53, 61, 68, 1] = ⟨#[51, 53, 61, 68, 1]⟩ := rfl
  have e0 : mk [] = ⟨#[]⟩ := rfl
  unfold none8 at F2 F3
  rw [e5] at F1
  rw [e0] at F2 F3
  dsimp only at F1 F2 F3
  clear e5 e0
  go_enter Tryd.func7, Tryd.ntmps7
  go_wp2_with fail
  refine F1.mono ?_
  rintro e w1 ⟨rfl, hb1⟩
  go_wp2_with fail
  refine (F2 _).mono ?_
  rintro e w2 ⟨rfl, hb2⟩
  go_wp2_with fail
  refine (F3 _).mono ?_
  rintro e w3 ⟨rfl, hb3⟩
  go_wp2_with fail
  go_ret
  have B2 := hb1.trans (hb2.mono hb1.size)
  have B3 := (B2.alloc B2.size (.cells #[.int .i64 0, .string ⟨#[]⟩] 25)).trans (hb3.mono (by rw [World.size_alloc]; have := B2.size; omega))
  exact ⟨rfl, B3.alloc B3.size _⟩
end Go.Proofs.YtennefdcjgjpiaaDoor
