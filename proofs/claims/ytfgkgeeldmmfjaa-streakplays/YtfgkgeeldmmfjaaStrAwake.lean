/-
  The statements' awake: the chapter's example holds.
-/
import Derived.Test.YtfgkgeeldmmfjaaStreak
namespace Go.Proofs.Ytfgkgeeldmmfjaa
open Go.ChangeShapes Go.WideShapes Go.ChangeAt Go.RowKit Go.Lib

set_option maxRecDepth 100000 in
set_option maxHeartbeats 2000000 in
theorem awake7_any (w : World) : Calls Try.prog 6 #[] w fun e w' => e = .returned (.bool true) ∧ Below w.heap.size w w' := by
  have F1 := new_yes 3 w (by omega) (by omega)
  obtain ⟨P, hP⟩ : ∃ P, P = w.heap.size := ⟨_, rfl⟩
  rw [← hP] at F1
  go_enter Try.func6, Try.ntmps6
  go_wp2_with fail
  refine F1.mono ?_
  rintro e w1 ⟨rfl, S1, B0, s1⟩
  have B1 : Below w.heap.size w w1 := by rw [← hP]; exact B0
  have HP : Hid (w.heap.size ≤ P) := Nat.le_of_eq hP.symm
  clear hP s1 F1 B0
  have F2 := note_other S1 (by omega) 1 5 9 (by omega)
  go_wp2_with fail
  refine F2.mono ?_
  rintro e w2 ⟨rfl, S2, k2⟩
  have B2 : Below w.heap.size w w2 := B1.trans (k2.below B1.size (fun k hk => by rw [hk]; exact HP.out))
  clear S1 F2 k2 B1
  have F3 := note_same S2 (by omega) (by omega)
  go_wp2_with fail
  refine F3.mono ?_
  rintro e w3 ⟨rfl, S3, k3⟩
  have B3 : Below w.heap.size w w3 := B2.trans (k3.below B2.size (fun k hk => by rw [hk]; exact HP.out))
  clear S2 F3 k3 B2
  have F4 := count_any S3 (by omega)
  go_wp2_with fail
  refine F4.mono ?_
  rintro e w4 ⟨rfl, rfl⟩
  clear F4
  have F5 := note_trip S3 (by omega) (by omega) (by omega)
  go_wp2_with fail
  refine F5.mono ?_
  rintro e w5 ⟨rfl, S5, k5⟩
  have B5 : Below w.heap.size w w5 := B3.trans (k5.below B3.size (fun k hk => by rw [hk]; exact HP.out))
  clear S3 S5 F5 k5 B3
  go_wp2_with fail
  go_ret
  exact ⟨by simp, B5⟩
end Go.Proofs.Ytfgkgeeldmmfjaa
