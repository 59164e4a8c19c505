/-
  The statements' awake: the chapter's example holds.
-/
import Derived.Test.YtdikjfajbjedcaaRingMoveI
namespace Go.Proofs.Ytdikjfajbjedcaa
open Go.ChangeShapes Go.WideShapes Go.ChangeAt Go.RowKit Go.Lib

set_option maxRecDepth 100000 in
set_option maxHeartbeats 2000000 in
theorem awake5_any (w : World) : Calls Try.prog 6 #[] w fun e w' => e = .returned (.bool true) ∧ Below w.heap.size w w' := by
  have F1 := RI.new_yes 2 w (by omega) (by omega)
  obtain ⟨P, hP⟩ : ∃ P, P = w.heap.size := ⟨_, rfl⟩
  rw [← hP] at F1
  go_enter Try.func6, Try.ntmps6
  go_wp2_with fail
  refine F1.mono ?_
  rintro e w1 ⟨rfl, R1, B1, s1⟩
  have R1 := R1 (fun _ => 0)
  have B1 : Below w.heap.size w w1 := by rw [← hP]; exact B1
  have HP : Hid (P = w.heap.size) := hP
  clear hP s1 F1
  have F2 := RI.push_ok R1 (by omega) 7
  go_wp2_with fail
  refine F2.mono ?_
  rintro e w2 ⟨rfl, S2, C2, f2, R2, k2, o2⟩
  have O2 : ∀ k, RI.own P S2 k → w.heap.size ≤ k := fun k hk => by
    rcases o2 k hk with (rfl | e) | e
    · exact Nat.le_of_eq HP.out.symm
    · cases e
    · exact Nat.le_trans B1.size e
  have B2 : Below w.heap.size w w2 := B1.trans (k2.below B1.size (by
    rintro k (rfl | e)
    · exact Nat.le_of_eq HP.out.symm
    · cases e))
  clear k2 o2 R1 F2
  have F3 := RI.push_ok R2 (by omega) 8
  go_wp2_with fail
  refine F3.mono ?_
  rintro e w3 ⟨rfl, S3, C3, f3, R3, k3, o3⟩
  have O3 : ∀ k, RI.own P S3 k → w.heap.size ≤ k := fun k hk => by
    rcases o3 k hk with e | e
    · exact O2 k e
    · exact Nat.le_trans B2.size e
  have B3 : Below w.heap.size w w3 := B2.trans (k3.below B2.size O2)
  clear k3 o3 R2 F3 O2
  have F4 := RI.push_full (room := 2) R3 9
  go_wp2_with fail
  refine F4.mono ?_
  rintro e w4 ⟨rfl, m4, rfl⟩
  have F5 := RI.pop_some (n := 1) (R3.below (below_drewN _ m4 w3))
  rw [show upd (upd (fun _ => (0 : Int)) 0 7) (0 + 1) 8 0 = 7 from rfl] at F5
  have B4 := below_more B3 m4
  clear F4
  go_wp2_with fail
  refine F5.mono ?_
  rintro e w5 ⟨rfl, f5, R5, k5⟩
  have B5 : Below w.heap.size w w5 := B4.trans (k5.below B4.size O3)
  clear R5 R3 k5 F5
  go_wp2_with fail
  go_ret
  exact ⟨rfl, B5⟩
end Go.Proofs.Ytdikjfajbjedcaa
