/-
  The statements' awake: the chapter's example holds.
-/
import Derived.Test.YtphdjjhocdgofaaWinTake
namespace Go.Proofs.Ytphdjjhocdgofaa
open Go.ChangeShapes Go.WideShapes Go.ChangeAt Go.RowKit Go.Lib

set_option maxRecDepth 100000 in
set_option maxHeartbeats 2000000 in
theorem awake6_any (w : World) : Calls Try.prog 7 #[] w fun e w' => e = .returned (.bool true) ∧ Below w.heap.size w w' := by
  have F1 := new_yes 3 2 w ⟨by omega, by omega, by omega, by omega⟩ w.heap.size (Nat.le_refl _)
  obtain ⟨P, hP⟩ : ∃ P, P = w.heap.size := ⟨_, rfl⟩
  rw [← hP] at F1
  go_enter Try.func7, Try.ntmps7
  go_wp2_with fail
  refine F1.mono ?_
  rintro e w1 ⟨rfl, R0, B0, s1⟩
  have R1 : Win w1 P P 3 2 (.slice none 0 0) 0 (fun _ => 0) := ⟨R0 _, ⟨fun i j _ hj => absurd hj (by omega), fun i hi => absurd hi (by omega), fun i hi => absurd hi (by omega)⟩, ⟨by omega, by omega, by omega, by omega⟩, by omega⟩
  have B1 : Below w.heap.size w w1 := by rw [← hP]; exact B0
  have HP : Hid (P = w.heap.size) := hP
  clear hP s1 F1 R0 B0
  have F2 := take_ok (now := 5) (c := 0) (K := 0) R1 ⟨by omega, by omega, .inl rfl⟩ (.inl ⟨rfl, rfl⟩) ⟨by omega, fun j hj => absurd hj (by omega), fun j _ hj => absurd hj (by omega)⟩ rfl (by omega)
  go_wp2_with fail
  refine F2.mono ?_
  rintro e w2 ⟨rfl, v2, R2, k2, _⟩
  have B2 : Below w.heap.size w w2 := B1.trans (k2.below B1.size (fun k hk => by rw [← HP.out]; exact (R1.tk.there hk).1))
  have g20 : tookG (fun _ => 0) 0 0 5 0 = 5 := rfl
  generalize tookG (fun _ => 0) 0 0 5 = g2 at *
  clear k2 R1 F2
  have K6 : Cut g2 1 (6 - ((3 : Nat) : Int) + 1) 0 := by
    refine ⟨by omega, fun j hj => absurd hj (by omega), fun j _ hj => ?_⟩
    obtain rfl : j = 0 := by omega
    omega
  have F3 := take_ok (now := 6) (c := 1) (K := 0) R2 ⟨by omega, by omega, .inr (by show g2 0 ≤ 6; omega)⟩ (.inr (.inr ⟨by omega, by show g2 0 ≤ 6; omega, 0, K6, rfl⟩)) K6 rfl (by omega)
  clear K6
  go_wp2_with fail
  refine F3.mono ?_
  rintro e w3 ⟨rfl, v3, R3, k3, _⟩
  have B3 : Below w.heap.size w w3 := B2.trans (k3.below B2.size (fun k hk => by rw [← HP.out]; exact (R2.tk.there hk).1))
  have g30 : tookG g2 (0 - 0 + 1) 0 6 0 = 5 := g20
  have g31 : tookG g2 (0 - 0 + 1) 0 6 1 = 6 := rfl
  generalize tookG g2 (0 - 0 + 1) 0 6 = g3 at *
  have R3 : Win w3 P P 3 2 v3 2 g3 := R3
  clear k3 R2 F3 g20
  have C7 : Cnt g3 2 3 7 2 := .inr (.inr ⟨by omega, by show g3 1 ≤ 7; omega, 0, ⟨by omega, fun j hj => absurd hj (by omega), fun j _ hj => by
    rcases (show j = 0 ∨ j = 1 by omega) with rfl | rfl <;> omega⟩, rfl⟩)
  have A7 : Askd g3 2 7 := ⟨by omega, by omega, .inr (by show g3 1 ≤ 7; omega)⟩
  have F4 := take_full R3 A7 C7
  go_wp2_with fail
  refine F4.mono ?_
  rintro e w4 ⟨rfl, m4, hw4⟩
  have R4 := R3.drewN m4
  have B4 := below_more B3 m4
  rw [← hw4] at R4 B4
  clear hw4 F4 R3 B3
  have F5 := free_wait R4 A7 C7
  rw [g30] at F5
  go_wp2_with fail
  refine F5.mono ?_
  rintro e w5 ⟨rfl, m5, hw5⟩
  have R5 := R4.drewN m5
  have B5 := below_more B4 m5
  rw [← hw5] at R5 B5
  clear hw5 F5 R4 B4 A7 C7
  have K8 : Cut g3 2 (8 - ((3 : Nat) : Int) + 1) 1 := by
    refine ⟨by omega, fun j hj => ?_, fun j hj hj' => ?_⟩
    · obtain rfl : j = 0 := by omega
      omega
    · obtain rfl : j = 1 := by omega
      omega
  have F6 := take_ok (now := 8) (c := 1) (K := 1) R5 ⟨by omega, by omega, .inr (by show g3 1 ≤ 8; omega)⟩ (.inr (.inr ⟨by omega, by show g3 1 ≤ 8; omega, 1, K8, rfl⟩)) K8 rfl (by omega)
  clear g30 g31 K8
  go_wp2_with fail
  refine F6.mono ?_
  rintro e w6 ⟨rfl, v6, R6, k6, _⟩
  have B6 : Below w.heap.size w w6 := B5.trans (k6.below B5.size (fun k hk => by rw [← HP.out]; exact (R5.tk.there hk).1))
  clear R6 k6 R5 F6
  go_wp2_with fail
  go_ret
  exact ⟨rfl, B6⟩
end Go.Proofs.Ytphdjjhocdgofaa
