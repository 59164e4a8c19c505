/-
  The chapter's examples: the program is awake.
-/
import Derived.Test.YtdacfnodihannaaGreatSlNew
namespace Go.Proofs.YtdacfnodihannaaGreat.SL
open Go.ChangeShapes Go.WideShapes Go.ChangeAt Go.RowKit Go.Lib

abbrev ex1 : Sl := ⟨1, ⟨#[112]⟩, ⟨#[]⟩, ⟨#[65]⟩, ⟨#[88]⟩, 1, 100, 9, 3, 0, 5, 2500, 0, [], 10⟩
abbrev ex2 : Sl := ⟨1, ⟨#[112]⟩, ⟨#[]⟩, ⟨#[65]⟩, ⟨#[88]⟩, 1, 100, 9, 4, 0, 5, 0, 30, [], 10⟩
theorem nil_row (w : World) : Row w (.slice none 0 0) 0 fun i => .int .i64 (([] : List Int).getD i 0) := ⟨none, 0, rfl, Nat.le_refl _, by unfold maxLen; omega, fun i hi => absurd hi (by simp)⟩
set_option maxRecDepth 1000000 in
set_option maxHeartbeats 4000000 in
theorem awake27_any (w : World) : Calls Tryz.prog 4 #[] w fun e w' => e = .returned (.bool true) ∧ Below w.heap.size w w' := by
  have N1 : ∀ w', Calls Tryz.prog 6 #[.agg #[.int .i64 1, .string ⟨#[112]⟩, .string ⟨#[]⟩, .string ⟨#[65]⟩, .string ⟨#[88]⟩, .int .i64 1, .int .i64 100, .int .i64 9, .int .i64 3, .int .i64 0, .int .i64 5, .int .i64 2500, .int .i64 0, .slice none 0 0], .int .i64 10] w' fun e w'' => ∃ P v, e = .returned (.tuple #[.pointer (some ⟨P, 0, none⟩), .int .i64 0]) ∧ SlAt w'' w'.heap.size P v ex1 ∧ Below w'.heap.size w' w'' := fun w' => new_good ex1 none 0 w' (nil_row w') (by decide +kernel)
  have N2 : ∀ w', Calls Tryz.prog 6 #[.agg #[.int .i64 1, .string ⟨#[112]⟩, .string ⟨#[]⟩, .string ⟨#[65]⟩, .string ⟨#[88]⟩, .int .i64 1, .int .i64 100, .int .i64 9, .int .i64 4, .int .i64 0, .int .i64 5, .int .i64 0, .int .i64 30, .slice none 0 0], .int .i64 10] w' fun e w'' => ∃ P v, e = .returned (.tuple #[.pointer (some ⟨P, 0, none⟩), .int .i64 0]) ∧ SlAt w'' w'.heap.size P v ex2 ∧ Below w'.heap.size w' w'' := fun w' => new_good ex2 none 0 w' (nil_row w') (by decide +kernel)
  have X0 : Hid (Box (w.alloc (.cells #[.int .i64 1, .string ⟨#[112]⟩, .string ⟨#[]⟩, .string ⟨#[65]⟩, .string ⟨#[88]⟩, .int .i64 1, .int .i64 100, .int .i64 9, .int .i64 3, .int .i64 0, .int .i64 5, .int .i64 2500, .int .i64 0, .slice none 0 0] 24)) w.heap.size (oF ex1 (.slice none 0 0))) := box_new w ex1 _ _
  have B0 : Hid (Below w.heap.size w (w.alloc (.cells #[.int .i64 1, .string ⟨#[112]⟩, .string ⟨#[]⟩, .string ⟨#[65]⟩, .string ⟨#[88]⟩, .int .i64 1, .int .i64 100, .int .i64 9, .int .i64 3, .int .i64 0, .int .i64 5, .int .i64 2500, .int .i64 0, .slice none 0 0] 24))) := (Below.refl _ w).alloc (Nat.le_refl _) _
  go_enter Tryz.func4, Tryz.ntmps4
  go_wp2_with fail
  refine (N1 _).mono ?_
  rintro e w1 ⟨P1, v1, rfl, K1, b1⟩
  have F1 : Calls Tryz.prog 11 #[.pointer (some ⟨P1, 0, none⟩), .int .i64 1, .int .i64 110, .int .i64 0] w1 fun e w' => e = .returned (.tuple #[.int .i64 25, .int .i64 0]) ∧ Below w1.heap.size w1 w' := target_yes K1 1 110 0
  have Q1 := X0.out.below b1
  have B1 : Hid (Below w.heap.size w w1) := B0.out.trans (b1.mono B0.out.size)
  clear X0 B0 K1 b1 N1
  go_wp2_with fail
  refine F1.mono ?_
  rintro e w2 ⟨rfl, b2⟩
  have Q2 := Q1.below b2
  have B2 : Hid (Below w.heap.size w w2) := B1.out.trans (b2.mono B1.out.size)
  have c0 : w2.cell? ⟨w.heap.size, 0, none⟩ = some (.int .i64 1) := Q2.cell 0 (by omega)
  have c1 : w2.cell? ⟨w.heap.size, 1, none⟩ = some (.string ⟨#[112]⟩) := Q2.cell 1 (by omega)
  have c2 : w2.cell? ⟨w.heap.size, 2, none⟩ = some (.string ⟨#[]⟩) := Q2.cell 2 (by omega)
  have c3 : w2.cell? ⟨w.heap.size, 3, none⟩ = some (.string ⟨#[65]⟩) := Q2.cell 3 (by omega)
  have c4 : w2.cell? ⟨w.heap.size, 4, none⟩ = some (.string ⟨#[88]⟩) := Q2.cell 4 (by omega)
  have c5 : w2.cell? ⟨w.heap.size, 5, none⟩ = some (.int .i64 1) := Q2.cell 5 (by omega)
  have c6 : w2.cell? ⟨w.heap.size, 6, none⟩ = some (.int .i64 100) := Q2.cell 6 (by omega)
  have c7 : w2.cell? ⟨w.heap.size, 7, none⟩ = some (.int .i64 9) := Q2.cell 7 (by omega)
  have c8 : w2.cell? ⟨w.heap.size, 8, none⟩ = some (.int .i64 3) := Q2.cell 8 (by omega)
  have c9 : w2.cell? ⟨w.heap.size, 9, none⟩ = some (.int .i64 0) := Q2.cell 9 (by omega)
  have c10 : w2.cell? ⟨w.heap.size, 10, none⟩ = some (.int .i64 5) := Q2.cell 10 (by omega)
  have c11 : w2.cell? ⟨w.heap.size, 11, none⟩ = some (.int .i64 2500) := Q2.cell 11 (by omega)
  have c12 : w2.cell? ⟨w.heap.size, 12, none⟩ = some (.int .i64 0) := Q2.cell 12 (by omega)
  have c13 : w2.cell? ⟨w.heap.size, 13, none⟩ = some (.slice none 0 0) := Q2.cell 13 (by omega)
  have z := Q2.fz
  have Q3 : Hid (Box (((w2.setCell ⟨w.heap.size, 8, none⟩ (.int .i64 4)).setCell ⟨w.heap.size, 11, none⟩ (.int .i64 0)).setCell ⟨w.heap.size, 12, none⟩ (.int .i64 30)) w.heap.size (oF ex2 (.slice none 0 0))) := (((Q2.set (i := 8) (by omega) (.int .i64 4)).set (i := 11) (by omega) (.int .i64 0)).set (i := 12) (by omega) (.int .i64 30)).same fun j hj => by
    rcases (show j = 0 ∨ j = 1 ∨ j = 2 ∨ j = 3 ∨ j = 4 ∨ j = 5 ∨ j = 6 ∨ j = 7 ∨ j = 8 ∨ j = 9 ∨ j = 10 ∨ j = 11 ∨ j = 12 ∨ j = 13 by omega) with rfl | rfl | rfl | rfl | rfl | rfl | rfl | rfl | rfl | rfl | rfl | rfl | rfl | rfl <;> rfl
  have B3 : Hid (Below w.heap.size w (((w2.setCell ⟨w.heap.size, 8, none⟩ (.int .i64 4)).setCell ⟨w.heap.size, 11, none⟩ (.int .i64 0)).setCell ⟨w.heap.size, 12, none⟩ (.int .i64 30))) := B2.out.trans (((((But.refl (fun k => k = w.heap.size) w2).setCell _ _ _ (fun _ => rfl)).setCell _ _ _ (fun _ => rfl)).setCell _ _ _ (fun _ => rfl)).below B2.out.size (fun i e => by omega))
  clear Q1 Q2 B1 B2 b2 F1
  go_wp2_with fail
  refine (N2 _).mono ?_
  rintro e w4 ⟨P2, v2, rfl, K2, b4⟩
  have F2 : Calls Tryz.prog 11 #[.pointer (some ⟨P2, 0, none⟩), .int .i64 1, .int .i64 10, .int .i64 50] w4 fun e w' => e = .returned (.tuple #[.int .i64 80, .int .i64 0]) ∧ Below w4.heap.size w4 w' := target_yes K2 1 10 50
  have B4 : Hid (Below w.heap.size w w4) := B3.out.trans (b4.mono B3.out.size)
  clear Q3 B3 K2 b4 N2 c0 c1 c2 c3 c4 c5 c6 c7 c8 c9 c10 c11 c12 c13 z
  go_wp2_with fail
  refine F2.mono ?_
  rintro e w5 ⟨rfl, b5⟩
  go_wp2_with fail
  go_ret
  exact ⟨rfl, B4.out.trans (b5.mono B4.out.size)⟩
end Go.Proofs.YtdacfnodihannaaGreat.SL
