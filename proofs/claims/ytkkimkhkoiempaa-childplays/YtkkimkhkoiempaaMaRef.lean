/-
  Contract of the reference's Next: for every state, event and number, with the same answers as the program's.
-/
import Derived.Test.YtkkimkhkoiempaaMaSmall
namespace Go.Proofs.Ytkkimkhkoiempaa.MA
open Go.ChangeShapes Go.WideShapes Go.ChangeAt Go.RowKit

set_option maxHeartbeats 2000000 in
theorem refBad_0 (s v c : Int) (w : World) (h1 : s < 1) : Calls Try.prog 38 #[.int .i64 s, .int .i64 v, .int .i64 c] w fun e w' => e = .returned (.tuple #[.int .i64 0, .int .i64 2]) ∧ w = w' := by
  go_enter Try.func38, Try.ntmps38
  go_wp2_with fail
  go_ret2
  exact ⟨rfl, rfl⟩
set_option maxHeartbeats 2000000 in
theorem refBad_1 (s v c : Int) (w : World) (h1 : ¬ s < 1) (h2 : 8 < s) : Calls Try.prog 38 #[.int .i64 s, .int .i64 v, .int .i64 c] w fun e w' => e = .returned (.tuple #[.int .i64 0, .int .i64 2]) ∧ w = w' := by
  go_enter Try.func38, Try.ntmps38
  go_wp2_with fail
  go_ret2
  exact ⟨rfl, rfl⟩
set_option maxHeartbeats 2000000 in
theorem refBad_2 (s v c : Int) (w : World) (h1 : ¬ s < 1) (h2 : ¬ 8 < s) (h3 : v < 1) : Calls Try.prog 38 #[.int .i64 s, .int .i64 v, .int .i64 c] w fun e w' => e = .returned (.tuple #[.int .i64 0, .int .i64 2]) ∧ w = w' := by
  go_enter Try.func38, Try.ntmps38
  go_wp2_with fail
  go_ret2
  exact ⟨rfl, rfl⟩
set_option maxHeartbeats 2000000 in
theorem refBad_3 (s v c : Int) (w : World) (h1 : ¬ s < 1) (h2 : ¬ 8 < s) (h3 : ¬ v < 1) (h4 : 10 < v) : Calls Try.prog 38 #[.int .i64 s, .int .i64 v, .int .i64 c] w fun e w' => e = .returned (.tuple #[.int .i64 0, .int .i64 2]) ∧ w = w' := by
  go_enter Try.func38, Try.ntmps38
  go_wp2_with fail
  go_ret2
  exact ⟨rfl, rfl⟩
set_option maxHeartbeats 2000000 in
theorem refBad_4 (s v c : Int) (w : World) (h1 : ¬ s < 1) (h2 : ¬ 8 < s) (h3 : ¬ v < 1) (h4 : ¬ 10 < v) (h5 : c < 0) : Calls Try.prog 38 #[.int .i64 s, .int .i64 v, .int .i64 c] w fun e w' => e = .returned (.tuple #[.int .i64 0, .int .i64 2]) ∧ w = w' := by
  go_enter Try.func38, Try.ntmps38
  go_wp2_with fail
  go_ret2
  exact ⟨rfl, rfl⟩
set_option maxHeartbeats 2000000 in
theorem refAt_1_1 (c : Int) (w : World) (h5 : ¬ c < 0) : Calls Try.prog 38 #[.int .i64 1, .int .i64 1, .int .i64 c] w fun e w' => e = .returned (.tuple #[.int .i64 (pk (tb 1 1) 1 (bk c)), .int .i64 (pe (tb 1 1))]) ∧ w = w' := by
  rw [show pk (tb 1 1) 1 (bk c) = 2 from rfl, show pe (tb 1 1) = 0 from rfl]
  go_enter Try.func38, Try.ntmps38
  go_wp2_with fail
  go_ret2
  exact ⟨rfl, rfl⟩
set_option maxHeartbeats 2000000 in
theorem refAt_1_2 (c : Int) (w : World) (h5 : ¬ c < 0) : Calls Try.prog 38 #[.int .i64 1, .int .i64 2, .int .i64 c] w fun e w' => e = .returned (.tuple #[.int .i64 (pk (tb 1 2) 1 (bk c)), .int .i64 (pe (tb 1 2))]) ∧ w = w' := by
  have F1 := refOpen_any 1
  rw [show opB 1 = true by decide] at F1
  rw [show pk (tb 1 2) 1 (bk c) = 7 from rfl, show pe (tb 1 2) = 0 from rfl]
  go_enter Try.func38, Try.ntmps38
  go_wp2_with fail
  refine (F1 _).mono ?_
  rintro e w1 ⟨rfl, rfl⟩
  go_wp2_with fail
  go_ret2
  exact ⟨rfl, rfl⟩
set_option maxHeartbeats 2000000 in
theorem refAt_1_3 (c : Int) (w : World) (h5 : ¬ c < 0) : Calls Try.prog 38 #[.int .i64 1, .int .i64 3, .int .i64 c] w fun e w' => e = .returned (.tuple #[.int .i64 (pk (tb 1 3) 1 (bk c)), .int .i64 (pe (tb 1 3))]) ∧ w = w' := by
  rw [show pk (tb 1 3) 1 (bk c) = 0 from rfl, show pe (tb 1 3) = 200 from rfl]
  go_enter Try.func38, Try.ntmps38
  go_wp2_with fail
  go_ret2
  exact ⟨rfl, rfl⟩
set_option maxHeartbeats 2000000 in
theorem refAt_1_4 (c : Int) (w : World) (h5 : ¬ c < 0) : Calls Try.prog 38 #[.int .i64 1, .int .i64 4, .int .i64 c] w fun e w' => e = .returned (.tuple #[.int .i64 (pk (tb 1 4) 1 (bk c)), .int .i64 (pe (tb 1 4))]) ∧ w = w' := by
  rw [show pk (tb 1 4) 1 (bk c) = 8 from rfl, show pe (tb 1 4) = 0 from rfl]
  go_enter Try.func38, Try.ntmps38
  go_wp2_with fail
  go_ret2
  exact ⟨rfl, rfl⟩
set_option maxHeartbeats 2000000 in
theorem refAt_1_5 (c : Int) (w : World) (h5 : ¬ c < 0) : Calls Try.prog 38 #[.int .i64 1, .int .i64 5, .int .i64 c] w fun e w' => e = .returned (.tuple #[.int .i64 (pk (tb 1 5) 1 (bk c)), .int .i64 (pe (tb 1 5))]) ∧ w = w' := by
  rw [show pk (tb 1 5) 1 (bk c) = 3 from rfl, show pe (tb 1 5) = 0 from rfl]
  go_enter Try.func38, Try.ntmps38
  go_wp2_with fail
  go_ret2
  exact ⟨rfl, rfl⟩
set_option maxHeartbeats 2000000 in
theorem refAt_1_6 (c : Int) (w : World) (h5 : ¬ c < 0) : Calls Try.prog 38 #[.int .i64 1, .int .i64 6, .int .i64 c] w fun e w' => e = .returned (.tuple #[.int .i64 (pk (tb 1 6) 1 (bk c)), .int .i64 (pe (tb 1 6))]) ∧ w = w' := by
  have F1 := refOpen_any 1
  rw [show opB 1 = true by decide] at F1
  rw [show pk (tb 1 6) 1 (bk c) = 6 from rfl, show pe (tb 1 6) = 0 from rfl]
  go_enter Try.func38, Try.ntmps38
  go_wp2_with fail
  refine (F1 _).mono ?_
  rintro e w1 ⟨rfl, rfl⟩
  go_wp2_with fail
  go_ret2
  exact ⟨rfl, rfl⟩
set_option maxHeartbeats 2000000 in
theorem refAt_1_7 (c : Int) (w : World) (h5 : ¬ c < 0) : Calls Try.prog 38 #[.int .i64 1, .int .i64 7, .int .i64 c] w fun e w' => e = .returned (.tuple #[.int .i64 (pk (tb 1 7) 1 (bk c)), .int .i64 (pe (tb 1 7))]) ∧ w = w' := by
  rw [show pk (tb 1 7) 1 (bk c) = 1 from rfl, show pe (tb 1 7) = 0 from rfl]
  go_enter Try.func38, Try.ntmps38
  go_wp2_with fail
  go_ret2
  exact ⟨rfl, rfl⟩
set_option maxHeartbeats 2000000 in
theorem refAt_1_8 (c : Int) (w : World) (h5 : ¬ c < 0) : Calls Try.prog 38 #[.int .i64 1, .int .i64 8, .int .i64 c] w fun e w' => e = .returned (.tuple #[.int .i64 (pk (tb 1 8) 1 (bk c)), .int .i64 (pe (tb 1 8))]) ∧ w = w' := by
  rw [show pk (tb 1 8) 1 (bk c) = 0 from rfl, show pe (tb 1 8) = 200 from rfl]
  go_enter Try.func38, Try.ntmps38
  go_wp2_with fail
  go_ret2
  exact ⟨rfl, rfl⟩
set_option maxHeartbeats 2000000 in
theorem refAt_1_9 (c : Int) (w : World) (h5 : ¬ c < 0) : Calls Try.prog 38 #[.int .i64 1, .int .i64 9, .int .i64 c] w fun e w' => e = .returned (.tuple #[.int .i64 (pk (tb 1 9) 1 (bk c)), .int .i64 (pe (tb 1 9))]) ∧ w = w' := by
  rw [show pk (tb 1 9) 1 (bk c) = 4 from rfl, show pe (tb 1 9) = 0 from rfl]
  go_enter Try.func38, Try.ntmps38
  go_wp2_with fail
  go_ret2
  exact ⟨rfl, rfl⟩
set_option maxHeartbeats 2000000 in
theorem refAt_1_10 (c : Int) (w : World) (h5 : ¬ c < 0) : Calls Try.prog 38 #[.int .i64 1, .int .i64 10, .int .i64 c] w fun e w' => e = .returned (.tuple #[.int .i64 (pk (tb 1 10) 1 (bk c)), .int .i64 (pe (tb 1 10))]) ∧ w = w' := by
  rw [show pk (tb 1 10) 1 (bk c) = 0 from rfl, show pe (tb 1 10) = 200 from rfl]
  go_enter Try.func38, Try.ntmps38
  go_wp2_with fail
  go_ret2
  exact ⟨rfl, rfl⟩
set_option maxHeartbeats 2000000 in
theorem refAt_2_1 (c : Int) (w : World) (h5 : ¬ c < 0) : Calls Try.prog 38 #[.int .i64 2, .int .i64 1, .int .i64 c] w fun e w' => e = .returned (.tuple #[.int .i64 (pk (tb 2 1) 2 (bk c)), .int .i64 (pe (tb 2 1))]) ∧ w = w' := by
  rw [show pk (tb 2 1) 2 (bk c) = 0 from rfl, show pe (tb 2 1) = 200 from rfl]
  go_enter Try.func38, Try.ntmps38
  go_wp2_with fail
  go_ret2
  exact ⟨rfl, rfl⟩
set_option maxHeartbeats 2000000 in
theorem refAt_2_2 (c : Int) (w : World) (h5 : ¬ c < 0) : Calls Try.prog 38 #[.int .i64 2, .int .i64 2, .int .i64 c] w fun e w' => e = .returned (.tuple #[.int .i64 (pk (tb 2 2) 2 (bk c)), .int .i64 (pe (tb 2 2))]) ∧ w = w' := by
  have F1 := refOpen_any 2
  rw [show opB 2 = true by decide] at F1
  rw [show pk (tb 2 2) 2 (bk c) = 7 from rfl, show pe (tb 2 2) = 0 from rfl]
  go_enter Try.func38, Try.ntmps38
  go_wp2_with fail
  refine (F1 _).mono ?_
  rintro e w1 ⟨rfl, rfl⟩
  go_wp2_with fail
  go_ret2
  exact ⟨rfl, rfl⟩
set_option maxHeartbeats 2000000 in
theorem refAt_2_3 (c : Int) (w : World) (h5 : ¬ c < 0) : Calls Try.prog 38 #[.int .i64 2, .int .i64 3, .int .i64 c] w fun e w' => e = .returned (.tuple #[.int .i64 (pk (tb 2 3) 2 (bk c)), .int .i64 (pe (tb 2 3))]) ∧ w = w' := by
  rw [show pk (tb 2 3) 2 (bk c) = 0 from rfl, show pe (tb 2 3) = 200 from rfl]
  go_enter Try.func38, Try.ntmps38
  go_wp2_with fail
  go_ret2
  exact ⟨rfl, rfl⟩
set_option maxHeartbeats 2000000 in
theorem refAt_2_4 (c : Int) (w : World) (h5 : ¬ c < 0) : Calls Try.prog 38 #[.int .i64 2, .int .i64 4, .int .i64 c] w fun e w' => e = .returned (.tuple #[.int .i64 (pk (tb 2 4) 2 (bk c)), .int .i64 (pe (tb 2 4))]) ∧ w = w' := by
  rw [show pk (tb 2 4) 2 (bk c) = 0 from rfl, show pe (tb 2 4) = 200 from rfl]
  go_enter Try.func38, Try.ntmps38
  go_wp2_with fail
  go_ret2
  exact ⟨rfl, rfl⟩
set_option maxHeartbeats 2000000 in
theorem refAt_2_5 (c : Int) (w : World) (h5 : ¬ c < 0) : Calls Try.prog 38 #[.int .i64 2, .int .i64 5, .int .i64 c] w fun e w' => e = .returned (.tuple #[.int .i64 (pk (tb 2 5) 2 (bk c)), .int .i64 (pe (tb 2 5))]) ∧ w = w' := by
  rw [show pk (tb 2 5) 2 (bk c) = 3 from rfl, show pe (tb 2 5) = 0 from rfl]
  go_enter Try.func38, Try.ntmps38
  go_wp2_with fail
  go_ret2
  exact ⟨rfl, rfl⟩
set_option maxHeartbeats 2000000 in
theorem refAt_2_6 (c : Int) (w : World) (h5 : ¬ c < 0) : Calls Try.prog 38 #[.int .i64 2, .int .i64 6, .int .i64 c] w fun e w' => e = .returned (.tuple #[.int .i64 (pk (tb 2 6) 2 (bk c)), .int .i64 (pe (tb 2 6))]) ∧ w = w' := by
  have F1 := refOpen_any 2
  rw [show opB 2 = true by decide] at F1
  rw [show pk (tb 2 6) 2 (bk c) = 6 from rfl, show pe (tb 2 6) = 0 from rfl]
  go_enter Try.func38, Try.ntmps38
  go_wp2_with fail
  refine (F1 _).mono ?_
  rintro e w1 ⟨rfl, rfl⟩
  go_wp2_with fail
  go_ret2
  exact ⟨rfl, rfl⟩
set_option maxHeartbeats 2000000 in
theorem refAt_2_7 (c : Int) (w : World) (h5 : ¬ c < 0) : Calls Try.prog 38 #[.int .i64 2, .int .i64 7, .int .i64 c] w fun e w' => e = .returned (.tuple #[.int .i64 (pk (tb 2 7) 2 (bk c)), .int .i64 (pe (tb 2 7))]) ∧ w = w' := by
  rw [show pk (tb 2 7) 2 (bk c) = 2 from rfl, show pe (tb 2 7) = 0 from rfl]
  go_enter Try.func38, Try.ntmps38
  go_wp2_with fail
  go_ret2
  exact ⟨rfl, rfl⟩
set_option maxHeartbeats 2000000 in
theorem refAt_2_8 (c : Int) (w : World) (h5 : ¬ c < 0) : Calls Try.prog 38 #[.int .i64 2, .int .i64 8, .int .i64 c] w fun e w' => e = .returned (.tuple #[.int .i64 (pk (tb 2 8) 2 (bk c)), .int .i64 (pe (tb 2 8))]) ∧ w = w' := by
  rw [show pk (tb 2 8) 2 (bk c) = 0 from rfl, show pe (tb 2 8) = 200 from rfl]
  go_enter Try.func38, Try.ntmps38
  go_wp2_with fail
  go_ret2
  exact ⟨rfl, rfl⟩
set_option maxHeartbeats 2000000 in
theorem refAt_2_9 (c : Int) (w : World) (h5 : ¬ c < 0) : Calls Try.prog 38 #[.int .i64 2, .int .i64 9, .int .i64 c] w fun e w' => e = .returned (.tuple #[.int .i64 (pk (tb 2 9) 2 (bk c)), .int .i64 (pe (tb 2 9))]) ∧ w = w' := by
  rw [show pk (tb 2 9) 2 (bk c) = 4 from rfl, show pe (tb 2 9) = 0 from rfl]
  go_enter Try.func38, Try.ntmps38
  go_wp2_with fail
  go_ret2
  exact ⟨rfl, rfl⟩
set_option maxHeartbeats 2000000 in
theorem refAt_2_10 (c : Int) (w : World) (h5 : ¬ c < 0) : Calls Try.prog 38 #[.int .i64 2, .int .i64 10, .int .i64 c] w fun e w' => e = .returned (.tuple #[.int .i64 (pk (tb 2 10) 2 (bk c)), .int .i64 (pe (tb 2 10))]) ∧ w = w' := by
  rw [show pk (tb 2 10) 2 (bk c) = 5 from rfl, show pe (tb 2 10) = 0 from rfl]
  go_enter Try.func38, Try.ntmps38
  go_wp2_with fail
  go_ret2
  exact ⟨rfl, rfl⟩
set_option maxHeartbeats 2000000 in
theorem refAt_3_1 (c : Int) (w : World) (h5 : ¬ c < 0) : Calls Try.prog 38 #[.int .i64 3, .int .i64 1, .int .i64 c] w fun e w' => e = .returned (.tuple #[.int .i64 (pk (tb 3 1) 3 (bk c)), .int .i64 (pe (tb 3 1))]) ∧ w = w' := by
  rw [show pk (tb 3 1) 3 (bk c) = 3 from rfl, show pe (tb 3 1) = 0 from rfl]
  go_enter Try.func38, Try.ntmps38
  go_wp2_with fail
  go_ret2
  exact ⟨rfl, rfl⟩
set_option maxHeartbeats 2000000 in
theorem refAt_3_2 (c : Int) (w : World) (h5 : ¬ c < 0) : Calls Try.prog 38 #[.int .i64 3, .int .i64 2, .int .i64 c] w fun e w' => e = .returned (.tuple #[.int .i64 (pk (tb 3 2) 3 (bk c)), .int .i64 (pe (tb 3 2))]) ∧ w = w' := by
  have F1 := refOpen_any 3
  rw [show opB 3 = true by decide] at F1
  rw [show pk (tb 3 2) 3 (bk c) = 7 from rfl, show pe (tb 3 2) = 0 from rfl]
  go_enter Try.func38, Try.ntmps38
  go_wp2_with fail
  refine (F1 _).mono ?_
  rintro e w1 ⟨rfl, rfl⟩
  go_wp2_with fail
  go_ret2
  exact ⟨rfl, rfl⟩
set_option maxHeartbeats 2000000 in
theorem refAt_3_3 (c : Int) (w : World) (h5 : ¬ c < 0) : Calls Try.prog 38 #[.int .i64 3, .int .i64 3, .int .i64 c] w fun e w' => e = .returned (.tuple #[.int .i64 (pk (tb 3 3) 3 (bk c)), .int .i64 (pe (tb 3 3))]) ∧ w = w' := by
  rw [show pk (tb 3 3) 3 (bk c) = 0 from rfl, show pe (tb 3 3) = 200 from rfl]
  go_enter Try.func38, Try.ntmps38
  go_wp2_with fail
  go_ret2
  exact ⟨rfl, rfl⟩
set_option maxHeartbeats 2000000 in
theorem refAt_3_4 (c : Int) (w : World) (h5 : ¬ c < 0) : Calls Try.prog 38 #[.int .i64 3, .int .i64 4, .int .i64 c] w fun e w' => e = .returned (.tuple #[.int .i64 (pk (tb 3 4) 3 (bk c)), .int .i64 (pe (tb 3 4))]) ∧ w = w' := by
  rw [show pk (tb 3 4) 3 (bk c) = 0 from rfl, show pe (tb 3 4) = 200 from rfl]
  go_enter Try.func38, Try.ntmps38
  go_wp2_with fail
  go_ret2
  exact ⟨rfl, rfl⟩
set_option maxHeartbeats 2000000 in
theorem refAt_3_5 (c : Int) (w : World) (h5 : ¬ c < 0) : Calls Try.prog 38 #[.int .i64 3, .int .i64 5, .int .i64 c] w fun e w' => e = .returned (.tuple #[.int .i64 (pk (tb 3 5) 3 (bk c)), .int .i64 (pe (tb 3 5))]) ∧ w = w' := by
  have F1 := refOpen_any 3
  rw [show opB 3 = true by decide] at F1
  rw [show pk (tb 3 5) 3 (bk c) = 3 from rfl, show pe (tb 3 5) = 0 from rfl]
  go_enter Try.func38, Try.ntmps38
  go_wp2_with fail
  refine (F1 _).mono ?_
  rintro e w1 ⟨rfl, rfl⟩
  go_wp2_with fail
  go_ret2
  exact ⟨rfl, rfl⟩
set_option maxHeartbeats 2000000 in
theorem refAt_3_6 (c : Int) (w : World) (h5 : ¬ c < 0) : Calls Try.prog 38 #[.int .i64 3, .int .i64 6, .int .i64 c] w fun e w' => e = .returned (.tuple #[.int .i64 (pk (tb 3 6) 3 (bk c)), .int .i64 (pe (tb 3 6))]) ∧ w = w' := by
  have F1 := refOpen_any 3
  rw [show opB 3 = true by decide] at F1
  rw [show pk (tb 3 6) 3 (bk c) = 6 from rfl, show pe (tb 3 6) = 0 from rfl]
  go_enter Try.func38, Try.ntmps38
  go_wp2_with fail
  refine (F1 _).mono ?_
  rintro e w1 ⟨rfl, rfl⟩
  go_wp2_with fail
  go_ret2
  exact ⟨rfl, rfl⟩
set_option maxHeartbeats 2000000 in
theorem refAt_3_7 (c : Int) (w : World) (h5 : ¬ c < 0) : Calls Try.prog 38 #[.int .i64 3, .int .i64 7, .int .i64 c] w fun e w' => e = .returned (.tuple #[.int .i64 (pk (tb 3 7) 3 (bk c)), .int .i64 (pe (tb 3 7))]) ∧ w = w' := by
  have F1 := refBack_any c
  have hb : (bk c == 0) = false := beq_false_of_ne (by rcases bk_or c with e | e <;> omega)
  have hb' : ¬ bk c = 0 := by rcases bk_or c with e | e <;> omega
  rw [show pk (tb 3 7) 3 (bk c) = bk c from rfl, show pe (tb 3 7) = 0 from rfl]
  generalize bk c = b at *
  go_enter Try.func38, Try.ntmps38
  go_wp2_with fail
  refine (F1 _).mono ?_
  rintro e w1 ⟨rfl, rfl⟩
  go_wp2_with fail
  go_ret2
  exact ⟨rfl, rfl⟩
set_option maxHeartbeats 2000000 in
theorem refAt_3_8 (c : Int) (w : World) (h5 : ¬ c < 0) : Calls Try.prog 38 #[.int .i64 3, .int .i64 8, .int .i64 c] w fun e w' => e = .returned (.tuple #[.int .i64 (pk (tb 3 8) 3 (bk c)), .int .i64 (pe (tb 3 8))]) ∧ w = w' := by
  rw [show pk (tb 3 8) 3 (bk c) = 0 from rfl, show pe (tb 3 8) = 200 from rfl]
  go_enter Try.func38, Try.ntmps38
  go_wp2_with fail
  go_ret2
  exact ⟨rfl, rfl⟩
set_option maxHeartbeats 2000000 in
theorem refAt_3_9 (c : Int) (w : World) (h5 : ¬ c < 0) : Calls Try.prog 38 #[.int .i64 3, .int .i64 9, .int .i64 c] w fun e w' => e = .returned (.tuple #[.int .i64 (pk (tb 3 9) 3 (bk c)), .int .i64 (pe (tb 3 9))]) ∧ w = w' := by
  rw [show pk (tb 3 9) 3 (bk c) = 4 from rfl, show pe (tb 3 9) = 0 from rfl]
  go_enter Try.func38, Try.ntmps38
  go_wp2_with fail
  go_ret2
  exact ⟨rfl, rfl⟩
set_option maxHeartbeats 2000000 in
theorem refAt_3_10 (c : Int) (w : World) (h5 : ¬ c < 0) : Calls Try.prog 38 #[.int .i64 3, .int .i64 10, .int .i64 c] w fun e w' => e = .returned (.tuple #[.int .i64 (pk (tb 3 10) 3 (bk c)), .int .i64 (pe (tb 3 10))]) ∧ w = w' := by
  rw [show pk (tb 3 10) 3 (bk c) = 5 from rfl, show pe (tb 3 10) = 0 from rfl]
  go_enter Try.func38, Try.ntmps38
  go_wp2_with fail
  go_ret2
  exact ⟨rfl, rfl⟩
set_option maxHeartbeats 2000000 in
theorem refAt_4_1 (c : Int) (w : World) (h5 : ¬ c < 0) : Calls Try.prog 38 #[.int .i64 4, .int .i64 1, .int .i64 c] w fun e w' => e = .returned (.tuple #[.int .i64 (pk (tb 4 1) 4 (bk c)), .int .i64 (pe (tb 4 1))]) ∧ w = w' := by
  rw [show pk (tb 4 1) 4 (bk c) = 4 from rfl, show pe (tb 4 1) = 0 from rfl]
  go_enter Try.func38, Try.ntmps38
  go_wp2_with fail
  go_ret2
  exact ⟨rfl, rfl⟩
set_option maxHeartbeats 2000000 in
theorem refAt_4_2 (c : Int) (w : World) (h5 : ¬ c < 0) : Calls Try.prog 38 #[.int .i64 4, .int .i64 2, .int .i64 c] w fun e w' => e = .returned (.tuple #[.int .i64 (pk (tb 4 2) 4 (bk c)), .int .i64 (pe (tb 4 2))]) ∧ w = w' := by
  have F1 := refOpen_any 4
  rw [show opB 4 = true by decide] at F1
  rw [show pk (tb 4 2) 4 (bk c) = 7 from rfl, show pe (tb 4 2) = 0 from rfl]
  go_enter Try.func38, Try.ntmps38
  go_wp2_with fail
  refine (F1 _).mono ?_
  rintro e w1 ⟨rfl, rfl⟩
  go_wp2_with fail
  go_ret2
  exact ⟨rfl, rfl⟩
set_option maxHeartbeats 2000000 in
theorem refAt_4_3 (c : Int) (w : World) (h5 : ¬ c < 0) : Calls Try.prog 38 #[.int .i64 4, .int .i64 3, .int .i64 c] w fun e w' => e = .returned (.tuple #[.int .i64 (pk (tb 4 3) 4 (bk c)), .int .i64 (pe (tb 4 3))]) ∧ w = w' := by
  rw [show pk (tb 4 3) 4 (bk c) = 0 from rfl, show pe (tb 4 3) = 200 from rfl]
  go_enter Try.func38, Try.ntmps38
  go_wp2_with fail
  go_ret2
  exact ⟨rfl, rfl⟩
set_option maxHeartbeats 2000000 in
theorem refAt_4_4 (c : Int) (w : World) (h5 : ¬ c < 0) : Calls Try.prog 38 #[.int .i64 4, .int .i64 4, .int .i64 c] w fun e w' => e = .returned (.tuple #[.int .i64 (pk (tb 4 4) 4 (bk c)), .int .i64 (pe (tb 4 4))]) ∧ w = w' := by
  rw [show pk (tb 4 4) 4 (bk c) = 8 from rfl, show pe (tb 4 4) = 0 from rfl]
  go_enter Try.func38, Try.ntmps38
  go_wp2_with fail
  go_ret2
  exact ⟨rfl, rfl⟩
set_option maxHeartbeats 2000000 in
theorem refAt_4_5 (c : Int) (w : World) (h5 : ¬ c < 0) : Calls Try.prog 38 #[.int .i64 4, .int .i64 5, .int .i64 c] w fun e w' => e = .returned (.tuple #[.int .i64 (pk (tb 4 5) 4 (bk c)), .int .i64 (pe (tb 4 5))]) ∧ w = w' := by
  have F1 := refOpen_any 4
  rw [show opB 4 = true by decide] at F1
  rw [show pk (tb 4 5) 4 (bk c) = 4 from rfl, show pe (tb 4 5) = 0 from rfl]
  go_enter Try.func38, Try.ntmps38
  go_wp2_with fail
  refine (F1 _).mono ?_
  rintro e w1 ⟨rfl, rfl⟩
  go_wp2_with fail
  go_ret2
  exact ⟨rfl, rfl⟩
set_option maxHeartbeats 2000000 in
theorem refAt_4_6 (c : Int) (w : World) (h5 : ¬ c < 0) : Calls Try.prog 38 #[.int .i64 4, .int .i64 6, .int .i64 c] w fun e w' => e = .returned (.tuple #[.int .i64 (pk (tb 4 6) 4 (bk c)), .int .i64 (pe (tb 4 6))]) ∧ w = w' := by
  have F1 := refOpen_any 4
  rw [show opB 4 = true by decide] at F1
  rw [show pk (tb 4 6) 4 (bk c) = 6 from rfl, show pe (tb 4 6) = 0 from rfl]
  go_enter Try.func38, Try.ntmps38
  go_wp2_with fail
  refine (F1 _).mono ?_
  rintro e w1 ⟨rfl, rfl⟩
  go_wp2_with fail
  go_ret2
  exact ⟨rfl, rfl⟩
set_option maxHeartbeats 2000000 in
theorem refAt_4_7 (c : Int) (w : World) (h5 : ¬ c < 0) : Calls Try.prog 38 #[.int .i64 4, .int .i64 7, .int .i64 c] w fun e w' => e = .returned (.tuple #[.int .i64 (pk (tb 4 7) 4 (bk c)), .int .i64 (pe (tb 4 7))]) ∧ w = w' := by
  rw [show pk (tb 4 7) 4 (bk c) = 4 from rfl, show pe (tb 4 7) = 0 from rfl]
  go_enter Try.func38, Try.ntmps38
  go_wp2_with fail
  go_ret2
  exact ⟨rfl, rfl⟩
set_option maxHeartbeats 2000000 in
theorem refAt_4_8 (c : Int) (w : World) (h5 : ¬ c < 0) : Calls Try.prog 38 #[.int .i64 4, .int .i64 8, .int .i64 c] w fun e w' => e = .returned (.tuple #[.int .i64 (pk (tb 4 8) 4 (bk c)), .int .i64 (pe (tb 4 8))]) ∧ w = w' := by
  have F1 := refBack_any c
  have hb : (bk c == 0) = false := beq_false_of_ne (by rcases bk_or c with e | e <;> omega)
  have hb' : ¬ bk c = 0 := by rcases bk_or c with e | e <;> omega
  rw [show pk (tb 4 8) 4 (bk c) = bk c from rfl, show pe (tb 4 8) = 0 from rfl]
  generalize bk c = b at *
  go_enter Try.func38, Try.ntmps38
  go_wp2_with fail
  refine (F1 _).mono ?_
  rintro e w1 ⟨rfl, rfl⟩
  go_wp2_with fail
  go_ret2
  exact ⟨rfl, rfl⟩
set_option maxHeartbeats 2000000 in
theorem refAt_4_9 (c : Int) (w : World) (h5 : ¬ c < 0) : Calls Try.prog 38 #[.int .i64 4, .int .i64 9, .int .i64 c] w fun e w' => e = .returned (.tuple #[.int .i64 (pk (tb 4 9) 4 (bk c)), .int .i64 (pe (tb 4 9))]) ∧ w = w' := by
  rw [show pk (tb 4 9) 4 (bk c) = 0 from rfl, show pe (tb 4 9) = 200 from rfl]
  go_enter Try.func38, Try.ntmps38
  go_wp2_with fail
  go_ret2
  exact ⟨rfl, rfl⟩
set_option maxHeartbeats 2000000 in
theorem refAt_4_10 (c : Int) (w : World) (h5 : ¬ c < 0) : Calls Try.prog 38 #[.int .i64 4, .int .i64 10, .int .i64 c] w fun e w' => e = .returned (.tuple #[.int .i64 (pk (tb 4 10) 4 (bk c)), .int .i64 (pe (tb 4 10))]) ∧ w = w' := by
  rw [show pk (tb 4 10) 4 (bk c) = 0 from rfl, show pe (tb 4 10) = 200 from rfl]
  go_enter Try.func38, Try.ntmps38
  go_wp2_with fail
  go_ret2
  exact ⟨rfl, rfl⟩
set_option maxHeartbeats 2000000 in
theorem refAt_5_1 (c : Int) (w : World) (h5 : ¬ c < 0) : Calls Try.prog 38 #[.int .i64 5, .int .i64 1, .int .i64 c] w fun e w' => e = .returned (.tuple #[.int .i64 (pk (tb 5 1) 5 (bk c)), .int .i64 (pe (tb 5 1))]) ∧ w = w' := by
  rw [show pk (tb 5 1) 5 (bk c) = 0 from rfl, show pe (tb 5 1) = 200 from rfl]
  go_enter Try.func38, Try.ntmps38
  go_wp2_with fail
  go_ret2
  exact ⟨rfl, rfl⟩
set_option maxHeartbeats 2000000 in
theorem refAt_5_2 (c : Int) (w : World) (h5 : ¬ c < 0) : Calls Try.prog 38 #[.int .i64 5, .int .i64 2, .int .i64 c] w fun e w' => e = .returned (.tuple #[.int .i64 (pk (tb 5 2) 5 (bk c)), .int .i64 (pe (tb 5 2))]) ∧ w = w' := by
  have F1 := refOpen_any 5
  rw [show opB 5 = true by decide] at F1
  rw [show pk (tb 5 2) 5 (bk c) = 7 from rfl, show pe (tb 5 2) = 0 from rfl]
  go_enter Try.func38, Try.ntmps38
  go_wp2_with fail
  refine (F1 _).mono ?_
  rintro e w1 ⟨rfl, rfl⟩
  go_wp2_with fail
  go_ret2
  exact ⟨rfl, rfl⟩
set_option maxHeartbeats 2000000 in
theorem refAt_5_3 (c : Int) (w : World) (h5 : ¬ c < 0) : Calls Try.prog 38 #[.int .i64 5, .int .i64 3, .int .i64 c] w fun e w' => e = .returned (.tuple #[.int .i64 (pk (tb 5 3) 5 (bk c)), .int .i64 (pe (tb 5 3))]) ∧ w = w' := by
  have F1 := refBack_any c
  have hb : (bk c == 0) = false := beq_false_of_ne (by rcases bk_or c with e | e <;> omega)
  have hb' : ¬ bk c = 0 := by rcases bk_or c with e | e <;> omega
  rw [show pk (tb 5 3) 5 (bk c) = bk c from rfl, show pe (tb 5 3) = 0 from rfl]
  generalize bk c = b at *
  go_enter Try.func38, Try.ntmps38
  go_wp2_with fail
  refine (F1 _).mono ?_
  rintro e w1 ⟨rfl, rfl⟩
  go_wp2_with fail
  go_ret2
  exact ⟨rfl, rfl⟩
set_option maxHeartbeats 2000000 in
theorem refAt_5_4 (c : Int) (w : World) (h5 : ¬ c < 0) : Calls Try.prog 38 #[.int .i64 5, .int .i64 4, .int .i64 c] w fun e w' => e = .returned (.tuple #[.int .i64 (pk (tb 5 4) 5 (bk c)), .int .i64 (pe (tb 5 4))]) ∧ w = w' := by
  rw [show pk (tb 5 4) 5 (bk c) = 0 from rfl, show pe (tb 5 4) = 200 from rfl]
  go_enter Try.func38, Try.ntmps38
  go_wp2_with fail
  go_ret2
  exact ⟨rfl, rfl⟩
set_option maxHeartbeats 2000000 in
theorem refAt_5_5 (c : Int) (w : World) (h5 : ¬ c < 0) : Calls Try.prog 38 #[.int .i64 5, .int .i64 5, .int .i64 c] w fun e w' => e = .returned (.tuple #[.int .i64 (pk (tb 5 5) 5 (bk c)), .int .i64 (pe (tb 5 5))]) ∧ w = w' := by
  have F1 := refOpen_any 5
  rw [show opB 5 = true by decide] at F1
  rw [show pk (tb 5 5) 5 (bk c) = 5 from rfl, show pe (tb 5 5) = 0 from rfl]
  go_enter Try.func38, Try.ntmps38
  go_wp2_with fail
  refine (F1 _).mono ?_
  rintro e w1 ⟨rfl, rfl⟩
  go_wp2_with fail
  go_ret2
  exact ⟨rfl, rfl⟩
set_option maxHeartbeats 2000000 in
theorem refAt_5_6 (c : Int) (w : World) (h5 : ¬ c < 0) : Calls Try.prog 38 #[.int .i64 5, .int .i64 6, .int .i64 c] w fun e w' => e = .returned (.tuple #[.int .i64 (pk (tb 5 6) 5 (bk c)), .int .i64 (pe (tb 5 6))]) ∧ w = w' := by
  have F1 := refOpen_any 5
  rw [show opB 5 = true by decide] at F1
  rw [show pk (tb 5 6) 5 (bk c) = 6 from rfl, show pe (tb 5 6) = 0 from rfl]
  go_enter Try.func38, Try.ntmps38
  go_wp2_with fail
  refine (F1 _).mono ?_
  rintro e w1 ⟨rfl, rfl⟩
  go_wp2_with fail
  go_ret2
  exact ⟨rfl, rfl⟩
set_option maxHeartbeats 2000000 in
theorem refAt_5_7 (c : Int) (w : World) (h5 : ¬ c < 0) : Calls Try.prog 38 #[.int .i64 5, .int .i64 7, .int .i64 c] w fun e w' => e = .returned (.tuple #[.int .i64 (pk (tb 5 7) 5 (bk c)), .int .i64 (pe (tb 5 7))]) ∧ w = w' := by
  rw [show pk (tb 5 7) 5 (bk c) = 5 from rfl, show pe (tb 5 7) = 0 from rfl]
  go_enter Try.func38, Try.ntmps38
  go_wp2_with fail
  go_ret2
  exact ⟨rfl, rfl⟩
set_option maxHeartbeats 2000000 in
theorem refAt_5_8 (c : Int) (w : World) (h5 : ¬ c < 0) : Calls Try.prog 38 #[.int .i64 5, .int .i64 8, .int .i64 c] w fun e w' => e = .returned (.tuple #[.int .i64 (pk (tb 5 8) 5 (bk c)), .int .i64 (pe (tb 5 8))]) ∧ w = w' := by
  have F1 := refBack_any c
  have hb : (bk c == 0) = false := beq_false_of_ne (by rcases bk_or c with e | e <;> omega)
  have hb' : ¬ bk c = 0 := by rcases bk_or c with e | e <;> omega
  rw [show pk (tb 5 8) 5 (bk c) = bk c from rfl, show pe (tb 5 8) = 0 from rfl]
  generalize bk c = b at *
  go_enter Try.func38, Try.ntmps38
  go_wp2_with fail
  refine (F1 _).mono ?_
  rintro e w1 ⟨rfl, rfl⟩
  go_wp2_with fail
  go_ret2
  exact ⟨rfl, rfl⟩
set_option maxHeartbeats 2000000 in
theorem refAt_5_9 (c : Int) (w : World) (h5 : ¬ c < 0) : Calls Try.prog 38 #[.int .i64 5, .int .i64 9, .int .i64 c] w fun e w' => e = .returned (.tuple #[.int .i64 (pk (tb 5 9) 5 (bk c)), .int .i64 (pe (tb 5 9))]) ∧ w = w' := by
  rw [show pk (tb 5 9) 5 (bk c) = 0 from rfl, show pe (tb 5 9) = 200 from rfl]
  go_enter Try.func38, Try.ntmps38
  go_wp2_with fail
  go_ret2
  exact ⟨rfl, rfl⟩
set_option maxHeartbeats 2000000 in
theorem refAt_5_10 (c : Int) (w : World) (h5 : ¬ c < 0) : Calls Try.prog 38 #[.int .i64 5, .int .i64 10, .int .i64 c] w fun e w' => e = .returned (.tuple #[.int .i64 (pk (tb 5 10) 5 (bk c)), .int .i64 (pe (tb 5 10))]) ∧ w = w' := by
  rw [show pk (tb 5 10) 5 (bk c) = 0 from rfl, show pe (tb 5 10) = 200 from rfl]
  go_enter Try.func38, Try.ntmps38
  go_wp2_with fail
  go_ret2
  exact ⟨rfl, rfl⟩
set_option maxHeartbeats 2000000 in
theorem refAt_6_1 (c : Int) (w : World) (h5 : ¬ c < 0) : Calls Try.prog 38 #[.int .i64 6, .int .i64 1, .int .i64 c] w fun e w' => e = .returned (.tuple #[.int .i64 (pk (tb 6 1) 6 (bk c)), .int .i64 (pe (tb 6 1))]) ∧ w = w' := by
  rw [show pk (tb 6 1) 6 (bk c) = 0 from rfl, show pe (tb 6 1) = 200 from rfl]
  go_enter Try.func38, Try.ntmps38
  go_wp2_with fail
  go_ret2
  exact ⟨rfl, rfl⟩
set_option maxHeartbeats 2000000 in
theorem refAt_6_2 (c : Int) (w : World) (h5 : ¬ c < 0) : Calls Try.prog 38 #[.int .i64 6, .int .i64 2, .int .i64 c] w fun e w' => e = .returned (.tuple #[.int .i64 (pk (tb 6 2) 6 (bk c)), .int .i64 (pe (tb 6 2))]) ∧ w = w' := by
  have F1 := refOpen_any 6
  rw [show opB 6 = false by decide] at F1
  rw [show pk (tb 6 2) 6 (bk c) = 0 from rfl, show pe (tb 6 2) = 200 from rfl]
  go_enter Try.func38, Try.ntmps38
  go_wp2_with fail
  refine (F1 _).mono ?_
  rintro e w1 ⟨rfl, rfl⟩
  go_wp2_with fail
  go_ret2
  exact ⟨rfl, rfl⟩
set_option maxHeartbeats 2000000 in
theorem refAt_6_3 (c : Int) (w : World) (h5 : ¬ c < 0) : Calls Try.prog 38 #[.int .i64 6, .int .i64 3, .int .i64 c] w fun e w' => e = .returned (.tuple #[.int .i64 (pk (tb 6 3) 6 (bk c)), .int .i64 (pe (tb 6 3))]) ∧ w = w' := by
  rw [show pk (tb 6 3) 6 (bk c) = 0 from rfl, show pe (tb 6 3) = 200 from rfl]
  go_enter Try.func38, Try.ntmps38
  go_wp2_with fail
  go_ret2
  exact ⟨rfl, rfl⟩
set_option maxHeartbeats 2000000 in
theorem refAt_6_4 (c : Int) (w : World) (h5 : ¬ c < 0) : Calls Try.prog 38 #[.int .i64 6, .int .i64 4, .int .i64 c] w fun e w' => e = .returned (.tuple #[.int .i64 (pk (tb 6 4) 6 (bk c)), .int .i64 (pe (tb 6 4))]) ∧ w = w' := by
  rw [show pk (tb 6 4) 6 (bk c) = 0 from rfl, show pe (tb 6 4) = 200 from rfl]
  go_enter Try.func38, Try.ntmps38
  go_wp2_with fail
  go_ret2
  exact ⟨rfl, rfl⟩
set_option maxHeartbeats 2000000 in
theorem refAt_6_5 (c : Int) (w : World) (h5 : ¬ c < 0) : Calls Try.prog 38 #[.int .i64 6, .int .i64 5, .int .i64 c] w fun e w' => e = .returned (.tuple #[.int .i64 (pk (tb 6 5) 6 (bk c)), .int .i64 (pe (tb 6 5))]) ∧ w = w' := by
  have F1 := refOpen_any 6
  rw [show opB 6 = false by decide] at F1
  rw [show pk (tb 6 5) 6 (bk c) = 0 from rfl, show pe (tb 6 5) = 200 from rfl]
  go_enter Try.func38, Try.ntmps38
  go_wp2_with fail
  refine (F1 _).mono ?_
  rintro e w1 ⟨rfl, rfl⟩
  go_wp2_with fail
  go_ret2
  exact ⟨rfl, rfl⟩
set_option maxHeartbeats 2000000 in
theorem refAt_6_6 (c : Int) (w : World) (h5 : ¬ c < 0) : Calls Try.prog 38 #[.int .i64 6, .int .i64 6, .int .i64 c] w fun e w' => e = .returned (.tuple #[.int .i64 (pk (tb 6 6) 6 (bk c)), .int .i64 (pe (tb 6 6))]) ∧ w = w' := by
  have F1 := refOpen_any 6
  rw [show opB 6 = false by decide] at F1
  rw [show pk (tb 6 6) 6 (bk c) = 0 from rfl, show pe (tb 6 6) = 200 from rfl]
  go_enter Try.func38, Try.ntmps38
  go_wp2_with fail
  refine (F1 _).mono ?_
  rintro e w1 ⟨rfl, rfl⟩
  go_wp2_with fail
  go_ret2
  exact ⟨rfl, rfl⟩
set_option maxHeartbeats 2000000 in
theorem refAt_6_7 (c : Int) (w : World) (h5 : ¬ c < 0) : Calls Try.prog 38 #[.int .i64 6, .int .i64 7, .int .i64 c] w fun e w' => e = .returned (.tuple #[.int .i64 (pk (tb 6 7) 6 (bk c)), .int .i64 (pe (tb 6 7))]) ∧ w = w' := by
  rw [show pk (tb 6 7) 6 (bk c) = 6 from rfl, show pe (tb 6 7) = 0 from rfl]
  go_enter Try.func38, Try.ntmps38
  go_wp2_with fail
  go_ret2
  exact ⟨rfl, rfl⟩
set_option maxHeartbeats 2000000 in
theorem refAt_6_8 (c : Int) (w : World) (h5 : ¬ c < 0) : Calls Try.prog 38 #[.int .i64 6, .int .i64 8, .int .i64 c] w fun e w' => e = .returned (.tuple #[.int .i64 (pk (tb 6 8) 6 (bk c)), .int .i64 (pe (tb 6 8))]) ∧ w = w' := by
  rw [show pk (tb 6 8) 6 (bk c) = 0 from rfl, show pe (tb 6 8) = 200 from rfl]
  go_enter Try.func38, Try.ntmps38
  go_wp2_with fail
  go_ret2
  exact ⟨rfl, rfl⟩
set_option maxHeartbeats 2000000 in
theorem refAt_6_9 (c : Int) (w : World) (h5 : ¬ c < 0) : Calls Try.prog 38 #[.int .i64 6, .int .i64 9, .int .i64 c] w fun e w' => e = .returned (.tuple #[.int .i64 (pk (tb 6 9) 6 (bk c)), .int .i64 (pe (tb 6 9))]) ∧ w = w' := by
  rw [show pk (tb 6 9) 6 (bk c) = 0 from rfl, show pe (tb 6 9) = 200 from rfl]
  go_enter Try.func38, Try.ntmps38
  go_wp2_with fail
  go_ret2
  exact ⟨rfl, rfl⟩
set_option maxHeartbeats 2000000 in
theorem refAt_6_10 (c : Int) (w : World) (h5 : ¬ c < 0) : Calls Try.prog 38 #[.int .i64 6, .int .i64 10, .int .i64 c] w fun e w' => e = .returned (.tuple #[.int .i64 (pk (tb 6 10) 6 (bk c)), .int .i64 (pe (tb 6 10))]) ∧ w = w' := by
  rw [show pk (tb 6 10) 6 (bk c) = 0 from rfl, show pe (tb 6 10) = 200 from rfl]
  go_enter Try.func38, Try.ntmps38
  go_wp2_with fail
  go_ret2
  exact ⟨rfl, rfl⟩
set_option maxHeartbeats 2000000 in
theorem refAt_7_1 (c : Int) (w : World) (h5 : ¬ c < 0) : Calls Try.prog 38 #[.int .i64 7, .int .i64 1, .int .i64 c] w fun e w' => e = .returned (.tuple #[.int .i64 (pk (tb 7 1) 7 (bk c)), .int .i64 (pe (tb 7 1))]) ∧ w = w' := by
  rw [show pk (tb 7 1) 7 (bk c) = 0 from rfl, show pe (tb 7 1) = 200 from rfl]
  go_enter Try.func38, Try.ntmps38
  go_wp2_with fail
  go_ret2
  exact ⟨rfl, rfl⟩
set_option maxHeartbeats 2000000 in
theorem refAt_7_2 (c : Int) (w : World) (h5 : ¬ c < 0) : Calls Try.prog 38 #[.int .i64 7, .int .i64 2, .int .i64 c] w fun e w' => e = .returned (.tuple #[.int .i64 (pk (tb 7 2) 7 (bk c)), .int .i64 (pe (tb 7 2))]) ∧ w = w' := by
  have F1 := refOpen_any 7
  rw [show opB 7 = false by decide] at F1
  rw [show pk (tb 7 2) 7 (bk c) = 0 from rfl, show pe (tb 7 2) = 200 from rfl]
  go_enter Try.func38, Try.ntmps38
  go_wp2_with fail
  refine (F1 _).mono ?_
  rintro e w1 ⟨rfl, rfl⟩
  go_wp2_with fail
  go_ret2
  exact ⟨rfl, rfl⟩
set_option maxHeartbeats 2000000 in
theorem refAt_7_3 (c : Int) (w : World) (h5 : ¬ c < 0) : Calls Try.prog 38 #[.int .i64 7, .int .i64 3, .int .i64 c] w fun e w' => e = .returned (.tuple #[.int .i64 (pk (tb 7 3) 7 (bk c)), .int .i64 (pe (tb 7 3))]) ∧ w = w' := by
  rw [show pk (tb 7 3) 7 (bk c) = 0 from rfl, show pe (tb 7 3) = 200 from rfl]
  go_enter Try.func38, Try.ntmps38
  go_wp2_with fail
  go_ret2
  exact ⟨rfl, rfl⟩
set_option maxHeartbeats 2000000 in
theorem refAt_7_4 (c : Int) (w : World) (h5 : ¬ c < 0) : Calls Try.prog 38 #[.int .i64 7, .int .i64 4, .int .i64 c] w fun e w' => e = .returned (.tuple #[.int .i64 (pk (tb 7 4) 7 (bk c)), .int .i64 (pe (tb 7 4))]) ∧ w = w' := by
  rw [show pk (tb 7 4) 7 (bk c) = 0 from rfl, show pe (tb 7 4) = 200 from rfl]
  go_enter Try.func38, Try.ntmps38
  go_wp2_with fail
  go_ret2
  exact ⟨rfl, rfl⟩
set_option maxHeartbeats 2000000 in
theorem refAt_7_5 (c : Int) (w : World) (h5 : ¬ c < 0) : Calls Try.prog 38 #[.int .i64 7, .int .i64 5, .int .i64 c] w fun e w' => e = .returned (.tuple #[.int .i64 (pk (tb 7 5) 7 (bk c)), .int .i64 (pe (tb 7 5))]) ∧ w = w' := by
  have F1 := refOpen_any 7
  rw [show opB 7 = false by decide] at F1
  rw [show pk (tb 7 5) 7 (bk c) = 0 from rfl, show pe (tb 7 5) = 200 from rfl]
  go_enter Try.func38, Try.ntmps38
  go_wp2_with fail
  refine (F1 _).mono ?_
  rintro e w1 ⟨rfl, rfl⟩
  go_wp2_with fail
  go_ret2
  exact ⟨rfl, rfl⟩
set_option maxHeartbeats 2000000 in
theorem refAt_7_6 (c : Int) (w : World) (h5 : ¬ c < 0) : Calls Try.prog 38 #[.int .i64 7, .int .i64 6, .int .i64 c] w fun e w' => e = .returned (.tuple #[.int .i64 (pk (tb 7 6) 7 (bk c)), .int .i64 (pe (tb 7 6))]) ∧ w = w' := by
  have F1 := refOpen_any 7
  rw [show opB 7 = false by decide] at F1
  rw [show pk (tb 7 6) 7 (bk c) = 0 from rfl, show pe (tb 7 6) = 200 from rfl]
  go_enter Try.func38, Try.ntmps38
  go_wp2_with fail
  refine (F1 _).mono ?_
  rintro e w1 ⟨rfl, rfl⟩
  go_wp2_with fail
  go_ret2
  exact ⟨rfl, rfl⟩
set_option maxHeartbeats 2000000 in
theorem refAt_7_7 (c : Int) (w : World) (h5 : ¬ c < 0) : Calls Try.prog 38 #[.int .i64 7, .int .i64 7, .int .i64 c] w fun e w' => e = .returned (.tuple #[.int .i64 (pk (tb 7 7) 7 (bk c)), .int .i64 (pe (tb 7 7))]) ∧ w = w' := by
  rw [show pk (tb 7 7) 7 (bk c) = 7 from rfl, show pe (tb 7 7) = 0 from rfl]
  go_enter Try.func38, Try.ntmps38
  go_wp2_with fail
  go_ret2
  exact ⟨rfl, rfl⟩
set_option maxHeartbeats 2000000 in
theorem refAt_7_8 (c : Int) (w : World) (h5 : ¬ c < 0) : Calls Try.prog 38 #[.int .i64 7, .int .i64 8, .int .i64 c] w fun e w' => e = .returned (.tuple #[.int .i64 (pk (tb 7 8) 7 (bk c)), .int .i64 (pe (tb 7 8))]) ∧ w = w' := by
  rw [show pk (tb 7 8) 7 (bk c) = 0 from rfl, show pe (tb 7 8) = 200 from rfl]
  go_enter Try.func38, Try.ntmps38
  go_wp2_with fail
  go_ret2
  exact ⟨rfl, rfl⟩
set_option maxHeartbeats 2000000 in
theorem refAt_7_9 (c : Int) (w : World) (h5 : ¬ c < 0) : Calls Try.prog 38 #[.int .i64 7, .int .i64 9, .int .i64 c] w fun e w' => e = .returned (.tuple #[.int .i64 (pk (tb 7 9) 7 (bk c)), .int .i64 (pe (tb 7 9))]) ∧ w = w' := by
  rw [show pk (tb 7 9) 7 (bk c) = 0 from rfl, show pe (tb 7 9) = 200 from rfl]
  go_enter Try.func38, Try.ntmps38
  go_wp2_with fail
  go_ret2
  exact ⟨rfl, rfl⟩
set_option maxHeartbeats 2000000 in
theorem refAt_7_10 (c : Int) (w : World) (h5 : ¬ c < 0) : Calls Try.prog 38 #[.int .i64 7, .int .i64 10, .int .i64 c] w fun e w' => e = .returned (.tuple #[.int .i64 (pk (tb 7 10) 7 (bk c)), .int .i64 (pe (tb 7 10))]) ∧ w = w' := by
  rw [show pk (tb 7 10) 7 (bk c) = 0 from rfl, show pe (tb 7 10) = 200 from rfl]
  go_enter Try.func38, Try.ntmps38
  go_wp2_with fail
  go_ret2
  exact ⟨rfl, rfl⟩
set_option maxHeartbeats 2000000 in
theorem refAt_8_1 (c : Int) (w : World) (h5 : ¬ c < 0) : Calls Try.prog 38 #[.int .i64 8, .int .i64 1, .int .i64 c] w fun e w' => e = .returned (.tuple #[.int .i64 (pk (tb 8 1) 8 (bk c)), .int .i64 (pe (tb 8 1))]) ∧ w = w' := by
  rw [show pk (tb 8 1) 8 (bk c) = 0 from rfl, show pe (tb 8 1) = 200 from rfl]
  go_enter Try.func38, Try.ntmps38
  go_wp2_with fail
  go_ret2
  exact ⟨rfl, rfl⟩
set_option maxHeartbeats 2000000 in
theorem refAt_8_2 (c : Int) (w : World) (h5 : ¬ c < 0) : Calls Try.prog 38 #[.int .i64 8, .int .i64 2, .int .i64 c] w fun e w' => e = .returned (.tuple #[.int .i64 (pk (tb 8 2) 8 (bk c)), .int .i64 (pe (tb 8 2))]) ∧ w = w' := by
  have F1 := refOpen_any 8
  rw [show opB 8 = false by decide] at F1
  rw [show pk (tb 8 2) 8 (bk c) = 0 from rfl, show pe (tb 8 2) = 200 from rfl]
  go_enter Try.func38, Try.ntmps38
  go_wp2_with fail
  refine (F1 _).mono ?_
  rintro e w1 ⟨rfl, rfl⟩
  go_wp2_with fail
  go_ret2
  exact ⟨rfl, rfl⟩
set_option maxHeartbeats 2000000 in
theorem refAt_8_3 (c : Int) (w : World) (h5 : ¬ c < 0) : Calls Try.prog 38 #[.int .i64 8, .int .i64 3, .int .i64 c] w fun e w' => e = .returned (.tuple #[.int .i64 (pk (tb 8 3) 8 (bk c)), .int .i64 (pe (tb 8 3))]) ∧ w = w' := by
  rw [show pk (tb 8 3) 8 (bk c) = 0 from rfl, show pe (tb 8 3) = 200 from rfl]
  go_enter Try.func38, Try.ntmps38
  go_wp2_with fail
  go_ret2
  exact ⟨rfl, rfl⟩
set_option maxHeartbeats 2000000 in
theorem refAt_8_4 (c : Int) (w : World) (h5 : ¬ c < 0) : Calls Try.prog 38 #[.int .i64 8, .int .i64 4, .int .i64 c] w fun e w' => e = .returned (.tuple #[.int .i64 (pk (tb 8 4) 8 (bk c)), .int .i64 (pe (tb 8 4))]) ∧ w = w' := by
  rw [show pk (tb 8 4) 8 (bk c) = 0 from rfl, show pe (tb 8 4) = 200 from rfl]
  go_enter Try.func38, Try.ntmps38
  go_wp2_with fail
  go_ret2
  exact ⟨rfl, rfl⟩
set_option maxHeartbeats 2000000 in
theorem refAt_8_5 (c : Int) (w : World) (h5 : ¬ c < 0) : Calls Try.prog 38 #[.int .i64 8, .int .i64 5, .int .i64 c] w fun e w' => e = .returned (.tuple #[.int .i64 (pk (tb 8 5) 8 (bk c)), .int .i64 (pe (tb 8 5))]) ∧ w = w' := by
  have F1 := refOpen_any 8
  rw [show opB 8 = false by decide] at F1
  rw [show pk (tb 8 5) 8 (bk c) = 0 from rfl, show pe (tb 8 5) = 200 from rfl]
  go_enter Try.func38, Try.ntmps38
  go_wp2_with fail
  refine (F1 _).mono ?_
  rintro e w1 ⟨rfl, rfl⟩
  go_wp2_with fail
  go_ret2
  exact ⟨rfl, rfl⟩
set_option maxHeartbeats 2000000 in
theorem refAt_8_6 (c : Int) (w : World) (h5 : ¬ c < 0) : Calls Try.prog 38 #[.int .i64 8, .int .i64 6, .int .i64 c] w fun e w' => e = .returned (.tuple #[.int .i64 (pk (tb 8 6) 8 (bk c)), .int .i64 (pe (tb 8 6))]) ∧ w = w' := by
  have F1 := refOpen_any 8
  rw [show opB 8 = false by decide] at F1
  rw [show pk (tb 8 6) 8 (bk c) = 0 from rfl, show pe (tb 8 6) = 200 from rfl]
  go_enter Try.func38, Try.ntmps38
  go_wp2_with fail
  refine (F1 _).mono ?_
  rintro e w1 ⟨rfl, rfl⟩
  go_wp2_with fail
  go_ret2
  exact ⟨rfl, rfl⟩
set_option maxHeartbeats 2000000 in
theorem refAt_8_7 (c : Int) (w : World) (h5 : ¬ c < 0) : Calls Try.prog 38 #[.int .i64 8, .int .i64 7, .int .i64 c] w fun e w' => e = .returned (.tuple #[.int .i64 (pk (tb 8 7) 8 (bk c)), .int .i64 (pe (tb 8 7))]) ∧ w = w' := by
  rw [show pk (tb 8 7) 8 (bk c) = 0 from rfl, show pe (tb 8 7) = 200 from rfl]
  go_enter Try.func38, Try.ntmps38
  go_wp2_with fail
  go_ret2
  exact ⟨rfl, rfl⟩
set_option maxHeartbeats 2000000 in
theorem refAt_8_8 (c : Int) (w : World) (h5 : ¬ c < 0) : Calls Try.prog 38 #[.int .i64 8, .int .i64 8, .int .i64 c] w fun e w' => e = .returned (.tuple #[.int .i64 (pk (tb 8 8) 8 (bk c)), .int .i64 (pe (tb 8 8))]) ∧ w = w' := by
  rw [show pk (tb 8 8) 8 (bk c) = 0 from rfl, show pe (tb 8 8) = 200 from rfl]
  go_enter Try.func38, Try.ntmps38
  go_wp2_with fail
  go_ret2
  exact ⟨rfl, rfl⟩
set_option maxHeartbeats 2000000 in
theorem refAt_8_9 (c : Int) (w : World) (h5 : ¬ c < 0) : Calls Try.prog 38 #[.int .i64 8, .int .i64 9, .int .i64 c] w fun e w' => e = .returned (.tuple #[.int .i64 (pk (tb 8 9) 8 (bk c)), .int .i64 (pe (tb 8 9))]) ∧ w = w' := by
  rw [show pk (tb 8 9) 8 (bk c) = 0 from rfl, show pe (tb 8 9) = 200 from rfl]
  go_enter Try.func38, Try.ntmps38
  go_wp2_with fail
  go_ret2
  exact ⟨rfl, rfl⟩
set_option maxHeartbeats 2000000 in
theorem refAt_8_10 (c : Int) (w : World) (h5 : ¬ c < 0) : Calls Try.prog 38 #[.int .i64 8, .int .i64 10, .int .i64 c] w fun e w' => e = .returned (.tuple #[.int .i64 (pk (tb 8 10) 8 (bk c)), .int .i64 (pe (tb 8 10))]) ∧ w = w' := by
  rw [show pk (tb 8 10) 8 (bk c) = 0 from rfl, show pe (tb 8 10) = 200 from rfl]
  go_enter Try.func38, Try.ntmps38
  go_wp2_with fail
  go_ret2
  exact ⟨rfl, rfl⟩
theorem refNext_any (s v c : Int) (w : World) : Calls Try.prog 38 #[.int .i64 s, .int .i64 v, .int .i64 c] w fun e w' => e = .returned (.tuple #[.int .i64 (nS s v c), .int .i64 (nE s v c)]) ∧ w = w' := by
  by_cases h1 : s < 1
  · rw [(n_bad (show ¬ _ by omega)).1, (n_bad (show ¬ _ by omega)).2]; exact refBad_0 s v c w h1
  by_cases h2 : 8 < s
  · rw [(n_bad (show ¬ _ by omega)).1, (n_bad (show ¬ _ by omega)).2]; exact refBad_1 s v c w h1 h2
  by_cases h3 : v < 1
  · rw [(n_bad (show ¬ _ by omega)).1, (n_bad (show ¬ _ by omega)).2]; exact refBad_2 s v c w h1 h2 h3
  by_cases h4 : 10 < v
  · rw [(n_bad (show ¬ _ by omega)).1, (n_bad (show ¬ _ by omega)).2]; exact refBad_3 s v c w h1 h2 h3 h4
  by_cases h5 : c < 0
  · rw [(n_bad (show ¬ _ by omega)).1, (n_bad (show ¬ _ by omega)).2]; exact refBad_4 s v c w h1 h2 h3 h4 h5
  rw [(n_ok (show 1 ≤ s ∧ s ≤ 8 by omega) (show 1 ≤ v ∧ v ≤ 10 by omega) (show 0 ≤ c by omega)).1, (n_ok (show 1 ≤ s ∧ s ≤ 8 by omega) (show 1 ≤ v ∧ v ≤ 10 by omega) (show 0 ≤ c by omega)).2]
  rcases (show s = 1 ∨ s = 2 ∨ s = 3 ∨ s = 4 ∨ s = 5 ∨ s = 6 ∨ s = 7 ∨ s = 8 by omega) with rfl | rfl | rfl | rfl | rfl | rfl | rfl | rfl
  · rcases (show v = 1 ∨ v = 2 ∨ v = 3 ∨ v = 4 ∨ v = 5 ∨ v = 6 ∨ v = 7 ∨ v = 8 ∨ v = 9 ∨ v = 10 by omega) with rfl | rfl | rfl | rfl | rfl | rfl | rfl | rfl | rfl | rfl
    · exact refAt_1_1 c w h5
    · exact refAt_1_2 c w h5
    · exact refAt_1_3 c w h5
    · exact refAt_1_4 c w h5
    · exact refAt_1_5 c w h5
    · exact refAt_1_6 c w h5
    · exact refAt_1_7 c w h5
    · exact refAt_1_8 c w h5
    · exact refAt_1_9 c w h5
    · exact refAt_1_10 c w h5
  · rcases (show v = 1 ∨ v = 2 ∨ v = 3 ∨ v = 4 ∨ v = 5 ∨ v = 6 ∨ v = 7 ∨ v = 8 ∨ v = 9 ∨ v = 10 by omega) with rfl | rfl | rfl | rfl | rfl | rfl | rfl | rfl | rfl | rfl
    · exact refAt_2_1 c w h5
    · exact refAt_2_2 c w h5
    · exact refAt_2_3 c w h5
    · exact refAt_2_4 c w h5
    · exact refAt_2_5 c w h5
    · exact refAt_2_6 c w h5
    · exact refAt_2_7 c w h5
    · exact refAt_2_8 c w h5
    · exact refAt_2_9 c w h5
    · exact refAt_2_10 c w h5
  · rcases (show v = 1 ∨ v = 2 ∨ v = 3 ∨ v = 4 ∨ v = 5 ∨ v = 6 ∨ v = 7 ∨ v = 8 ∨ v = 9 ∨ v = 10 by omega) with rfl | rfl | rfl | rfl | rfl | rfl | rfl | rfl | rfl | rfl
    · exact refAt_3_1 c w h5
    · exact refAt_3_2 c w h5
    · exact refAt_3_3 c w h5
    · exact refAt_3_4 c w h5
    · exact refAt_3_5 c w h5
    · exact refAt_3_6 c w h5
    · exact refAt_3_7 c w h5
    · exact refAt_3_8 c w h5
    · exact refAt_3_9 c w h5
    · exact refAt_3_10 c w h5
  · rcases (show v = 1 ∨ v = 2 ∨ v = 3 ∨ v = 4 ∨ v = 5 ∨ v = 6 ∨ v = 7 ∨ v = 8 ∨ v = 9 ∨ v = 10 by omega) with rfl | rfl | rfl | rfl | rfl | rfl | rfl | rfl | rfl | rfl
    · exact refAt_4_1 c w h5
    · exact refAt_4_2 c w h5
    · exact refAt_4_3 c w h5
    · exact refAt_4_4 c w h5
    · exact refAt_4_5 c w h5
    · exact refAt_4_6 c w h5
    · exact refAt_4_7 c w h5
    · exact refAt_4_8 c w h5
    · exact refAt_4_9 c w h5
    · exact refAt_4_10 c w h5
  · rcases (show v = 1 ∨ v = 2 ∨ v = 3 ∨ v = 4 ∨ v = 5 ∨ v = 6 ∨ v = 7 ∨ v = 8 ∨ v = 9 ∨ v = 10 by omega) with rfl | rfl | rfl | rfl | rfl | rfl | rfl | rfl | rfl | rfl
    · exact refAt_5_1 c w h5
    · exact refAt_5_2 c w h5
    · exact refAt_5_3 c w h5
    · exact refAt_5_4 c w h5
    · exact refAt_5_5 c w h5
    · exact refAt_5_6 c w h5
    · exact refAt_5_7 c w h5
    · exact refAt_5_8 c w h5
    · exact refAt_5_9 c w h5
    · exact refAt_5_10 c w h5
  · rcases (show v = 1 ∨ v = 2 ∨ v = 3 ∨ v = 4 ∨ v = 5 ∨ v = 6 ∨ v = 7 ∨ v = 8 ∨ v = 9 ∨ v = 10 by omega) with rfl | rfl | rfl | rfl | rfl | rfl | rfl | rfl | rfl | rfl
    · exact refAt_6_1 c w h5
    · exact refAt_6_2 c w h5
    · exact refAt_6_3 c w h5
    · exact refAt_6_4 c w h5
    · exact refAt_6_5 c w h5
    · exact refAt_6_6 c w h5
    · exact refAt_6_7 c w h5
    · exact refAt_6_8 c w h5
    · exact refAt_6_9 c w h5
    · exact refAt_6_10 c w h5
  · rcases (show v = 1 ∨ v = 2 ∨ v = 3 ∨ v = 4 ∨ v = 5 ∨ v = 6 ∨ v = 7 ∨ v = 8 ∨ v = 9 ∨ v = 10 by omega) with rfl | rfl | rfl | rfl | rfl | rfl | rfl | rfl | rfl | rfl
    · exact refAt_7_1 c w h5
    · exact refAt_7_2 c w h5
    · exact refAt_7_3 c w h5
    · exact refAt_7_4 c w h5
    · exact refAt_7_5 c w h5
    · exact refAt_7_6 c w h5
    · exact refAt_7_7 c w h5
    · exact refAt_7_8 c w h5
    · exact refAt_7_9 c w h5
    · exact refAt_7_10 c w h5
  · rcases (show v = 1 ∨ v = 2 ∨ v = 3 ∨ v = 4 ∨ v = 5 ∨ v = 6 ∨ v = 7 ∨ v = 8 ∨ v = 9 ∨ v = 10 by omega) with rfl | rfl | rfl | rfl | rfl | rfl | rfl | rfl | rfl | rfl
    · exact refAt_8_1 c w h5
    · exact refAt_8_2 c w h5
    · exact refAt_8_3 c w h5
    · exact refAt_8_4 c w h5
    · exact refAt_8_5 c w h5
    · exact refAt_8_6 c w h5
    · exact refAt_8_7 c w h5
    · exact refAt_8_8 c w h5
    · exact refAt_8_9 c w h5
    · exact refAt_8_10 c w h5
end Go.Proofs.Ytkkimkhkoiempaa.MA
