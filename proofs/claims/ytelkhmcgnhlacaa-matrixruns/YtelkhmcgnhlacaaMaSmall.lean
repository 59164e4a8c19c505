/-
  Contracts of matrix's Open, Done, isState, isEvent, working, and of the reference's Open, Done, back: for every number.
-/
import Derived.Test.YtelkhmcgnhlacaaMaMath
namespace Go.Proofs.Ytelkhmcgnhlacaa.MA
open Go.ChangeShapes Go.WideShapes Go.ChangeAt Go.RowKit

set_option maxHeartbeats 1000000 in
theorem open_any (s : Int) (w : World) : Calls Try.prog 9 #[.int .i64 s] w fun e w' => e = .returned (.bool (opB s)) ∧ w = w' := by
  obtain ⟨z, hz⟩ : ∃ z, Hid (opB s = z) := ⟨_, rfl⟩
  rw [hz.out]
  by_cases k : 1 ≤ s
  · have hq : Hid (z = decide (s ≤ 5)) := by rw [← hz.out]; show opB s = _; unfold opB; rw [decide_eq_true k, Bool.true_and]
    clear hz
    go_enter Try.func9, Try.ntmps9
    go_wp2_with fail
    go_ret
    exact ⟨by rw [hq.out]; rfl, rfl⟩
  · have hq : Hid (z = false) := by rw [← hz.out]; show opB s = _; unfold opB; rw [decide_eq_false k, Bool.false_and]
    clear hz
    go_enter Try.func9, Try.ntmps9
    go_wp2_with fail
    go_ret
    exact ⟨by rw [hq.out]; rfl, rfl⟩
set_option maxHeartbeats 1000000 in
theorem done_any (s : Int) (w : World) : Calls Try.prog 11 #[.int .i64 s] w fun e w' => e = .returned (.bool (dnB s)) ∧ w = w' := by
  obtain ⟨z, hz⟩ : ∃ z, Hid (dnB s = z) := ⟨_, rfl⟩
  rw [hz.out]
  by_cases k : 6 ≤ s
  · have hq : Hid (z = decide (s ≤ 8)) := by rw [← hz.out]; show dnB s = _; unfold dnB; rw [decide_eq_true k, Bool.true_and]
    clear hz
    go_enter Try.func11, Try.ntmps11
    go_wp2_with fail
    go_ret
    exact ⟨by rw [hq.out]; rfl, rfl⟩
  · have hq : Hid (z = false) := by rw [← hz.out]; show dnB s = _; unfold dnB; rw [decide_eq_false k, Bool.false_and]
    clear hz
    go_enter Try.func11, Try.ntmps11
    go_wp2_with fail
    go_ret
    exact ⟨by rw [hq.out]; rfl, rfl⟩
set_option maxHeartbeats 1000000 in
theorem isState_any (s : Int) (w : World) : Calls Try.prog 15 #[.int .i64 s] w fun e w' => e = .returned (.bool (stB s)) ∧ w = w' := by
  have F1 := open_any s
  have F2 := done_any s
  unfold stB
  generalize opB s = a at *
  generalize dnB s = b at *
  cases a
  · rw [Bool.false_or]
    go_enter Try.func15, Try.ntmps15
    go_wp2_with fail
    refine (F1 _).mono ?_
    rintro e w1 ⟨rfl, rfl⟩
    go_wp2_with fail
    refine (F2 _).mono ?_
    rintro e w1 ⟨rfl, rfl⟩
    go_wp2_with fail
    go_ret
    exact ⟨rfl, rfl⟩
  · rw [Bool.true_or]
    go_enter Try.func15, Try.ntmps15
    go_wp2_with fail
    refine (F1 _).mono ?_
    rintro e w1 ⟨rfl, rfl⟩
    go_wp2_with fail
    go_ret
    exact ⟨rfl, rfl⟩
set_option maxHeartbeats 1000000 in
theorem isEvent_any (s : Int) (w : World) : Calls Try.prog 16 #[.int .i64 s] w fun e w' => e = .returned (.bool (evB s)) ∧ w = w' := by
  obtain ⟨z, hz⟩ : ∃ z, Hid (evB s = z) := ⟨_, rfl⟩
  rw [hz.out]
  by_cases k : 1 ≤ s
  · have hq : Hid (z = decide (s ≤ 10)) := by rw [← hz.out]; show evB s = _; unfold evB; rw [decide_eq_true k, Bool.true_and]
    clear hz
    go_enter Try.func16, Try.ntmps16
    go_wp2_with fail
    go_ret
    exact ⟨by rw [hq.out]; rfl, rfl⟩
  · have hq : Hid (z = false) := by rw [← hz.out]; show evB s = _; unfold evB; rw [decide_eq_false k, Bool.false_and]
    clear hz
    go_enter Try.func16, Try.ntmps16
    go_wp2_with fail
    go_ret
    exact ⟨by rw [hq.out]; rfl, rfl⟩
theorem working_any (c : Int) (w : World) : Calls Try.prog 18 #[.int .i64 c] w fun e w' => e = .returned (.int .i64 (bk c)) ∧ w = w' := by
  unfold bk
  by_cases k : 0 < c
  · rw [if_pos k]
    go_enter Try.func18, Try.ntmps18
    go_wp2_with fail
    go_ret
    exact ⟨rfl, rfl⟩
  · rw [if_neg k]
    go_enter Try.func18, Try.ntmps18
    go_wp2_with fail
    go_ret
    exact ⟨rfl, rfl⟩
theorem refBack_any (c : Int) (w : World) : Calls Try.prog 19 #[.int .i64 c] w fun e w' => e = .returned (.int .i64 (bk c)) ∧ w = w' := by
  unfold bk
  by_cases k : 0 < c
  · rw [if_pos k]
    go_enter Try.func19, Try.ntmps19
    go_wp2_with fail
    go_ret
    exact ⟨rfl, rfl⟩
  · rw [if_neg k]
    go_enter Try.func19, Try.ntmps19
    go_wp2_with fail
    go_ret
    exact ⟨rfl, rfl⟩
set_option maxHeartbeats 1000000 in
theorem refOpen_any (s : Int) (w : World) : Calls Try.prog 10 #[.int .i64 s] w fun e w' => e = .returned (.bool (opB s)) ∧ w = w' := by
  obtain ⟨z, hz⟩ : ∃ z, Hid (opB s = z) := ⟨_, rfl⟩
  rw [hz.out]
  by_cases k : 1 ≤ s
  · have hq : Hid (z = decide (s ≤ 5)) := by rw [← hz.out]; show opB s = _; unfold opB; rw [decide_eq_true k, Bool.true_and]
    clear hz
    go_enter Try.func10, Try.ntmps10
    go_wp2_with fail
    go_ret
    exact ⟨by rw [hq.out]; rfl, rfl⟩
  · have hq : Hid (z = false) := by rw [← hz.out]; show opB s = _; unfold opB; rw [decide_eq_false k, Bool.false_and]
    clear hz
    go_enter Try.func10, Try.ntmps10
    go_wp2_with fail
    go_ret
    exact ⟨by rw [hq.out]; rfl, rfl⟩
set_option maxHeartbeats 1000000 in
theorem refDone_any (s : Int) (w : World) : Calls Try.prog 12 #[.int .i64 s] w fun e w' => e = .returned (.bool (dnB s)) ∧ w = w' := by
  obtain ⟨z, hz⟩ : ∃ z, Hid (dnB s = z) := ⟨_, rfl⟩
  rw [hz.out]
  by_cases k : 6 ≤ s
  · have hq : Hid (z = decide (s ≤ 8)) := by rw [← hz.out]; show dnB s = _; unfold dnB; rw [decide_eq_true k, Bool.true_and]
    clear hz
    go_enter Try.func12, Try.ntmps12
    go_wp2_with fail
    go_ret
    exact ⟨by rw [hq.out]; rfl, rfl⟩
  · have hq : Hid (z = false) := by rw [← hz.out]; show dnB s = _; unfold dnB; rw [decide_eq_false k, Bool.false_and]
    clear hz
    go_enter Try.func12, Try.ntmps12
    go_wp2_with fail
    go_ret
    exact ⟨by rw [hq.out]; rfl, rfl⟩
end Go.Proofs.Ytelkhmcgnhlacaa.MA
