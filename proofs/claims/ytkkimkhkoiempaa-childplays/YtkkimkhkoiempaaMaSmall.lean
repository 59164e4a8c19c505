/-
  Contracts of matrix's Open, Done, isState, isEvent, working, and of the reference's Open, Done, back: for every number.
-/
import Derived.Test.YtkkimkhkoiempaaMaMath
namespace Go.Proofs.Ytkkimkhkoiempaa.MA
open Go.ChangeShapes Go.WideShapes Go.ChangeAt Go.RowKit

set_option maxHeartbeats 1000000 in
theorem open_any (s : Int) (w : World) : Calls Try.prog 35 #[.int .i64 s] w fun e w' => e = .returned (.bool (opB s)) ∧ w = w' := by
  obtain ⟨z, hz⟩ : ∃ z, Hid (opB s = z) := ⟨_, rfl⟩
  rw [hz.out]
  by_cases k : 1 ≤ s
  · have hq : Hid (z = decide (s ≤ 5)) := by rw [← hz.out]; show opB s = _; unfold opB; rw [decide_eq_true k, Bool.true_and]
    clear hz
    go_enter Try.func35, Try.ntmps35
    go_wp2_with fail
    go_ret
    exact ⟨by rw [hq.out]; rfl, rfl⟩
  · have hq : Hid (z = false) := by rw [← hz.out]; show opB s = _; unfold opB; rw [decide_eq_false k, Bool.false_and]
    clear hz
    go_enter Try.func35, Try.ntmps35
    go_wp2_with fail
    go_ret
    exact ⟨by rw [hq.out]; rfl, rfl⟩
set_option maxHeartbeats 1000000 in
theorem done_any (s : Int) (w : World) : Calls Try.prog 49 #[.int .i64 s] w fun e w' => e = .returned (.bool (dnB s)) ∧ w = w' := by
  obtain ⟨z, hz⟩ : ∃ z, Hid (dnB s = z) := ⟨_, rfl⟩
  rw [hz.out]
  by_cases k : 6 ≤ s
  · have hq : Hid (z = decide (s ≤ 8)) := by rw [← hz.out]; show dnB s = _; unfold dnB; rw [decide_eq_true k, Bool.true_and]
    clear hz
    go_enter Try.func49, Try.ntmps49
    go_wp2_with fail
    go_ret
    exact ⟨by rw [hq.out]; rfl, rfl⟩
  · have hq : Hid (z = false) := by rw [← hz.out]; show dnB s = _; unfold dnB; rw [decide_eq_false k, Bool.false_and]
    clear hz
    go_enter Try.func49, Try.ntmps49
    go_wp2_with fail
    go_ret
    exact ⟨by rw [hq.out]; rfl, rfl⟩
set_option maxHeartbeats 1000000 in
theorem isState_any (s : Int) (w : World) : Calls Try.prog 45 #[.int .i64 s] w fun e w' => e = .returned (.bool (stB s)) ∧ w = w' := by
  have F1 := open_any s
  have F2 := done_any s
  unfold stB
  generalize opB s = a at *
  generalize dnB s = b at *
  cases a
  · rw [Bool.false_or]
    go_enter Try.func45, Try.ntmps45
    go_wp2_with fail
    refine (F1 _).mono ?_
    rintro e w1 ⟨rfl, rfl⟩
    go_wp2_with fail
    refine (F2 _).mono ?_
    rintro e w1 ⟨rfl, rfl⟩
    go_wp2_with fail
    go_ret
    exact ⟨rfl, rfl⟩
  · rw [Bool.true_or]
    go_enter Try.func45, Try.ntmps45
    go_wp2_with fail
    refine (F1 _).mono ?_
    rintro e w1 ⟨rfl, rfl⟩
    go_wp2_with fail
    go_ret
    exact ⟨rfl, rfl⟩
set_option maxHeartbeats 1000000 in
theorem isEvent_any (s : Int) (w : World) : Calls Try.prog 46 #[.int .i64 s] w fun e w' => e = .returned (.bool (evB s)) ∧ w = w' := by
  obtain ⟨z, hz⟩ : ∃ z, Hid (evB s = z) := ⟨_, rfl⟩
  rw [hz.out]
  by_cases k : 1 ≤ s
  · have hq : Hid (z = decide (s ≤ 10)) := by rw [← hz.out]; show evB s = _; unfold evB; rw [decide_eq_true k, Bool.true_and]
    clear hz
    go_enter Try.func46, Try.ntmps46
    go_wp2_with fail
    go_ret
    exact ⟨by rw [hq.out]; rfl, rfl⟩
  · have hq : Hid (z = false) := by rw [← hz.out]; show evB s = _; unfold evB; rw [decide_eq_false k, Bool.false_and]
    clear hz
    go_enter Try.func46, Try.ntmps46
    go_wp2_with fail
    go_ret
    exact ⟨by rw [hq.out]; rfl, rfl⟩
theorem working_any (c : Int) (w : World) : Calls Try.prog 48 #[.int .i64 c] w fun e w' => e = .returned (.int .i64 (bk c)) ∧ w = w' := by
  unfold bk
  by_cases k : 0 < c
  · rw [if_pos k]
    go_enter Try.func48, Try.ntmps48
    go_wp2_with fail
    go_ret
    exact ⟨rfl, rfl⟩
  · rw [if_neg k]
    go_enter Try.func48, Try.ntmps48
    go_wp2_with fail
    go_ret
    exact ⟨rfl, rfl⟩
theorem refBack_any (c : Int) (w : World) : Calls Try.prog 43 #[.int .i64 c] w fun e w' => e = .returned (.int .i64 (bk c)) ∧ w = w' := by
  unfold bk
  by_cases k : 0 < c
  · rw [if_pos k]
    go_enter Try.func43, Try.ntmps43
    go_wp2_with fail
    go_ret
    exact ⟨rfl, rfl⟩
  · rw [if_neg k]
    go_enter Try.func43, Try.ntmps43
    go_wp2_with fail
    go_ret
    exact ⟨rfl, rfl⟩
set_option maxHeartbeats 1000000 in
theorem refOpen_any (s : Int) (w : World) : Calls Try.prog 14 #[.int .i64 s] w fun e w' => e = .returned (.bool (opB s)) ∧ w = w' := by
  obtain ⟨z, hz⟩ : ∃ z, Hid (opB s = z) := ⟨_, rfl⟩
  rw [hz.out]
  by_cases k : 1 ≤ s
  · have hq : Hid (z = decide (s ≤ 5)) := by rw [← hz.out]; show opB s = _; unfold opB; rw [decide_eq_true k, Bool.true_and]
    clear hz
    go_enter Try.func14, Try.ntmps14
    go_wp2_with fail
    go_ret
    exact ⟨by rw [hq.out]; rfl, rfl⟩
  · have hq : Hid (z = false) := by rw [← hz.out]; show opB s = _; unfold opB; rw [decide_eq_false k, Bool.false_and]
    clear hz
    go_enter Try.func14, Try.ntmps14
    go_wp2_with fail
    go_ret
    exact ⟨by rw [hq.out]; rfl, rfl⟩
set_option maxHeartbeats 1000000 in
theorem refDone_any (s : Int) (w : World) : Calls Try.prog 44 #[.int .i64 s] w fun e w' => e = .returned (.bool (dnB s)) ∧ w = w' := by
  obtain ⟨z, hz⟩ : ∃ z, Hid (dnB s = z) := ⟨_, rfl⟩
  rw [hz.out]
  by_cases k : 6 ≤ s
  · have hq : Hid (z = decide (s ≤ 8)) := by rw [← hz.out]; show dnB s = _; unfold dnB; rw [decide_eq_true k, Bool.true_and]
    clear hz
    go_enter Try.func44, Try.ntmps44
    go_wp2_with fail
    go_ret
    exact ⟨by rw [hq.out]; rfl, rfl⟩
  · have hq : Hid (z = false) := by rw [← hz.out]; show dnB s = _; unfold dnB; rw [decide_eq_false k, Bool.false_and]
    clear hz
    go_enter Try.func44, Try.ntmps44
    go_wp2_with fail
    go_ret
    exact ⟨by rw [hq.out]; rfl, rfl⟩
end Go.Proofs.Ytkkimkhkoiempaa.MA
