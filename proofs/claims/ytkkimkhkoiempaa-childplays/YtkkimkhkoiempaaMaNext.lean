/-
  Contract of matrix's Next: for every state, event and number. And the statements' own awake.
-/
import Derived.Test.YtkkimkhkoiempaaMaTable
namespace Go.Proofs.Ytkkimkhkoiempaa.MA
open Go.ChangeShapes Go.WideShapes Go.ChangeAt Go.RowKit

theorem row_at {s : Int} (hs : 1 ≤ s ∧ s ≤ 8) (w : World) : (Instr.index 69 (.agg tabA) (.int .i64 s)).run Try.prog w = .ok (.agg (rowA s)) w := by
  rcases (show s = 1 ∨ s = 2 ∨ s = 3 ∨ s = 4 ∨ s = 5 ∨ s = 6 ∨ s = 7 ∨ s = 8 by omega) with rfl | rfl | rfl | rfl | rfl | rfl | rfl | rfl <;> kernel_rfl
theorem place_at {s v : Int} (hs : 1 ≤ s ∧ s ≤ 8) (hv : 1 ≤ v ∧ v ≤ 10) (w : World) : (Instr.index 68 (.agg (rowA s)) (.int .i64 v)).run Try.prog w = .ok (.int .i64 (tb s v)) w := by
  rcases (show s = 1 ∨ s = 2 ∨ s = 3 ∨ s = 4 ∨ s = 5 ∨ s = 6 ∨ s = 7 ∨ s = 8 by omega) with rfl | rfl | rfl | rfl | rfl | rfl | rfl | rfl <;>
    rcases (show v = 1 ∨ v = 2 ∨ v = 3 ∨ v = 4 ∨ v = 5 ∨ v = 6 ∨ v = 7 ∨ v = 8 ∨ v = 9 ∨ v = 10 by omega) with rfl | rfl | rfl | rfl | rfl | rfl | rfl | rfl | rfl | rfl <;> kernel_rfl
set_option maxHeartbeats 4000000 in
theorem next_bad (s v c : Int) (w : World) (h : ¬ ((1 ≤ s ∧ s ≤ 8) ∧ (1 ≤ v ∧ v ≤ 10) ∧ 0 ≤ c)) :
    Calls Try.prog 41 #[.int .i64 s, .int .i64 v, .int .i64 c] w fun e w' => e = .returned (.tuple #[.int .i64 0, .int .i64 2]) ∧ Below w.heap.size w w' := by
  have F1 := isState_any s
  have F2 := isEvent_any v
  by_cases k1 : 1 ≤ s ∧ s ≤ 8
  · rw [(st_iff s).2 k1] at F1
    by_cases k2 : 1 ≤ v ∧ v ≤ 10
    · rw [(ev_iff v).2 k2] at F2
      have k3 : c < 0 := by omega
      clear h k1 k2
      go_enter Try.func41, Try.ntmps41
      go_wp2_with fail
      refine (F1 _).mono ?_
      rintro e w1 ⟨rfl, rfl⟩
      go_wp2_with fail
      refine (F2 _).mono ?_
      rintro e w1 ⟨rfl, rfl⟩
      go_wp2_with fail
      go_ret2
      exact ⟨rfl, Below.refl _ _⟩
    · rw [Bool.eq_false_iff.2 (fun e => k2 ((ev_iff v).1 e))] at F2
      clear h k1 k2
      go_enter Try.func41, Try.ntmps41
      go_wp2_with fail
      refine (F1 _).mono ?_
      rintro e w1 ⟨rfl, rfl⟩
      go_wp2_with fail
      refine (F2 _).mono ?_
      rintro e w1 ⟨rfl, rfl⟩
      go_wp2_with fail
      go_ret2
      exact ⟨rfl, Below.refl _ _⟩
  · rw [Bool.eq_false_iff.2 (fun e => k1 ((st_iff s).1 e))] at F1
    clear h k1 F2
    go_enter Try.func41, Try.ntmps41
    go_wp2_with fail
    refine (F1 _).mono ?_
    rintro e w1 ⟨rfl, rfl⟩
    go_wp2_with fail
    go_ret2
    exact ⟨rfl, Below.refl _ _⟩
set_option maxHeartbeats 4000000 in
theorem next_good (s v c : Int) (w : World) (hs : 1 ≤ s ∧ s ≤ 8) (hv : 1 ≤ v ∧ v ≤ 10) (hc : 0 ≤ c) :
    Calls Try.prog 41 #[.int .i64 s, .int .i64 v, .int .i64 c] w fun e w' => e = .returned (.tuple #[.int .i64 (pk (tb s v) s (bk c)), .int .i64 (pe (tb s v))]) ∧ Below w.heap.size w w' := by
  have F1 := isState_any s
  have F2 := isEvent_any v
  have F3 := table_any w
  have F4 := working_any c
  rw [(st_iff s).2 hs] at F1
  rw [(ev_iff v).2 hv] at F2
  have e1 := row_at hs
  have e2 := place_at hs hv
  have k3 : ¬ c < 0 := by omega
  generalize rowA s = r at *
  generalize tb s v = t at *
  generalize bk c = b at *
  clear hs hv hc
  unfold pk pe
  by_cases t0 : t = 0
  · subst t0
    rw [if_pos rfl, if_pos rfl]
    go_enter Try.func41, Try.ntmps41
    go_wp2_with fail
    refine (F1 _).mono ?_
    rintro e w1 ⟨rfl, rfl⟩
    go_wp2_with fail
    refine (F2 _).mono ?_
    rintro e w1 ⟨rfl, rfl⟩
    go_wp2_with fail
    refine F3.mono ?_
    rintro e w1 ⟨rfl, hb⟩
    go_wp2_with fail
    go_ret2
    exact ⟨rfl, hb⟩
  · have q0 : (t == 0) = false := beq_false_of_ne t0
    rw [if_neg t0, if_neg t0]
    by_cases t1 : t = -1
    · subst t1
      rw [if_pos rfl]
      go_enter Try.func41, Try.ntmps41
      go_wp2_with fail
      refine (F1 _).mono ?_
      rintro e w1 ⟨rfl, rfl⟩
      go_wp2_with fail
      refine (F2 _).mono ?_
      rintro e w1 ⟨rfl, rfl⟩
      go_wp2_with fail
      refine F3.mono ?_
      rintro e w1 ⟨rfl, hb⟩
      go_wp2_with fail
      go_ret2
      exact ⟨rfl, hb⟩
    · have q1 : (t == -1) = false := beq_false_of_ne t1
      rw [if_neg t1]
      by_cases t2 : t = -2
      · subst t2
        rw [if_pos rfl]
        go_enter Try.func41, Try.ntmps41
        go_wp2_with fail
        refine (F1 _).mono ?_
        rintro e w1 ⟨rfl, rfl⟩
        go_wp2_with fail
        refine (F2 _).mono ?_
        rintro e w1 ⟨rfl, rfl⟩
        go_wp2_with fail
        refine F3.mono ?_
        rintro e w1 ⟨rfl, hb⟩
        go_wp2_with fail
        refine (F4 _).mono ?_
        rintro e w2 ⟨rfl, rfl⟩
        go_wp2_with fail
        go_ret2
        exact ⟨rfl, hb⟩
      · have q2 : (t == -2) = false := beq_false_of_ne t2
        rw [if_neg t2]
        go_enter Try.func41, Try.ntmps41
        go_wp2_with fail
        refine (F1 _).mono ?_
        rintro e w1 ⟨rfl, rfl⟩
        go_wp2_with fail
        refine (F2 _).mono ?_
        rintro e w1 ⟨rfl, rfl⟩
        go_wp2_with fail
        refine F3.mono ?_
        rintro e w1 ⟨rfl, hb⟩
        go_wp2_with fail
        go_ret2
        exact ⟨rfl, hb⟩
theorem next_any (s v c : Int) (w : World) :
    Calls Try.prog 41 #[.int .i64 s, .int .i64 v, .int .i64 c] w fun e w' => e = .returned (.tuple #[.int .i64 (nS s v c), .int .i64 (nE s v c)]) ∧ Below w.heap.size w w' := by
  by_cases k : (1 ≤ s ∧ s ≤ 8) ∧ (1 ≤ v ∧ v ≤ 10) ∧ 0 ≤ c
  · rw [(n_ok k.1 k.2.1 k.2.2).1, (n_ok k.1 k.2.1 k.2.2).2]
    exact next_good s v c w k.1 k.2.1 k.2.2
  · rw [(n_bad k).1, (n_bad k).2]
    exact next_bad s v c w k
end Go.Proofs.Ytkkimkhkoiempaa.MA
