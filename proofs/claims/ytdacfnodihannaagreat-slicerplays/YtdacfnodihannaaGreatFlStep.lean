/-
  Contracts of package flow's into, within and Target, for every input, and of the statements' awake.
-/
import Derived.Lib.MinMax
import Derived.Test.YtdacfnodihannaaGreatFlMath
namespace Go.Proofs.YtdacfnodihannaaGreat.FL
open Go.ChangeShapes Go.WideShapes Go.ChangeAt Go.RowKit

theorem into_any (n least most : Int) (w : World) : Calls Tryz.prog 64 #[.int .i64 n, .int .i64 least, .int .i64 most] w fun e w' => e = .returned (.int .i64 (toIn n least most)) ∧ w = w' := by
  unfold toIn
  go_enter Tryz.func64, Tryz.ntmps64
  go_wp2
  go_ret
  exact ⟨rfl, rfl⟩
theorem within_any (n least most : Int) (h : least ≤ most) (w : World) : Calls Tryz.prog 62 #[.int .i64 n, .int .i64 least, .int .i64 most] w fun e w' => e = .returned (.bool (inB n least most)) ∧ w = w' := by
  have F := fun w => into_any n least most w
  rw [← toIn_eq h]
  generalize toIn n least most = x at *
  clear h
  go_enter Tryz.func62, Tryz.ntmps62
  go_wp2_with fail
  refine (F _).mono ?_
  rintro e w1 ⟨rfl, rfl⟩
  go_wp2_with fail
  go_ret
  exact ⟨rfl, rfl⟩
set_option maxHeartbeats 1000000 in
theorem target_any (q r v : Int) (w : World) : Calls Tryz.prog 45 #[.int .i64 q, .int .i64 r, .int .i64 v] w fun e w' => e = .returned (.tuple #[.int .i64 (tgN q r v), .int .i64 (tgE q r v)]) ∧ Below w.heap.size w w' := by
  have F1 := fun w => within_any q 0 1099511627776 (by omega) w
  have F2 := fun w => within_any r 0 10000 (by omega) w
  have F3 := fun w => within_any v 0 4611686018427387904 (by omega) w
  unfold tgN tgE
  cases hf : fineB q r v
  · simp only [Bool.false_eq_true, if_false]
    unfold fineB at hf
    cases h1 : inB q 0 1099511627776
    · rw [h1] at F1
      clear hf F2 F3 h1
      go_enter Tryz.func45, Tryz.ntmps45
      go_wp2_with fail
      refine (F1 _).mono ?_
      rintro e w1 ⟨rfl, rfl⟩
      go_wp2_with fail
      go_ret2
      exact ⟨rfl, Below.refl _ _⟩
    · rw [h1] at F1 hf
      rw [Bool.true_and] at hf
      cases h2 : inB r 0 10000
      · rw [h2] at F2
        clear hf F3 h1 h2
        go_enter Tryz.func45, Tryz.ntmps45
        go_wp2_with fail
        refine (F1 _).mono ?_
        rintro e w1 ⟨rfl, rfl⟩
        go_wp2_with fail
        refine (F2 _).mono ?_
        rintro e w1 ⟨rfl, rfl⟩
        go_wp2_with fail
        go_ret2
        exact ⟨rfl, Below.refl _ _⟩
      · rw [h2] at F2 hf
        rw [Bool.true_and] at hf
        rw [hf] at F3
        clear hf h1 h2
        go_enter Tryz.func45, Tryz.ntmps45
        go_wp2_with fail
        refine (F1 _).mono ?_
        rintro e w1 ⟨rfl, rfl⟩
        go_wp2_with fail
        refine (F2 _).mono ?_
        rintro e w1 ⟨rfl, rfl⟩
        go_wp2_with fail
        refine (F3 _).mono ?_
        rintro e w1 ⟨rfl, rfl⟩
        go_wp2_with fail
        go_ret2
        exact ⟨rfl, Below.refl _ _⟩
  · have h := fine_of hf
    have pb := part_bd h
    have q0 := h.q0
    rw [inB_yes h.q0 h.q1] at F1
    rw [inB_yes h.r0 h.r1] at F2
    rw [inB_yes h.v0 h.v1] at F3
    have F4 := fun w => downs v r 10000 _ rfl w (by have := h.v0; omega) (by have := h.v1; omega) (by have := h.r0; omega) (by have := h.r1; omega) (by omega) (by omega) (by decide)
    have ha := ans_in (vol r v) (by omega)
    rw [part_frac h, ha.1, ha.2] at F4
    have F5 := fun w => into_any (vol r v) 0 q w
    rw [show toIn (vol r v) 0 q = min (vol r v) q by unfold toIn; omega] at F5
    simp only [if_true]
    clear hf h ha
    generalize min (vol r v) q = m at *
    generalize vol r v = p at *
    clear pb
    go_enter Tryz.func45, Tryz.ntmps45
    go_wp2_with fail
    refine (F1 _).mono ?_
    rintro e w1 ⟨rfl, rfl⟩
    go_wp2_with fail
    refine (F2 _).mono ?_
    rintro e w1 ⟨rfl, rfl⟩
    go_wp2_with fail
    refine (F3 _).mono ?_
    rintro e w1 ⟨rfl, rfl⟩
    go_wp2_with fail
    refine (F4 _).mono ?_
    rintro e w1 ⟨rfl, hb⟩
    go_wp2_with fail
    refine (F5 _).mono ?_
    rintro e w2 ⟨rfl, rfl⟩
    go_wp2_with fail
    go_ret2
    exact ⟨rfl, hb⟩
end Go.Proofs.YtdacfnodihannaaGreat.FL
