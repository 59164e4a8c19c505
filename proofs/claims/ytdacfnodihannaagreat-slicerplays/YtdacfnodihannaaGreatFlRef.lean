/-
  Contracts of the reference of layer 25: in, Print (over a list of numbers), Target.
-/
import Derived.Test.YtdacfnodihannaaGreatFlMath
import Derived.Test.YtdacfnodihannaaGreatKC
namespace Go.Proofs.YtdacfnodihannaaGreat.FL
open Go.ChangeShapes Go.WideShapes Go.ChangeAt Go.RowKit Go.Lib

theorem inR_any (n low high : Int) (w : World) : Calls Tryz.prog 52 #[.int .i64 n, .int .i64 low, .int .i64 high] w fun e w' => e = .returned (.bool (inB n low high)) ∧ w = w' := by
  unfold inB
  by_cases h1 : low ≤ n
  · by_cases h2 : n ≤ high
    · rw [decide_eq_true ⟨h1, h2⟩]
      go_enter Tryz.func52, Tryz.ntmps52
      go_wp2
      go_ret
      exact ⟨rfl, rfl⟩
    · rw [decide_eq_false (fun k => h2 k.2)]
      go_enter Tryz.func52, Tryz.ntmps52
      go_wp2
      go_ret
      exact ⟨rfl, rfl⟩
  · rw [decide_eq_false (fun k => h1 k.1)]
    go_enter Tryz.func52, Tryz.ntmps52
    go_wp2
    go_ret
    exact ⟨rfl, rfl⟩
set_option maxHeartbeats 1000000 in
theorem targetR_any (q r v : Int) (w : World) : Calls Tryz.prog 27 #[.int .i64 q, .int .i64 r, .int .i64 v] w fun e w' => e = .returned (.tuple #[.int .i64 (tgN q r v), .int .i64 (tgE q r v)]) ∧ Below w.heap.size w w' := by
  have F1 := fun w => inR_any q 0 1099511627776 w
  have F2 := fun w => inR_any r 0 10000 w
  have F3 := fun w => inR_any v 0 4611686018427387904 w
  unfold tgN tgE
  cases hf : fineB q r v
  · simp only [Bool.false_eq_true, if_false]
    unfold fineB at hf
    cases h1 : inB q 0 1099511627776
    · rw [h1] at F1
      clear hf F2 F3 h1
      go_enter Tryz.func27, Tryz.ntmps27
      go_wp2_with fail
      refine (F1 _).mono ?_
      rintro e w1 ⟨rfl, rfl⟩
      go_wp2_with fail
      go_ret2
      exact ⟨rfl, Below.refl _ _⟩
    · rw [h1] at F1 hf
      rw [Bool.true_and] at hf
      cases h2 : inB r 0 10000
      · rw [h2] at F2
        clear hf F3 h1 h2
        go_enter Tryz.func27, Tryz.ntmps27
        go_wp2_with fail
        refine (F1 _).mono ?_
        rintro e w1 ⟨rfl, rfl⟩
        go_wp2_with fail
        refine (F2 _).mono ?_
        rintro e w1 ⟨rfl, rfl⟩
        go_wp2_with fail
        go_ret2
        exact ⟨rfl, Below.refl _ _⟩
      · rw [h2] at F2 hf
        rw [Bool.true_and] at hf
        rw [hf] at F3
        clear hf h1 h2
        go_enter Tryz.func27, Tryz.ntmps27
        go_wp2_with fail
        refine (F1 _).mono ?_
        rintro e w1 ⟨rfl, rfl⟩
        go_wp2_with fail
        refine (F2 _).mono ?_
        rintro e w1 ⟨rfl, rfl⟩
        go_wp2_with fail
        refine (F3 _).mono ?_
        rintro e w1 ⟨rfl, rfl⟩
        go_wp2_with fail
        go_ret2
        exact ⟨rfl, Below.refl _ _⟩
  · have h := fine_of hf
    have pb := part_bd h
    rw [inB_yes h.q0 h.q1] at F1
    rw [inB_yes h.r0 h.r1] at F2
    rw [inB_yes h.v0 h.v1] at F3
    have F4 := fun w => fractionR_any v r 10000 false w (by have := h.v0; omega) (by have := h.v1; omega) (by have := h.r0; omega) (by have := h.r1; omega) (by omega) (by omega) (by decide)
    have ha := ans_in (vol r v) (by omega)
    rw [part_frac h, ha.1, ha.2] at F4
    simp only [if_true]
    clear hf h ha
    generalize vol r v = p at *
    clear pb
    by_cases hm : q < p
    · rw [show min p q = q by omega]
      go_enter Tryz.func27, Tryz.ntmps27
      go_wp2_with fail
      refine (F1 _).mono ?_
      rintro e w1 ⟨rfl, rfl⟩
      go_wp2_with fail
      refine (F2 _).mono ?_
      rintro e w1 ⟨rfl, rfl⟩
      go_wp2_with fail
      refine (F3 _).mono ?_
      rintro e w1 ⟨rfl, rfl⟩
      go_wp2_with fail
      refine (F4 _).mono ?_
      rintro e w1 ⟨rfl, hb⟩
      go_wp2_with fail
      go_ret2
      exact ⟨rfl, hb⟩
    · rw [show min p q = p by omega]
      go_enter Tryz.func27, Tryz.ntmps27
      go_wp2_with fail
      refine (F1 _).mono ?_
      rintro e w1 ⟨rfl, rfl⟩
      go_wp2_with fail
      refine (F2 _).mono ?_
      rintro e w1 ⟨rfl, rfl⟩
      go_wp2_with fail
      refine (F3 _).mono ?_
      rintro e w1 ⟨rfl, rfl⟩
      go_wp2_with fail
      refine (F4 _).mono ?_
      rintro e w1 ⟨rfl, hb⟩
      go_wp2_with fail
      go_ret2
      exact ⟨rfl, hb⟩
end Go.Proofs.YtdacfnodihannaaGreat.FL
