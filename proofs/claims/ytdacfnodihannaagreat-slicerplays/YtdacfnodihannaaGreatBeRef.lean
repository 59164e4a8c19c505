/-
  Contracts of the reference's in, Shown, Target and Slices, for every input.
-/
import Derived.Test.YtdacfnodihannaaGreatBeMath
namespace Go.Proofs.YtdacfnodihannaaGreat.BE
open Go.ChangeShapes Go.WideShapes Go.ChangeAt Go.RowKit

theorem inR_any (n low high : Int) (w : World) : Calls Tryz.prog 81 #[.int .i64 n, .int .i64 low, .int .i64 high] w fun e w' => e = .returned (.bool (inB n low high)) ∧ w = w' := by
  unfold inB
  by_cases h1 : low ≤ n
  · by_cases h2 : n ≤ high
    · rw [decide_eq_true ⟨h1, h2⟩]
      go_enter Tryz.func81, Tryz.ntmps81
      go_wp2
      go_ret
      exact ⟨rfl, rfl⟩
    · rw [decide_eq_false (fun k => h2 k.2)]
      go_enter Tryz.func81, Tryz.ntmps81
      go_wp2
      go_ret
      exact ⟨rfl, rfl⟩
  · rw [decide_eq_false (fun k => h1 k.1)]
    go_enter Tryz.func81, Tryz.ntmps81
    go_wp2
    go_ret
    exact ⟨rfl, rfl⟩
set_option maxHeartbeats 1000000 in
theorem shownR_any (q s f : Int) (w : World) : Calls Tryz.prog 54 #[.int .i64 q, .int .i64 s, .int .i64 f] w fun e w' => e = .returned (.tuple #[.int .i64 (shN q s f), .int .i64 (tgE q s f)]) ∧ w = w' := by
  have F1 := fun w => inR_any q 0 1099511627776 w
  have F2 := fun w => inR_any s 1 1099511627776 w
  have F3 := fun w => inR_any f 0 q w
  rw [shown_ref]
  unfold tgE
  cases hf : fineB q s f
  · simp only [Bool.false_eq_true, if_false]
    unfold fineB twoB at hf
    cases h1 : inB q 0 1099511627776
    · rw [h1] at F1
      clear hf F2 F3 h1
      go_enter Tryz.func54, Tryz.ntmps54
      go_wp2_with fail
      refine (F1 _).mono ?_
      rintro e w1 ⟨rfl, rfl⟩
      go_wp2_with fail
      go_ret2
      exact ⟨rfl, rfl⟩
    · rw [h1] at F1 hf
      rw [Bool.true_and] at hf
      cases h2 : inB s 1 1099511627776
      · rw [h2] at F2
        clear hf F3 h1 h2
        go_enter Tryz.func54, Tryz.ntmps54
        go_wp2_with fail
        refine (F1 _).mono ?_
        rintro e w1 ⟨rfl, rfl⟩
        go_wp2_with fail
        refine (F2 _).mono ?_
        rintro e w1 ⟨rfl, rfl⟩
        go_wp2_with fail
        go_ret2
        exact ⟨rfl, rfl⟩
      · rw [h2] at F2 hf
        rw [Bool.true_and] at hf
        rw [hf] at F3
        clear hf h1 h2
        go_enter Tryz.func54, Tryz.ntmps54
        go_wp2_with fail
        refine (F1 _).mono ?_
        rintro e w1 ⟨rfl, rfl⟩
        go_wp2_with fail
        refine (F2 _).mono ?_
        rintro e w1 ⟨rfl, rfl⟩
        go_wp2_with fail
        refine (F3 _).mono ?_
        rintro e w1 ⟨rfl, rfl⟩
        go_wp2_with fail
        go_ret2
        exact ⟨rfl, rfl⟩
  · have h := fine_of hf
    rw [inB_yes h.1.q0 h.1.q1] at F1
    rw [inB_yes h.1.s0 h.1.s1] at F2
    rw [inB_yes h.2.1 h.2.2] at F3
    have hw : wrap64 (q - f) = q - f := wrap_in _ (by have := h.1.q0; omega) (by have := h.1.q1; omega)
    simp only [if_true]
    clear hf h
    obtain ⟨l, hl⟩ : ∃ l, l = q - f := ⟨_, rfl⟩
    rw [← hl]
    replace hw : wrap64 (q - f) = l := by rw [hw, hl]
    clear hl
    by_cases c : l > s
    · rw [if_pos c]
      have c2 : wrap64 (q - f) > s := by rw [hw]; exact c
      go_enter Tryz.func54, Tryz.ntmps54
      go_wp2_with fail
      refine (F1 _).mono ?_
      rintro e w1 ⟨rfl, rfl⟩
      go_wp2_with fail
      refine (F2 _).mono ?_
      rintro e w1 ⟨rfl, rfl⟩
      go_wp2_with fail
      refine (F3 _).mono ?_
      rintro e w1 ⟨rfl, rfl⟩
      go_wp2_with fail
      go_ret2
      exact ⟨rfl, rfl⟩
    · rw [if_neg c]
      have c2 : ¬ wrap64 (q - f) > s := by rw [hw]; exact c
      go_enter Tryz.func54, Tryz.ntmps54
      go_wp2_with fail
      refine (F1 _).mono ?_
      rintro e w1 ⟨rfl, rfl⟩
      go_wp2_with fail
      refine (F2 _).mono ?_
      rintro e w1 ⟨rfl, rfl⟩
      go_wp2_with fail
      refine (F3 _).mono ?_
      rintro e w1 ⟨rfl, rfl⟩
      go_wp2_with fail
      rw [hw]
      go_ret2
      exact ⟨rfl, rfl⟩
theorem targetR_any (q s f : Int) (w : World) : Calls Tryz.prog 28 #[.int .i64 q, .int .i64 s, .int .i64 f] w fun e w' => e = .returned (.tuple #[.int .i64 (tgN q s f), .int .i64 (tgE q s f)]) ∧ w = w' := by
  have F := fun w => shownR_any q s f w
  rw [target_ref]
  unfold shN tgE at F ⊢
  cases hf : fineB q s f
  · rw [hf] at F
    simp only [Bool.false_eq_true, if_false] at F ⊢
    clear hf
    go_enter Tryz.func28, Tryz.ntmps28
    go_wp2_with fail
    refine (F _).mono ?_
    rintro e w1 ⟨rfl, rfl⟩
    go_wp2_with fail
    go_ret2
    exact ⟨rfl, rfl⟩
  · rw [hf] at F
    have h := fine_of hf
    simp only [if_true] at F ⊢
    have hw : wrap64 (f + (min (f + s) q - f)) = f + (min (f + s) q - f) := wrap_in _ (by have := h.1.s0; have := h.1.q1; omega) (by have := h.1.s1; have := h.1.q1; omega)
    generalize min (f + s) q - f = m at *
    clear hf h
    go_enter Tryz.func28, Tryz.ntmps28
    go_wp2_with fail
    refine (F _).mono ?_
    rintro e w1 ⟨rfl, rfl⟩
    go_wp2_with fail
    rw [hw]
    go_ret2
    exact ⟨rfl, rfl⟩
end Go.Proofs.YtdacfnodihannaaGreat.BE
