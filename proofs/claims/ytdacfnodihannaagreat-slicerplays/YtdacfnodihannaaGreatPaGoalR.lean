/-
  The contract of the reference's Goal.
-/
import Derived.Test.YtdacfnodihannaaGreatPaRef
namespace Go.Proofs.YtdacfnodihannaaGreat
open Go.ChangeShapes Go.WideShapes Go.ChangeAt Go.RowKit PA

set_option maxHeartbeats 1000000 in
theorem goalR_any (target lot qty : Int) (w : World) (l1 : lot ≤ 9223372036854775807) :
    Calls Tryz.prog 31 #[.int .i64 target, .int .i64 lot, .int .i64 qty] w fun e w' => e = .returned (.tuple #[.int .i64 (goN target lot qty), .int .i64 (goE target lot qty)]) ∧ w = w' := by
  have F1 : ∀ w, Calls Tryz.prog 57 #[.int .i64 qty, .int .i64 0, .int .i64 1099511627776] w fun e w' => e = .returned (.bool (timeB qty)) ∧ w = w' := fun w => in_any qty 0 1099511627776 w
  have F2 := fun w => in_any target 0 qty w
  unfold goN goE
  by_cases hl : lot < 1
  · have e0 : decide (1 ≤ lot) = false := decide_eq_false (by omega)
    rw [e0]
    simp only [Bool.and_false, Bool.false_eq_true, if_false]
    clear F1 F2 e0
    go_enter Tryz.func31, Tryz.ntmps31
    go_wp2_with fail
    go_ret2
    exact ⟨rfl, rfl⟩
  have e0 : decide (1 ≤ lot) = true := decide_eq_true (by omega)
  rw [e0]
  cases hp : timeB qty
  · rw [hp] at F1
    simp only [Bool.false_and, Bool.false_eq_true, if_false]
    clear hp F2 e0
    go_enter Tryz.func31, Tryz.ntmps31
    go_wp2_with fail
    refine (F1 _).mono ?_
    rintro e w1 ⟨rfl, rfl⟩
    go_wp2_with fail
    go_ret2
    exact ⟨rfl, rfl⟩
  rw [hp] at F1
  cases hq : inB target 0 qty
  · rw [hq] at F2
    simp only [Bool.false_and, Bool.and_false, Bool.false_eq_true, if_false]
    clear hp hq e0
    go_enter Tryz.func31, Tryz.ntmps31
    go_wp2_with fail
    refine (F1 _).mono ?_
    rintro e w1 ⟨rfl, rfl⟩
    go_wp2_with fail
    refine (F2 _).mono ?_
    rintro e w1 ⟨rfl, rfl⟩
    go_wp2_with fail
    go_ret2
    exact ⟨rfl, rfl⟩
  rw [hq] at F2
  have b1 := inB_iff.1 hp
  have b2 := inB_iff.1 hq
  have hf := ce_facts target lot (by omega) b2.1
  have m0 := Int.emod_nonneg target (by omega : lot ≠ 0)
  have m1 := Int.emod_lt_of_pos target (by omega : 0 < lot)
  have m2 : target % lot ≤ target := by
    by_cases hlt : target < lot
    · rw [Int.emod_eq_of_lt b2.1 hlt]; omega
    · omega
  obtain ⟨r, hr⟩ : ∃ r, target % lot = r := ⟨_, rfl⟩
  have hT : target.tmod lot = r := by rw [Int.tmod_eq_emod_of_nonneg b2.1]; exact hr
  obtain ⟨N, hN⟩ : ∃ N, Hid (min (ceV target lot) qty = N) := ⟨_, rfl⟩
  show Calls _ _ _ _ fun e w' => e = .returned (.tuple #[.int .i64 (min (ceV target lot) qty), .int .i64 0]) ∧ w = w'
  rw [hN.out]
  rw [hr] at hf m0 m1 m2
  replace hr : Hid (target % lot = r) := hr
  have l0 : lot ≠ 0 := by omega
  have l2 : (lot == 0) = false := beq_false_of_ne l0
  have l3 : ¬ lot = -1 := by omega
  by_cases hz : r = 0
  · have e1 : N = target := by rw [← hN.out, hf.2.2.2.1 hz]; omega
    subst e1
    subst hz
    clear hf hN hr hp hq e0 b1 b2 m0 m1 m2
    go_enter Tryz.func31, Tryz.ntmps31
    go_wp2_with fail
    refine (F1 _).mono ?_
    rintro e w1 ⟨rfl, rfl⟩
    go_wp2_with fail
    refine (F2 _).mono ?_
    rintro e w1 ⟨rfl, rfl⟩
    go_wp2_with fail
    go_ret2
    exact ⟨rfl, rfl⟩
  have hv := hf.2.2.2.2 hz
  by_cases hg : qty - target < lot - r
  · have e1 : N = qty := by rw [← hN.out, hv]; omega
    subst e1
    have t1 : ¬ r = 0 := hz
    clear hf hN hr hp hq e0 hv
    go_enter Tryz.func31, Tryz.ntmps31
    go_wp2_with fail
    refine (F1 _).mono ?_
    rintro e w1 ⟨rfl, rfl⟩
    go_wp2_with fail
    refine (F2 _).mono ?_
    rintro e w1 ⟨rfl, rfl⟩
    go_wp2_with fail
    go_ret2
    exact ⟨rfl, rfl⟩
  · have e1 : target - r + lot = N := by rw [← hN.out, hv]; omega
    have t1 : ¬ r = 0 := hz
    replace e1 : Hid (target - r + lot = N) := e1
    clear hf hN hr hp hq e0 hv
    go_enter Tryz.func31, Tryz.ntmps31
    go_wp2_with fail
    refine (F1 _).mono ?_
    rintro e w1 ⟨rfl, rfl⟩
    go_wp2_with fail
    refine (F2 _).mono ?_
    rintro e w1 ⟨rfl, rfl⟩
    go_wp2_with fail
    go_ret2
    exact ⟨by rw [e1.out]; rfl, rfl⟩
end Go.Proofs.YtdacfnodihannaaGreat
