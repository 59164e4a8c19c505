/-
  Contracts of package grain's steps: brought, Floor, Ceil and On, for every input.
-/
import Derived.Test.YtbjibmfehphffaaArith
namespace Go.Proofs.Ytbjibmfehphffaa
open Go.ChangeShapes Go.WideShapes Go.ChangeAt Go.RowKit

theorem floor1_any (r : Int) (w : World) (r1 : 0 ≤ r) (r2 : r ≤ 9223372036854775807) :
    Calls Try.prog 49 #[.int .i64 r] w fun e w' => e = .returned (.int .i64 (-r)) ∧ w' = w := by
  go_enter Try.func49, Try.ntmps49
  go_wp2
  go_ret
  exact ⟨rfl, rfl⟩
/-- What Floor and Ceil answer. -/
abbrev stepBad (n s : Int) : Prop := s < 1 ∨ n < 0
def flN (n s : Int) : Int := if stepBad n s then 0 else n - n % s
def flE (n s : Int) : Int := if stepBad n s then 2 else 0
def ceV (n s : Int) : Int := n + (s - n % s) % s
def ceN (n s : Int) : Int := if stepBad n s then 0 else ansN (ceV n s)
def ceE (n s : Int) : Int := if stepBad n s then 2 else ansE (ceV n s)

theorem ans_is (z : Int) (k : -9223372036854775808 ≤ z ∧ z ≤ 9223372036854775807) : ansN z = z ∧ ansE z = 0 := by
  unfold ansN ansE; exact ⟨if_pos k, if_pos k⟩
theorem brought_bad (n s : Int) (f : Value) (w : World) (h : stepBad n s) :
    Calls Try.prog 48 #[.int .i64 n, .int .i64 s, f] w fun e w' => e = .returned (.tuple #[.int .i64 0, .int .i64 2]) ∧ w' = w := by
  unfold stepBad at h
  by_cases k : s < 1
  all_goals
    go_enter Try.func48, Try.ntmps48
    go_wp2
    go_ret2
    exact ⟨rfl, rfl⟩
theorem brought_floor (n s : Int) (w : World) (h : ¬ stepBad n s) (n2 : n ≤ 9223372036854775807) (s2 : s ≤ 9223372036854775807) :
    Calls Try.prog 48 #[.int .i64 n, .int .i64 s, .func (.func 49) #[] #[]] w fun e w' => e = .returned (.tuple #[.int .i64 (n - n % s), .int .i64 0]) ∧ Below w.heap.size w w' := by
  unfold stepBad at h
  have m0 : 0 ≤ n % s := Int.emod_nonneg _ (by omega)
  have m1 : n % s < s := Int.emod_lt_of_pos _ (by omega)
  have m2 : n % s ≤ n := by have := Int.ediv_mul_le n (show s ≠ 0 by omega); have := Int.emod_add_mul_ediv n s; have : 0 ≤ s * (n / s) := Int.mul_nonneg (by omega) (Int.ediv_nonneg (by omega) (by omega)); omega
  go_enter Try.func48, Try.ntmps48
  go_wp2_with (first
   | (go_at_call 49; refine (floor1_any _ _ m0 (by omega)).mono ?_; rintro e w1 ⟨rfl, rfl⟩)
   | (go_at_call 58; refine (add_any n (-(n % s)) _ (by omega) (by omega) (by omega) (by omega)).mono ?_; rintro e w2 ⟨rfl, hb⟩))
  go_ret2
  exact ⟨by rw [(ans_is (n + -(n % s)) (by omega)).1, (ans_is (n + -(n % s)) (by omega)).2, show n + -(n % s) = n - n % s by omega]; rfl, hb⟩
theorem floor_any (n s : Int) (w : World) (n2 : n ≤ 9223372036854775807) (s2 : s ≤ 9223372036854775807) :
    Calls Try.prog 39 #[.int .i64 n, .int .i64 s] w fun e w' => e = .returned (.tuple #[.int .i64 (flN n s), .int .i64 (flE n s)]) ∧ Below w.heap.size w w' := by
  unfold flN flE
  by_cases h : stepBad n s
  · rw [if_pos h, if_pos h]
    go_enter Try.func39, Try.ntmps39
    go_wp2_with (go_at_call 48; refine (brought_bad n s _ _ h).mono ?_; rintro e w1 ⟨rfl, rfl⟩)
    go_ret2
    exact ⟨rfl, Below.refl _ _⟩
  · rw [if_neg h, if_neg h]
    go_enter Try.func39, Try.ntmps39
    go_wp2_with (go_at_call 48; refine (brought_floor n s _ h n2 s2).mono ?_; rintro e w1 ⟨rfl, hb⟩)
    go_ret2
    exact ⟨rfl, hb⟩
def onB (n s : Int) : Bool := decide (¬ stepBad n s ∧ n % s = 0)
theorem on_any (n s : Int) (w : World) (n2 : n ≤ 9223372036854775807) (s2 : s ≤ 9223372036854775807) :
    Calls Try.prog 17 #[.int .i64 n, .int .i64 s] w fun e w' => e = .returned (.bool (onB n s)) ∧ Below w.heap.size w w' := by
  have F := floor_any n s w n2 s2
  by_cases h : stepBad n s
  · have e1 : flE n s = 2 := if_pos h
    have e2 : onB n s = false := by unfold onB; simp [h]
    rw [e2]
    rw [e1] at F
    clear e1 e2
    go_enter Try.func17, Try.ntmps17
    go_wp2_with fail
    refine F.mono ?_
    rintro e w1 ⟨rfl, hb⟩
    go_wp2
    go_ret
    exact ⟨rfl, hb⟩
  · have e1 : flE n s = 0 := if_neg h
    have e2 : onB n s = (flN n s == n) := by
      unfold onB flN
      rw [if_neg h]
      rw [Bool.eq_iff_iff]
      simp [h]
      omega
    rw [e2]
    rw [e1] at F
    clear e1 e2
    go_enter Try.func17, Try.ntmps17
    go_wp2_with fail
    refine F.mono ?_
    rintro e w1 ⟨rfl, hb⟩
    go_wp2
    go_ret
    exact ⟨rfl, hb⟩
end Go.Proofs.Ytbjibmfehphffaa
