/-
  Contracts of package grain's upTo and Worth, for every input, in a seat that has no more of grain.
-/
import Derived.Test.YtbmmokdccfajmaaArith
namespace Go.Proofs.Ytbmmokdccfajmaa
open Go.ChangeShapes Go.WideShapes Go.ChangeAt Go.RowKit

theorem upTo_any (n m : Int) (w : World) :
    Calls Try.prog 39 #[.int .i64 n, .int .i64 m] w fun e w' => e = .returned (.bool (decide (0 ≤ n ∧ n ≤ m))) ∧ w' = w := by
  by_cases h : 0 ≤ n
  · have k : decide (0 ≤ n ∧ n ≤ m) = decide (n ≤ m) := decide_eq_decide.2 (by omega)
    rw [k]
    clear k
    go_enter Try.func39, Try.ntmps39
    go_wp2
    go_ret
    exact ⟨rfl, rfl⟩
  · have k : decide (0 ≤ n ∧ n ≤ m) = false := decide_eq_false (by omega)
    rw [k]
    clear k
    go_enter Try.func39, Try.ntmps39
    go_wp2
    go_ret
    exact ⟨rfl, rfl⟩
theorem upTo_yes (n m : Int) (w : World) (h : 0 ≤ n ∧ n ≤ m) :
    Calls Try.prog 39 #[.int .i64 n, .int .i64 m] w fun e w' => e = .returned (.bool true) ∧ w' = w := by
  have := upTo_any n m w; rwa [decide_eq_true h] at this
theorem upTo_no (n m : Int) (w : World) (h : ¬ (0 ≤ n ∧ n ≤ m)) :
    Calls Try.prog 39 #[.int .i64 n, .int .i64 m] w fun e w' => e = .returned (.bool false) ∧ w' = w := by
  have := upTo_any n m w; rwa [decide_eq_false h] at this

abbrev woBad (q p : Int) : Prop := ¬ (0 ≤ q ∧ q ≤ 1099511627776) ∨ ¬ (0 ≤ p ∧ p ≤ 1099511627776)
def woN (q p : Int) : Int := if woBad q p then 0 else ansN (q * p)
def woE (q p : Int) : Int := if woBad q p then 2 else ansE (q * p)
theorem worth_any (q p : Int) (w : World) :
    Calls Try.prog 33 #[.int .i64 q, .int .i64 p] w fun e w' => e = .returned (.tuple #[.int .i64 (woN q p), .int .i64 (woE q p)]) ∧ Below w.heap.size w w' := by
  unfold woN woE
  by_cases hq : 0 ≤ q ∧ q ≤ 1099511627776
  · by_cases hp : 0 ≤ p ∧ p ≤ 1099511627776
    · rw [if_neg (by unfold woBad; omega), if_neg (by unfold woBad; omega)]
      go_enter Try.func33, Try.ntmps33
      go_wp2_with fail
      refine (upTo_yes q _ _ hq).mono ?_
      rintro e w1 ⟨rfl, rfl⟩
      go_wp2_with fail
      refine (upTo_yes p _ _ hp).mono ?_
      rintro e w1 ⟨rfl, rfl⟩
      go_wp2_with fail
      refine (mul_any q p _ (by omega) (by omega) (by omega) (by omega)).mono ?_
      rintro e w1 ⟨rfl, hb⟩
      go_wp2
      go_ret2
      exact ⟨rfl, hb⟩
    · rw [if_pos (by unfold woBad; omega), if_pos (by unfold woBad; omega)]
      go_enter Try.func33, Try.ntmps33
      go_wp2_with fail
      refine (upTo_yes q _ _ hq).mono ?_
      rintro e w1 ⟨rfl, rfl⟩
      go_wp2_with fail
      refine (upTo_no p _ _ hp).mono ?_
      rintro e w1 ⟨rfl, rfl⟩
      go_wp2
      go_ret2
      exact ⟨rfl, Below.refl _ _⟩
  · rw [if_pos (by unfold woBad; omega), if_pos (by unfold woBad; omega)]
    go_enter Try.func33, Try.ntmps33
    go_wp2_with fail
    refine (upTo_no q _ _ hq).mono ?_
    rintro e w1 ⟨rfl, rfl⟩
    go_wp2
    go_ret2
    exact ⟨rfl, Below.refl _ _⟩
end Go.Proofs.Ytbmmokdccfajmaa
