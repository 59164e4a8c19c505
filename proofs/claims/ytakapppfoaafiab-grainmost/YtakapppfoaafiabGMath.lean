/-
  Arithmetic of steps and bands, on plain whole numbers.
-/
import Derived.Test.YtakapppfoaafiabBand
namespace Go.Proofs.Ytakapppfoaafiab
open Go.ChangeShapes Go.WideShapes Go.ChangeAt Go.RowKit

theorem ceV_zero (n s : Int) (_hs : 1 ≤ s) (h : n % s = 0) : ceV n s = n := by
  unfold ceV; rw [h, Int.sub_zero, Int.emod_self, Int.add_zero]
theorem ceV_more (n s : Int) (hs : 1 ≤ s) (h : n % s ≠ 0) : ceV n s = n - n % s + s := by
  have m0 : 0 ≤ n % s := Int.emod_nonneg _ (by omega)
  have m1 : n % s < s := Int.emod_lt_of_pos _ (by omega)
  unfold ceV; rw [Int.emod_eq_of_lt (by omega) (by omega)]; omega
theorem floor_mul (n s : Int) : n - n % s = s * (n / s) := by have := Int.emod_add_mul_ediv n s; omega
theorem floor_on (n s : Int) : (n - n % s) % s = 0 := by rw [floor_mul, Int.mul_emod_right]
theorem ceV_mul (n s : Int) (hs : 1 ≤ s) : ∃ k, ceV n s = s * k := by
  by_cases h : n % s = 0
  · exact ⟨n / s, by rw [ceV_zero n s hs h, ← floor_mul]; omega⟩
  · exact ⟨n / s + 1, by rw [ceV_more n s hs h, floor_mul, Int.mul_add, Int.mul_one]⟩
theorem ceV_on (n s : Int) (hs : 1 ≤ s) : ceV n s % s = 0 := by
  obtain ⟨k, e⟩ := ceV_mul n s hs
  rw [e, Int.mul_emod_right]
theorem floor_bd (n s : Int) (hn : 0 ≤ n) (hs : 1 ≤ s) : 0 ≤ n - n % s ∧ n - n % s ≤ n ∧ n - (n - n % s) < s := by
  have m0 : 0 ≤ n % s := Int.emod_nonneg _ (by omega)
  have m1 : n % s < s := Int.emod_lt_of_pos _ (by omega)
  have m2 : 0 ≤ s * (n / s) := Int.mul_nonneg (by omega) (Int.ediv_nonneg (by omega) (by omega))
  have := floor_mul n s
  omega
theorem ceV_bd (n s : Int) (hs : 1 ≤ s) : n ≤ ceV n s ∧ ceV n s - n < s := by
  have m0 : 0 ≤ n % s := Int.emod_nonneg _ (by omega)
  have m1 : n % s < s := Int.emod_lt_of_pos _ (by omega)
  by_cases h : n % s = 0
  · rw [ceV_zero n s hs h]; omega
  · rw [ceV_more n s hs h]; omega
/-- Floor is the greatest, Ceil the least. -/
theorem le_floor (a n s : Int) (hs : 1 ≤ s) (ha : a % s = 0) (h : a ≤ n) : a ≤ n - n % s := by
  have e : a = s * (a / s) := by have := floor_mul a s; omega
  have : a / s ≤ n / s := Int.ediv_le_ediv (by omega) h
  rw [floor_mul, e]
  exact Int.mul_le_mul_of_nonneg_left this (by omega)
theorem ceil_least (a n s : Int) (hs : 1 ≤ s) (ha : a % s = 0) (h : n ≤ a) : ceV n s ≤ a := by
  have m1 : n % s < s := Int.emod_lt_of_pos _ (by omega)
  have m0 : 0 ≤ n % s := Int.emod_nonneg _ (by omega)
  by_cases k : n % s = 0
  · rw [ceV_zero n s hs k]; exact h
  · rw [ceV_more n s hs k]
    have e : a = s * (a / s) := by have := floor_mul a s; omega
    have h1 : n / s < a / s := by
      by_cases c : n / s < a / s
      · exact c
      · have : s * (a / s) ≤ s * (n / s) := Int.mul_le_mul_of_nonneg_left (by omega) (by omega)
        have := floor_mul n s
        omega
    have h2 : s * (n / s + 1) ≤ s * (a / s) := Int.mul_le_mul_of_nonneg_left (by omega) (by omega)
    rw [Int.mul_add, Int.mul_one] at h2
    have := floor_mul n s
    omega
end Go.Proofs.Ytakapppfoaafiab
