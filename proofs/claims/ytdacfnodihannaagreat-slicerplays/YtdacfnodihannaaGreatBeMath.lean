/-
  Plain mathematics of layer 26: ranges, what should be out, what is shown, how many slices, and how what is shown melts.
-/
import Derived.Test.YtdacfnodihannaaGreatKA
namespace Go.Proofs.YtdacfnodihannaaGreat.BE
open Go.ChangeShapes Go.WideShapes Go.ChangeAt Go.RowKit

def inB (n low high : Int) : Bool := decide (low ≤ n ∧ n ≤ high)
theorem inB_yes {n low high : Int} (h1 : low ≤ n) (h2 : n ≤ high) : inB n low high = true := decide_eq_true ⟨h1, h2⟩
theorem inB_no {n low high : Int} (h : n < low ∨ high < n) : inB n low high = false := decide_eq_false (by omega)
theorem inB_iff {n low high : Int} : inB n low high = true ↔ low ≤ n ∧ n ≤ high := by unfold inB; exact decide_eq_true_iff
theorem wrap_in (x : Int) (h1 : -9223372036854775808 ≤ x) (h2 : x ≤ 9223372036854775807) : wrap64 x = x := by unfold wrap64; omega
/-- Both a quantity and a show are right. -/
def twoB (q s : Int) : Bool := inB q 0 1099511627776 && inB s 1 1099511627776
/-- All that a target wants is right. -/
def fineB (q s f : Int) : Bool := twoB q s && inB f 0 q
def tgN (q s f : Int) : Int := if fineB q s f then min (f + s) q else 0
def tgE (q s f : Int) : Int := if fineB q s f then 0 else 2
def shN (q s f : Int) : Int := if fineB q s f then min (f + s) q - f else 0
def slN (q s : Int) : Int := if twoB q s then frac q s true else 0
def slE (q s : Int) : Int := if twoB q s then 0 else 2
structure Two (q s : Int) : Prop where
  q0 : 0 ≤ q
  q1 : q ≤ 1099511627776
  s0 : 1 ≤ s
  s1 : s ≤ 1099511627776
theorem two_of {q s : Int} (h : twoB q s = true) : Two q s := by
  unfold twoB at h
  simp only [Bool.and_eq_true, inB_iff] at h
  exact ⟨h.1.1, h.1.2, h.2.1, h.2.2⟩
theorem of_two {q s : Int} (h : Two q s) : twoB q s = true := by
  unfold twoB
  rw [inB_yes h.q0 h.q1, inB_yes h.s0 h.s1]; rfl
theorem of_fine {q s f : Int} (h : Two q s) (f0 : 0 ≤ f) (f1 : f ≤ q) : fineB q s f = true := by
  unfold fineB
  rw [of_two h, inB_yes f0 f1]; rfl
theorem fine_of {q s f : Int} (h : fineB q s f = true) : Two q s ∧ 0 ≤ f ∧ f ≤ q := by
  unfold fineB at h
  rw [Bool.and_eq_true] at h
  exact ⟨two_of h.1, inB_iff.1 h.2⟩
/-- Up, of numbers that are not below 0. -/
theorem frac_up {q s : Int} (q0 : 0 ≤ q) (s0 : 1 ≤ s) : frac q s true = if q % s = 0 then q / s else q / s + 1 := by
  unfold frac
  rw [show decide (q < 0) = false by simp; omega, show decide (s < 0) = false by simp; omega, show (q.natAbs : Int) = q by omega, show (s.natAbs : Int) = s by omega]
  by_cases h : q % s = 0
  · simp [h]
  · simp [h]
/-- What is left is between two whole numbers of shows. -/
theorem up_bd {q s : Int} (h : Two q s) : 0 ≤ frac q s true ∧ frac q s true ≤ q ∧ q ≤ frac q s true * s ∧ (frac q s true - 1) * s < q ∨ (q = 0 ∧ frac q s true = 0) := by
  rw [frac_up h.q0 h.s0]
  have h0 := h.q0
  have h1 := h.s0
  have e := Int.emod_add_mul_ediv q s
  have e1 := Int.emod_nonneg q (show s ≠ 0 by omega)
  have e2 := Int.emod_lt_of_pos q (show 0 < s by omega)
  have e3 : 0 ≤ q / s := Int.ediv_nonneg h0 (by omega)
  have e4 : q / s ≤ s * (q / s) := by
    have := Int.mul_le_mul_of_nonneg_right h1 e3
    rwa [Int.one_mul] at this
  by_cases c : q = 0
  · right; subst c; simp
  · left
    split
    · rename_i m
      have e5 : q / s * s = s * (q / s) := Int.mul_comm _ _
      have e6 : (q / s - 1) * s = q / s * s - s := by rw [Int.sub_mul, Int.one_mul]
      refine ⟨e3, ?_, ?_, ?_⟩ <;> omega
    · rename_i m
      have e5 : (q / s + 1) * s = s * (q / s) + s := by rw [Int.add_mul, Int.one_mul, Int.mul_comm]
      have e6 : (q / s + 1 - 1) * s = s * (q / s) := by rw [Int.add_sub_cancel, Int.mul_comm]
      refine ⟨?_, ?_, ?_, ?_⟩ <;> omega
theorem slN_bd {q s : Int} (h : Two q s) : 0 ≤ slN q s ∧ slN q s ≤ q := by
  unfold slN
  rw [of_two h, if_pos rfl]
  rcases up_bd h with k | k
  · exact ⟨k.1, k.2.1⟩
  · omega
/-- How much is out behind i slices. -/
def out (q s : Int) (i : Nat) : Int := min ((i : Int) * s) q
theorem out_zero {q s : Int} (h : Two q s) : out q s 0 = 0 := by unfold out; have := h.q0; simp; omega
theorem out_bd {q s : Int} (h : Two q s) (i : Nat) : 0 ≤ out q s i ∧ out q s i ≤ q := by
  have := Int.mul_nonneg (show (0 : Int) ≤ (i : Int) by omega) (show 0 ≤ s by have := h.s0; omega)
  have := h.q0
  unfold out; omega
theorem out_next {q s : Int} (h : Two q s) (i : Nat) : out q s (i + 1) = out q s i + shN q s (out q s i) := by
  have b := out_bd h i
  unfold shN
  rw [of_fine h b.1 b.2, if_pos rfl]
  have : ((i + 1 : Nat) : Int) * s = (i : Int) * s + s := by rw [Int.natCast_add, Int.add_mul]; simp
  have := h.s0
  unfold out at *; omega
/-- Ahead of the last slice something is shown, and never more than may be. -/
theorem shown_bd {q s : Int} (h : Two q s) (i : Nat) (hi : (i : Int) < slN q s) : 1 ≤ shN q s (out q s i) ∧ shN q s (out q s i) ≤ s := by
  have b := out_bd h i
  unfold slN at hi
  rw [of_two h, if_pos rfl] at hi
  have s0 := h.s0
  have lt : out q s i < q := by
    rcases up_bd h with ⟨_, _, _, k⟩ | k
    · have : (i : Int) * s ≤ (frac q s true - 1) * s := Int.mul_le_mul_of_nonneg_right (by omega) (by omega)
      unfold out; omega
    · omega
  unfold shN
  rw [of_fine h b.1 b.2, if_pos rfl]
  omega
theorem out_all {q s : Int} (h : Two q s) (i : Nat) (hi : (i : Int) = slN q s) : out q s i = q := by
  unfold slN at hi
  rw [of_two h, if_pos rfl] at hi
  have s0 := h.s0
  rcases up_bd h with ⟨_, _, k, _⟩ | k
  · unfold out; rw [hi]; omega
  · have : i = 0 := by omega
    subst this; unfold out; rw [k.1]; simp
theorem shown_none {q s : Int} (h : Two q s) : shN q s q = 0 := by
  unfold shN
  rw [of_fine h h.q0 (Int.le_refl _), if_pos rfl]
  have := h.s0
  omega
/-- The reference's way: what is left, or the part of it that is shown. -/
theorem shown_ref {q s f : Int} : shN q s f = if fineB q s f then (if q - f > s then s else q - f) else 0 := by
  unfold shN
  cases h : fineB q s f
  · rfl
  · simp only [if_true]
    split <;> omega
theorem target_ref {q s f : Int} : tgN q s f = if fineB q s f then f + shN q s f else 0 := by
  unfold tgN shN
  cases h : fineB q s f
  · rfl
  · simp only [if_true]; omega
end Go.Proofs.YtdacfnodihannaaGreat.BE
