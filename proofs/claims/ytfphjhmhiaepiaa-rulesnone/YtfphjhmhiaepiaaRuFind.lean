/-
  Where a name stands in a list: the last place, and with names of their own the only one (plain).
-/
import Derived.Test.YtfphjhmhiaepiaaRuMath
import Derived.Test.YtfphjhmhiaepiaaSMap
namespace Go.Proofs.Ytfphjhmhiaepiaa.RU
open Go.ChangeShapes Go.WideShapes Go.ChangeAt Go.RowKit Go.Lib SM

/-- The last place of a name among the first n. -/
def lastOf (N : Nat → ByteArray) : Nat → ByteArray → Option Int
  | 0 => fun _ => none
  | n + 1 => updS (lastOf N n) (N n) (n : Int)
theorem lastOf_succ (N : Nat → ByteArray) (n : Nat) : lastOf N (n + 1) = updS (lastOf N n) (N n) (n : Int) := rfl
/-- The first place of a name, from 0 on, or -1. -/
def firstOf (N : Nat → ByteArray) (t : ByteArray) : Nat → Int
  | 0 => -1
  | n + 1 => if firstOf N t n = -1 then (if N n = t then (n : Int) else -1) else firstOf N t n
theorem firstOf_bd (N : Nat → ByteArray) (t : ByteArray) : ∀ n, -1 ≤ firstOf N t n ∧ firstOf N t n < n
  | 0 => by simp [firstOf]
  | n + 1 => by
    have := firstOf_bd N t n
    rw [firstOf]
    split
    · split <;> omega
    · omega
theorem firstOf_no {N : Nat → ByteArray} {t : ByteArray} : ∀ {n : Nat}, (∀ i, i < n → N i ≠ t) → firstOf N t n = -1
  | 0, _ => rfl
  | n + 1, h => by
    rw [firstOf, if_pos (firstOf_no (fun i hi => h i (by omega))), if_neg (h n (by omega))]
theorem firstOf_stay {N : Nat → ByteArray} {t : ByteArray} {m : Nat} (h : firstOf N t m ≠ -1) : ∀ k, firstOf N t (m + k) = firstOf N t m
  | 0 => rfl
  | k + 1 => by
    rw [← Nat.add_assoc, firstOf, firstOf_stay h k, if_neg h]
theorem firstOf_at {N : Nat → ByteArray} {t : ByteArray} {n i : Nat} (hi : i < n) (e : N i = t) (hb : ∀ k, k < i → N k ≠ t) : firstOf N t n = (i : Int) := by
  have h1 : firstOf N t (i + 1) = (i : Int) := by rw [firstOf, if_pos (firstOf_no hb), if_pos e]
  have := firstOf_stay (m := i + 1) (N := N) (t := t) (by rw [h1]; omega) (n - (i + 1))
  rw [show i + 1 + (n - (i + 1)) = n by omega, h1] at this
  exact this
theorem lastOf_no {N : Nat → ByteArray} {t : ByteArray} : ∀ {n : Nat}, (∀ i, i < n → N i ≠ t) → lastOf N n t = none
  | 0, _ => rfl
  | n + 1, h => by
    rw [lastOf_succ, updS_other _ _ (fun e => h n (by omega) e.symm)]
    exact lastOf_no (fun i hi => h i (by omega))
theorem lastOf_at {N : Nat → ByteArray} {t : ByteArray} {i : Nat} (e : N i = t) : ∀ {n : Nat}, i < n → (∀ k, i < k → k < n → N k ≠ t) → lastOf N n t = some (i : Int)
  | 0, hi, _ => absurd hi (by omega)
  | n + 1, hi, hb => by
    rw [lastOf_succ]
    by_cases k : i = n
    · subst k; rw [← e, updS_same]
    · rw [updS_other _ _ (fun e' => hb n (by omega) (by omega) e'.symm)]
      exact lastOf_at e (by omega) (fun k h1 h2 => hb k h1 (by omega))
/-- With names of their own the last place is the first one. -/
theorem last_first {N : Nat → ByteArray} {n : Nat} (h : ∀ i, i < n → freshB N i = true) (t : ByteArray) :
    (lastOf N n t).isSome = decide (0 ≤ firstOf N t n) ∧ numV (lastOf N n t) = max (firstOf N t n) 0 := by
  by_cases k : ∀ i, i < n → N i ≠ t
  · rw [lastOf_no k, firstOf_no k]
    exact ⟨by simp, by simp [numV]; omega⟩
  · obtain ⟨i, hi, e⟩ : ∃ i, i < n ∧ N i = t := by
      by_cases q : ∃ i, i < n ∧ N i = t
      · exact q
      · exact absurd (fun i hi e => q ⟨i, hi, e⟩) k
    rw [lastOf_at e hi (fun k h1 h2 e' => fresh_other (h k h2) h1 (e.trans e'.symm)), firstOf_at hi e (fun k h1 e' => fresh_other (h i hi) h1 (e'.trans e.symm))]
    exact ⟨by simp, by simp [numV]⟩
end Go.Proofs.Ytfphjhmhiaepiaa.RU
