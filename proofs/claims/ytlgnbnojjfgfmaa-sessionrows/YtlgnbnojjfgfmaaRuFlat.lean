/-
  The cells of a list of things, one behind the other (plain).
-/
import Derived.Test.YtlgnbnojjfgfmaaOwnRows
namespace Go.Proofs.Ytlgnbnojjfgfmaa.RU
open Go.ChangeShapes Go.WideShapes Go.ChangeAt Go.RowKit Go.Lib

/-- The cells of the first n things. -/
def flatK (c : Nat → List Value) : Nat → List Value
  | 0 => []
  | n + 1 => flatK c n ++ c n
theorem flatK_length {c : Nat → List Value} {k : Nat} (h : ∀ i, (c i).length = k) : ∀ n, (flatK c n).length = n * k
  | 0 => by simp [flatK]
  | n + 1 => by rw [flatK, List.length_append, flatK_length h n, h n, Nat.succ_mul]
theorem flatK_at {c : Nat → List Value} {k : Nat} (h : ∀ i, (c i).length = k) {i j : Nat} (hj : j < k) : ∀ n, i < n → (flatK c n)[i * k + j]? = (c i)[j]?
  | 0, hi => absurd hi (by omega)
  | n + 1, hi => by
    rw [flatK]
    by_cases e : i = n
    · subst e
      rw [List.getElem?_append_right (by rw [flatK_length h]; omega), flatK_length h, Nat.add_sub_cancel_left]
    · have : i * k + j < n * k := by
        have h1 : (i + 1) * k ≤ n * k := Nat.mul_le_mul_right k (by omega)
        rw [Nat.succ_mul] at h1
        omega
      rw [List.getElem?_append_left (by rw [flatK_length h]; exact this)]
      exact flatK_at h hj n (by omega)
theorem flatK_inv {c : Nat → List Value} {k : Nat} (h : ∀ i, (c i).length = k) {q : Nat} {u : Value} : ∀ n, (flatK c n)[q]? = some u → ∃ i j, i < n ∧ j < k ∧ q = i * k + j ∧ (c i)[j]? = some u
  | 0, hq => by simp [flatK] at hq
  | n + 1, hq => by
    rw [flatK] at hq
    by_cases e : q < n * k
    · rw [List.getElem?_append_left (by rw [flatK_length h]; exact e)] at hq
      obtain ⟨i, j, h1, h2, h3, h4⟩ := flatK_inv h n hq
      exact ⟨i, j, by omega, h2, h3, h4⟩
    · rw [List.getElem?_append_right (by rw [flatK_length h]; omega), flatK_length h] at hq
      have hl := (List.getElem?_eq_some_iff.1 hq).1
      rw [h n] at hl
      exact ⟨n, q - n * k, by omega, hl, by omega, hq⟩
theorem flatK_mem {c : Nat → List Value} {u : Value} : ∀ n, u ∈ flatK c n → ∃ i, i < n ∧ u ∈ c i
  | 0, h => by simp [flatK] at h
  | n + 1, h => by
    rw [flatK, List.mem_append] at h
    rcases h with h | h
    · obtain ⟨i, h1, h2⟩ := flatK_mem n h
      exact ⟨i, by omega, h2⟩
    · exact ⟨n, by omega, h⟩
theorem flatK_same {c d : Nat → List Value} : ∀ n, (∀ i, i < n → c i = d i) → flatK c n = flatK d n
  | 0, _ => rfl
  | n + 1, h => by rw [flatK, flatK, flatK_same n (fun i hi => h i (by omega)), h n (by omega)]
end Go.Proofs.Ytlgnbnojjfgfmaa.RU
