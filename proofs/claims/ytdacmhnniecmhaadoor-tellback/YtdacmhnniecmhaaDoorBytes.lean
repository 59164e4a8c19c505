/-
  Texts and their bytes: equal, cut, one byte after another: plain mathematics, of no program.
-/
import Derived.Test.YtdacmhnniecmhaaDoorTagForm
import Derived.Lib.Strings
namespace Go.Proofs.YtdacmhnniecmhaaDoor
open Go.Lib

theorem bytes_ext8 {a b : ByteArray} (h : a.data.toList = b.data.toList) : a = b := by
  rw [← list_mk a, ← list_mk b, h]
theorem ext_list (s : ByteArray) (a b : Nat) : s.extract a b = mk ((s.data.toList.drop a).take (b - a)) := by
  rw [← list_mk (s.extract a b), extract_data]
theorem ext_head (s : ByteArray) (b : Nat) : s.extract 0 b = mk (s.data.toList.take b) := by
  rw [ext_list]
  simp
theorem ext_tail (s : ByteArray) (a : Nat) : s.extract a s.size = mk (s.data.toList.drop a) := by
  rw [ext_list, List.take_of_length_le]
  rw [List.length_drop, ← size_eq]
  exact Nat.le_refl _
theorem drop_byte (s : ByteArray) {k : Nat} (h : k < s.size) : s.data.toList.drop k = (s[k]'h) :: s.data.toList.drop (k + 1) := by
  have h' : k < s.data.toList.length := by rw [← size_eq]; exact h
  rw [List.drop_eq_getElem_cons h']
  rfl
theorem digits_len : ∀ n, (decDigits n).length ≤ n + 1 := by
  intro n
  induction n using Nat.strongRecOn with
  | ind n ih =>
    by_cases h : n < 10
    · rw [decDigits_one h]; simp
    · rw [decDigits, dif_neg h, List.length_append]
      have := ih (n / 10) (by omega)
      simp only [List.length_cons, List.length_nil]
      omega
end Go.Proofs.YtdacmhnniecmhaaDoor
