/-
  What the program reads and what the reference finds agree.
-/
import Derived.Test.YtihcbainolichaaSumAwake
import Derived.Test.YtihcbainolichaaSumRef
namespace Go.Proofs.Ytihcbainolichaa
open Go.Lib

/-- What the program read agrees with the number that was found. -/
def Agree (x f y : Int) : Prop := (f = 0 ∧ x = y) ∨ (f = 112 ∧ x = 0 ∧ y = -1)
theorem agree_sum {l : List UInt8} {y : Int} (h : Found three 0 256 l y) : Agree ((sumE l).1 : Int) ((sumE l).2 : Int) y := by
  rcases found_sum h with ⟨a, b⟩ | ⟨a, b⟩
  · exact .inl ⟨by rw [a]; rfl, b.symm⟩
  · exact .inr ⟨by rw [a]; rfl, by rw [a]; rfl, b⟩
theorem agree_len {l : List UInt8} {y : Int} (h : Found decDigits 1 4097 l y) : Agree ((lengthE l).1 : Int) ((lengthE l).2 : Int) y := by
  rcases found_len h with ⟨a, b⟩ | ⟨a, b⟩
  · exact .inl ⟨by rw [a]; rfl, b.symm⟩
  · exact .inr ⟨by rw [a]; rfl, by rw [a]; rfl, b⟩
theorem same_text (D : ByteArray) : (D.toList == D.toList) = true := by simp
theorem empty_text : (mk []).toList.isEmpty = true := by
  rw [empty_bytes]
  exact decide_eq_true rfl
end Go.Proofs.Ytihcbainolichaa
