/-
  Contracts of the reference's Three, Read and ReadLength.
-/
import Derived.Test.YtcgojnofkbjinaaSumForms
import Derived.Test.YtcgojnofkbjinaaRefDigits
namespace Go.Proofs.Ytcgojnofkbjinaa
open Go.ChangeShapes Go.WideShapes Go.ChangeAt Go.RowKit Go.Lib

theorem nn_join (l : List UInt8) : (⟨#[48, 48]⟩ : ByteArray) ++ mk l = mk (48 :: 48 :: l) := by
  apply bytes_ext8
  simp [mk]
set_option maxRecDepth 1000000 in
set_option maxHeartbeats 4000000 in
theorem refThree_any (n : Nat) (w : World) (hn : n < 256) :
    Calls Try.prog 30 #[.int .i64 (n : Int)] w fun e w' => e = .returned (.string (mk (three n))) ∧ Below w.heap.size w w' := by
  have F := fun w => refDigits_any n (by omega) w
  have hj := nn_join (decDigits n)
  have hL : (decDigits n).length = 1 ∨ (decDigits n).length = 2 ∨ (decDigits n).length = 3 := by
    rw [dec_four (by omega)]
    by_cases h1 : n < 10
    · rw [if_pos h1]; exact .inl rfl
    · rw [if_neg h1]
      by_cases h2 : n < 100
      · rw [if_pos h2]; exact .inr (.inl rfl)
      · rw [if_neg h2, if_pos (by omega)]; exact .inr (.inr rfl)
  have hz : (mk (48 :: 48 :: decDigits n)).size = (decDigits n).length + 2 := by rw [mk_size]; rfl
  have hzD : (mk (decDigits n)).size = (decDigits n).length := mk_size _
  have he : (mk (48 :: 48 :: decDigits n)).extract ((decDigits n).length + 2 - 3) (mk (48 :: 48 :: decDigits n)).size = mk (three n) := by
    rw [ext_tail, mk_list, three_dec hn]
  rw [hz] at he
  generalize mk (48 :: 48 :: decDigits n) = S at *
  generalize mk (decDigits n) = D at *
  generalize (decDigits n).length = L at *
  generalize mk (three n) = T at *
  rcases hL with rfl | rfl | rfl
  all_goals
    go_enter Try.func30, Try.ntmps30
    go_wp2_with fail
    refine (F _).mono ?_
    rintro e w1 ⟨rfl, hb⟩
    go_wp2_with fail
    go_ret
    exact ⟨by first | rfl | (rw [← he]), hb⟩
end Go.Proofs.Ytcgojnofkbjinaa
