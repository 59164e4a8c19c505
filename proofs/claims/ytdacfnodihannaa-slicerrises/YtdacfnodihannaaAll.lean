/-
  Contracts of package checked's Down and Up for every input, with nothing left open; small facts on the answers.
-/
import Derived.Test.YtdacfnodihannaaDown
import Derived.Test.YtdacfnodihannaaDiv64
namespace Go.Proofs.Ytdacfnodihannaa
open Go.ChangeShapes Go.WideShapes Go.ChangeAt Go.RowKit

theorem ansE_ok (z : Int) (h : ansE z = 0) : (-9223372036854775808 ≤ z ∧ z ≤ 9223372036854775807) ∧ ansN z = z := by
  unfold ansE at h
  unfold ansN
  by_cases k : -9223372036854775808 ≤ z ∧ z ≤ 9223372036854775807
  · exact ⟨k, if_pos k⟩
  · rw [if_neg k] at h; exact absurd h (by decide)
theorem ans_in (z : Int) (k : -9223372036854775808 ≤ z ∧ z ≤ 9223372036854775807) : ansN z = z ∧ ansE z = 0 := by
  unfold ansN ansE; exact ⟨if_pos k, if_pos k⟩
theorem ansE_one (z : Int) : ansE z = 0 ∨ ansE z = 10 := by unfold ansE; split <;> simp
/-- What Div64 owes wherever a fraction is made. -/
theorem div_all (p c : Int) (c1 : -9223372036854775808 ≤ c) (c2 : c ≤ 9223372036854775807) (hc : (c == 0) = false) : DivOk (hiN (p.natAbs : Int) % c.natAbs) (loN (p.natAbs : Int)) c.natAbs := by
  have hc' := beq_eq_false_iff_ne.1 hc
  have h0 : 0 < c.natAbs := by omega
  exact div64_any _ _ _ (by have := lo_bd (p.natAbs : Int); unfold loN; omega) (by omega) (Nat.mod_lt _ h0)
theorem downs (a b c p : Int) (hpe : Hid (a * b = p)) (w : World) (a1 : -9223372036854775808 ≤ a) (a2 : a ≤ 9223372036854775807) (b1 : -9223372036854775808 ≤ b) (b2 : b ≤ 9223372036854775807)
    (c1 : -9223372036854775808 ≤ c) (c2 : c ≤ 9223372036854775807) (hc : (c == 0) = false) :
    Calls Try.prog 38 #[.int .i64 a, .int .i64 b, .int .i64 c] w fun e w' => e = .returned (.tuple #[.int .i64 (ansN (frac p c false)), .int .i64 (ansE (frac p c false))]) ∧ Below w.heap.size w w' :=
  down_any a b c p hpe w a1 a2 b1 b2 c1 c2 hc (div_all p c c1 c2 hc)
/-- Up is down, or one more. -/
theorem frac_next (p c : Int) : frac p c true = frac p c false ∨ frac p c true - 1 = frac p c false := by
  unfold frac
  split
  · by_cases h : (p.natAbs : Int) % (c.natAbs : Int) = 0
    · left; simp [h]
    · right; simp [h]; omega
  · by_cases h : (p.natAbs : Int) % (c.natAbs : Int) = 0
    · left; simp [h]
    · right; simp [h]
/-- A number times another one, by that one. -/
theorem frac_same (a c : Int) (hc : c ≠ 0) (up : Bool) : frac (a * c) c up = a := by
  have h0 : (c.natAbs : Int) ≠ 0 := by omega
  have e : ((a * c).natAbs : Int) = (a.natAbs : Int) * (c.natAbs : Int) := by rw [Int.natAbs_mul, Int.natCast_mul]
  have q : ((a * c).natAbs : Int) / (c.natAbs : Int) = (a.natAbs : Int) := by rw [e, Int.mul_ediv_cancel _ h0]
  have r : ((a * c).natAbs : Int) % (c.natAbs : Int) = 0 := by rw [e, Int.mul_emod_left]
  unfold frac
  rw [q, r]
  simp only [ne_eq, not_true_eq_false, false_and, if_false]
  by_cases ha : a = 0
  · subst ha; simp
  · by_cases hn : a < 0
    · by_cases hcn : c < 0
      · have : 0 < a * c := Int.mul_pos_of_neg_of_neg hn hcn
        rw [show decide (a * c < 0) = false by simp; omega, show decide (c < 0) = true by simp; omega]; simp; omega
      · have : a * c < 0 := Int.mul_neg_of_neg_of_pos hn (by omega)
        rw [show decide (a * c < 0) = true by simp; omega, show decide (c < 0) = false by simp; omega]; simp; omega
    · by_cases hcn : c < 0
      · have : a * c < 0 := Int.mul_neg_of_pos_of_neg (by omega) hcn
        rw [show decide (a * c < 0) = true by simp; omega, show decide (c < 0) = true by simp; omega]; simp; omega
      · have : 0 < a * c := Int.mul_pos (by omega) (by omega)
        rw [show decide (a * c < 0) = false by simp; omega, show decide (c < 0) = false by simp; omega]; simp; omega
/-- Of numbers that are not below 0, down is the plain quotient. -/
theorem frac_plain (p c : Int) (hp : 0 ≤ p) (hc : 0 < c) : frac p c false = p / c := by
  unfold frac
  rw [show decide (p < 0) = false by simp; omega, show decide (c < 0) = false by simp; omega, show (p.natAbs : Int) = p by omega, show (c.natAbs : Int) = c by omega]
  simp
end Go.Proofs.Ytdacfnodihannaa
