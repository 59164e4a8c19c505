/-
  Contracts of package checked's size and times and of math/bits' Mul64, for every input.
-/
import Derived.Test.YtdacfnodihannaaWide
namespace Go.Proofs.Ytdacfnodihannaa
open Go.ChangeShapes Go.WideShapes Go.ChangeAt Go.RowKit

theorem size_neg (n : Int) (h : n < 0) (h1 : -9223372036854775808 ≤ n) : IntKind.u64.wrap (-IntKind.u64.wrap n) = (n.natAbs : Int) := by
  rw [IntKind.wrap_u64, IntKind.wrap_u64]; omega
theorem ret_int {k : IntKind} {a b : Int} (h : a = b) : Ending.returned (.int k a) = .returned (.int k b) := by rw [h]
theorem size_any (n : Int) (w : World) (h1 : -9223372036854775808 ≤ n) (h2 : n ≤ 9223372036854775807) :
    Calls Try.prog 68 #[.int .i64 n] w fun e w' => e = .returned (.int .u64 (n.natAbs : Int)) ∧ w' = w := by
  by_cases h : n < 0
  · go_enter Try.func68, Try.ntmps68
    go_wp2
    go_ret
    exact ⟨ret_int (size_neg n h h1), rfl⟩
  · go_enter Try.func68, Try.ntmps68
    go_wp2
    go_ret
    exact ⟨ret_int (by omega), rfl⟩

theorem words_prod (x y : Nat) (hx : x < 18446744073709551616) (hy : y < 18446744073709551616) : (x : Int) * (y : Int) / 18446744073709551616 = hi ((x : Int) * (y : Int)) := by
  have h := Nat.mul_le_mul (Nat.le_sub_one_of_lt hx) (Nat.le_sub_one_of_lt hy)
  rw [← Int.natCast_mul]
  unfold hi
  generalize x * y = p at *
  omega
set_option maxHeartbeats 1000000 in
theorem mul64_any (x y : Nat) (hx : x < 18446744073709551616) (hy : y < 18446744073709551616) (w : World) :
    Calls Try.prog 76 #[.int .u64 x, .int .u64 y] w fun e w' => e = .returned (.tuple #[.int .u64 (hi ((x : Int) * (y : Int))), .int .u64 (lo ((x : Int) * (y : Int)))]) ∧ w' = w := by
  have H : Hid (_ = hi ((x : Int) * (y : Int))) := (mul64_arith x y (by omega) (by omega) (by omega) (by omega)).trans (words_prod x y hx hy)
  go_enter Try.func76, Try.ntmps76
  go_wp2
  simp only [IntKind.wrap_u64, and_low32 (x : Int) (by omega) (by omega), and_low32 (y : Int) (by omega) (by omega), and_low32 (_ % 18446744073709551616) (Int.emod_nonneg _ (by decide)) (Int.emod_lt_of_pos _ (by decide))]
  rw [H.out]
  go_ret2
  exact ⟨rfl, rfl⟩
theorem abs_mul_same (a b : Int) (h : decide (a < 0) = decide (b < 0)) : (a.natAbs : Int) * (b.natAbs : Int) = a * b := by
  by_cases ha : a < 0
  · have hb : b < 0 := by simpa [ha] using h
    rw [show (a.natAbs : Int) = -a from by omega, show (b.natAbs : Int) = -b from by omega, Int.neg_mul_neg]
  · have hb : ¬ b < 0 := by simpa [ha] using h
    rw [show (a.natAbs : Int) = a from by omega, show (b.natAbs : Int) = b from by omega]
theorem abs_mul_apart (a b : Int) (h : decide (a < 0) = !decide (b < 0)) : -((a.natAbs : Int) * (b.natAbs : Int)) = a * b := by
  by_cases ha : a < 0
  · have hb : ¬ b < 0 := by simpa [ha] using h
    rw [show (a.natAbs : Int) = -a from by omega, show (b.natAbs : Int) = b from by omega, Int.neg_mul, Int.neg_neg]
  · have hb : b < 0 := by simpa [ha] using h
    rw [show (a.natAbs : Int) = a from by omega, show (b.natAbs : Int) = -b from by omega, Int.mul_neg, Int.neg_neg]
set_option maxHeartbeats 1000000 in
theorem times_same (a b : Int) (s : Bool) (ha : decide (a < 0) = s) (hb : decide (b < 0) = s) (w : World) (a1 : -9223372036854775808 ≤ a) (a2 : a ≤ 9223372036854775807) (b1 : -9223372036854775808 ≤ b) (b2 : b ≤ 9223372036854775807) :
    Calls Try.prog 64 #[.int .i64 a, .int .i64 b] w fun e w' => e = .returned (.agg #[.int .u64 (hi (a * b)), .int .u64 (lo (a * b))]) ∧ Below w.heap.size w w' := by
  have H : Hid ((a.natAbs : Int) * (b.natAbs : Int) = a * b) := abs_mul_same a b (ha.trans hb.symm)
  go_enter Try.func64, Try.ntmps64
  go_wp2_with fail
  refine (size_any a _ a1 a2).mono ?_
  rintro e w1 ⟨rfl, rfl⟩
  go_wp2_with fail
  refine (size_any b _ b1 b2).mono ?_
  rintro e w1 ⟨rfl, rfl⟩
  go_wp2_with fail
  refine (mul64_any a.natAbs b.natAbs (by omega) (by omega) _).mono ?_
  rintro e w1 ⟨rfl, rfl⟩
  rw [H.out]
  cases s
  all_goals
    go_wp2_with fail
    refine bodyPost_ret (v := .agg #[.int .u64 (hi (a * b)), .int .u64 (lo (a * b))]) (by simp [results, Try.results64, go_sem]) rfl ⟨rfl, ?_⟩
    exact (Below.refl _ _).alloc (Nat.le_refl _) _
set_option maxHeartbeats 1000000 in
theorem times_apart (a b : Int) (s : Bool) (ha : decide (a < 0) = s) (hb : decide (b < 0) = !s) (w : World) (a1 : -9223372036854775808 ≤ a) (a2 : a ≤ 9223372036854775807) (b1 : -9223372036854775808 ≤ b) (b2 : b ≤ 9223372036854775807) :
    Calls Try.prog 64 #[.int .i64 a, .int .i64 b] w fun e w' => e = .returned (.agg #[.int .u64 (hi (a * b)), .int .u64 (lo (a * b))]) ∧ Below w.heap.size w w' := by
  have H : Hid (-((a.natAbs : Int) * (b.natAbs : Int)) = a * b) := abs_mul_apart a b (by rw [ha, hb]; simp)
  go_enter Try.func64, Try.ntmps64
  go_wp2_with fail
  refine (size_any a _ a1 a2).mono ?_
  rintro e w1 ⟨rfl, rfl⟩
  go_wp2_with fail
  refine (size_any b _ b1 b2).mono ?_
  rintro e w1 ⟨rfl, rfl⟩
  go_wp2_with fail
  refine (mul64_any a.natAbs b.natAbs (by omega) (by omega) _).mono ?_
  rintro e w1 ⟨rfl, rfl⟩
  cases s
  all_goals
    go_wp2_with fail
    refine (minus_any _ _).mono ?_
    rintro e w2 ⟨rfl, hb2⟩
    rw [H.out]
    obtain ⟨hc, hf⟩ := bcell hb2
    have q0 := hc w.heap.size 0 (by simp)
    have q1 := hc w.heap.size 1 (by simp)
    have q2 := hf w.heap.size 0 (by simp)
    have q3 := hf w.heap.size 1 (by simp)
    have hz := hb2.size
    simp at q0 q1 q2 q3 hz
    go_wp2_with fail
    refine bodyPost_ret (v := .agg #[.int .u64 (hi (a * b)), .int .u64 (lo (a * b))]) (by simp [results, Try.results64, go_sem, q0, q1]) rfl ⟨rfl, ?_⟩
    exact ((((Below.refl _ _).alloc (Nat.le_refl _) _).trans (hb2.mono (B' := w.heap.size) (by simp))).setCell (by simp) _).setCell (by simp) _
theorem times_any (a b : Int) (w : World) (a1 : -9223372036854775808 ≤ a) (a2 : a ≤ 9223372036854775807) (b1 : -9223372036854775808 ≤ b) (b2 : b ≤ 9223372036854775807) :
    Calls Try.prog 64 #[.int .i64 a, .int .i64 b] w fun e w' => e = .returned (.agg #[.int .u64 (hi (a * b)), .int .u64 (lo (a * b))]) ∧ Below w.heap.size w w' := by
  by_cases h : decide (b < 0) = decide (a < 0)
  · exact times_same a b _ rfl h w a1 a2 b1 b2
  · exact times_apart a b _ rfl (by revert h; cases decide (b < 0) <;> cases decide (a < 0) <;> simp) w a1 a2 b1 b2

theorem fits_mul (a b : Int) (a1 : -9223372036854775808 ≤ a) (a2 : a ≤ 9223372036854775807) (b1 : -9223372036854775808 ≤ b) (b2 : b ≤ 9223372036854775807) : Fits (a * b) := by
  have h := Nat.mul_le_mul (show a.natAbs ≤ 9223372036854775808 by omega) (show b.natAbs ≤ 9223372036854775808 by omega)
  rw [← Int.natAbs_mul] at h
  unfold Fits; omega
end Go.Proofs.Ytdacfnodihannaa
