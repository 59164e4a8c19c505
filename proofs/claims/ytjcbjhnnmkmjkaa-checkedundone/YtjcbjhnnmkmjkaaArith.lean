/-
  Contracts of package checked's Sub, Neg and Mul and of what they call (size, times, Mul64), for every input.
-/
import Derived.Test.YtjcbjhnnmkmjkaaWide
import Derived.Lib.Mul64
import Derived.Laws.Bits64b
namespace Go.Proofs.Ytjcbjhnnmkmjkaa
open Go.ChangeShapes Go.WideShapes Go.ChangeAt Go.RowKit

set_option maxHeartbeats 400000 in
theorem sub_any (a b : Int) (w : World) (a1 : -9223372036854775808 ≤ a) (a2 : a ≤ 9223372036854775807) (b1 : -9223372036854775808 ≤ b) (b2 : b ≤ 9223372036854775807) :
    Calls Try.prog 12 #[.int .i64 a, .int .i64 b] w fun e w' => e = .returned (.tuple #[.int .i64 (ansN (a - b)), .int .i64 (ansE (a - b))]) ∧ Below w.heap.size w w' := by
  have hz : Fits (a - b) := by unfold Fits; omega
  go_enter Try.func12, Try.ntmps12
  go_wp2_with fail
  refine (widen_any a _ a1 a2).mono ?_
  rintro e w1 ⟨rfl, hb1⟩
  go_wp2_with fail
  refine (widen_any b _ b1 b2).mono ?_
  rintro e w2 ⟨rfl, hb2⟩
  go_wp2_with fail
  refine (minus_any b _).mono ?_
  rintro e w3 ⟨rfl, hb3⟩
  go_wp2_with fail
  refine (plus_any a (-b) _).mono ?_
  rintro e w4 ⟨rfl, hb4⟩
  rw [show a + -b = a - b from by omega]
  go_wp2_with fail
  refine (narrow_any (a - b) _ hz).mono ?_
  rintro e w5 ⟨rfl, hb5⟩
  go_wp2_with fail
  refine (answer_any (a - b) _).mono ?_
  rintro e w6 ⟨rfl, rfl⟩
  go_wp2
  go_ret2
  have s1 := hb1.size
  have s2 := hb2.size
  have s3 := hb3.size
  have s4 := hb4.size
  exact ⟨rfl, (((hb1.trans (hb2.mono s1)).trans (hb3.mono (by omega))).trans (hb4.mono (by omega))).trans (hb5.mono (by omega))⟩

set_option maxHeartbeats 400000 in
theorem neg_any (a : Int) (w : World) (a1 : -9223372036854775808 ≤ a) (a2 : a ≤ 9223372036854775807) :
    Calls Try.prog 13 #[.int .i64 a] w fun e w' => e = .returned (.tuple #[.int .i64 (ansN (-a)), .int .i64 (ansE (-a))]) ∧ Below w.heap.size w w' := by
  have hz : Fits (-a) := by unfold Fits; omega
  go_enter Try.func13, Try.ntmps13
  go_wp2_with fail
  refine (widen_any a _ a1 a2).mono ?_
  rintro e w1 ⟨rfl, hb1⟩
  go_wp2_with fail
  refine (minus_any a _).mono ?_
  rintro e w3 ⟨rfl, hb3⟩
  go_wp2_with fail
  refine (narrow_any (-a) _ hz).mono ?_
  rintro e w5 ⟨rfl, hb5⟩
  go_wp2_with fail
  refine (answer_any (-a) _).mono ?_
  rintro e w6 ⟨rfl, rfl⟩
  go_wp2
  go_ret2
  have s1 := hb1.size
  have s3 := hb3.size
  exact ⟨rfl, (hb1.trans (hb3.mono s1)).trans (hb5.mono (by omega))⟩

theorem size_neg (n : Int) (h : n < 0) (h1 : -9223372036854775808 ≤ n) : IntKind.u64.wrap (-IntKind.u64.wrap n) = (n.natAbs : Int) := by
  rw [IntKind.wrap_u64, IntKind.wrap_u64]; omega
theorem ret_int {k : IntKind} {a b : Int} (h : a = b) : Ending.returned (.int k a) = .returned (.int k b) := by rw [h]
theorem size_any (n : Int) (w : World) (h1 : -9223372036854775808 ≤ n) (h2 : n ≤ 9223372036854775807) :
    Calls Try.prog 45 #[.int .i64 n] w fun e w' => e = .returned (.int .u64 (n.natAbs : Int)) ∧ w' = w := by
  by_cases h : n < 0
  · go_enter Try.func45, Try.ntmps45
    go_wp2
    go_ret
    exact ⟨ret_int (size_neg n h h1), rfl⟩
  · go_enter Try.func45, Try.ntmps45
    go_wp2
    go_ret
    exact ⟨ret_int (by omega), rfl⟩

namespace Mul64
theorem maskN (a : Nat) (ha : a < 18446744073709551616) : bits .and .u64 (a : Int) 4294967295 = ((a % 4294967296 : Nat) : Int) := by
  have h := bits_and_u64_nat a 4294967295 ha (by omega)
  have e : a &&& 4294967295 = a % 4294967296 := Nat.and_two_pow_sub_one_eq_mod a 32
  rw [e] at h
  exact h
theorem divN (a : Nat) : (a : Int) / 4294967296 = ((a / 4294967296 : Nat) : Int) := by omega
theorem mulN (a b : Nat) : (a : Int) * (b : Int) = ((a * b : Nat) : Int) := (Int.natCast_mul a b).symm
theorem addN (a b : Nat) : (a : Int) + (b : Int) = ((a + b : Nat) : Int) := (Int.natCast_add a b).symm
theorem wrapN (a : Nat) (ha : a < 18446744073709551616) : IntKind.u64.wrap (a : Int) = (a : Int) := by rw [IntKind.wrap_u64]; omega
theorem wrapM (a : Nat) : IntKind.u64.wrap (a : Int) = ((a % 18446744073709551616 : Nat) : Int) := by rw [IntKind.wrap_u64]; omega
end Mul64
theorem prod_lt (x y : Nat) (hx : x < 18446744073709551616) (hy : y < 18446744073709551616) : x * y < 340282366920938463463374607431768211456 := by
  have := Nat.mul_le_mul (Nat.le_sub_one_of_lt hx) (Nat.le_sub_one_of_lt hy); omega
theorem hi_prod (p : Nat) (h : p < 340282366920938463463374607431768211456) : ((p / 18446744073709551616 : Nat) : Int) = hi (p : Int) := by unfold hi; omega
theorem lo_prod (p : Nat) : ((p % 18446744073709551616 : Nat) : Int) = lo (p : Int) := by unfold lo; omega

set_option maxHeartbeats 1000000 in
theorem mul64_any (x y : Nat) (hx : x < 18446744073709551616) (hy : y < 18446744073709551616) (w : World) :
    Calls Try.prog 44 #[.int .u64 x, .int .u64 y] w fun e w' => e = .returned (.tuple #[.int .u64 (hi ((x : Int) * (y : Int))), .int .u64 (lo ((x : Int) * (y : Int)))]) ∧ w' = w := by
  obtain ⟨bd, bt, bw, hhi⟩ := Lib.mul64_hi x y hx hy
  have ba := Lib.half_mul_le (a := x / 4294967296) (b := y / 4294967296) (by omega) (by omega)
  have bb := Lib.half_mul_le (a := x / 4294967296) (b := y % 4294967296) (by omega) (by omega)
  have bc := Lib.half_mul_le (a := x % 4294967296) (b := y / 4294967296) (by omega) (by omega)
  have ba' : x / 4294967296 * (y / 4294967296) < 18446744073709551616 := by omega
  have bb' : x / 4294967296 * (y % 4294967296) < 18446744073709551616 := by omega
  have bc' : x % 4294967296 * (y / 4294967296) < 18446744073709551616 := by omega
  have bh1 : x / 4294967296 * (y / 4294967296) + (x / 4294967296 * (y % 4294967296) + x % 4294967296 * (y % 4294967296) / 4294967296) / 4294967296 < 18446744073709551616 := by omega
  have bh : x / 4294967296 * (y / 4294967296) + (x / 4294967296 * (y % 4294967296) + x % 4294967296 * (y % 4294967296) / 4294967296) / 4294967296 + ((x / 4294967296 * (y % 4294967296) + x % 4294967296 * (y % 4294967296) / 4294967296) % 4294967296 + x % 4294967296 * (y / 4294967296)) / 4294967296 < 18446744073709551616 := by omega
  have e1 := hi_prod (x * y) (prod_lt x y hx hy)
  have e2 := lo_prod (x * y)
  have H1 : Hid (((x * y / 18446744073709551616 : Nat) : Int) = hi ((x : Int) * (y : Int))) := by rw [← Int.natCast_mul]; exact e1
  have H2 : Hid (((x * y % 18446744073709551616 : Nat) : Int) = lo ((x : Int) * (y : Int))) := by rw [← Int.natCast_mul]; exact e2
  clear e1 e2
  go_enter Try.func44, Try.ntmps44
  go_wp2
  simp only [Mul64.maskN x hx, Mul64.maskN y hy, Mul64.divN, Mul64.mulN, Mul64.addN, Mul64.wrapN _ bd, Mul64.wrapN _ bb', Mul64.wrapN _ bt, Mul64.maskN _ bt, Mul64.wrapN _ bc', Mul64.wrapN _ bw, Mul64.wrapN _ ba', Mul64.wrapN _ bh1, Mul64.wrapN _ bh, Mul64.wrapM (x * y)]
  rw [hhi, H1.out, H2.out]
  go_ret2
  exact ⟨rfl, rfl⟩

theorem abs_mul_same (a b : Int) (h : decide (a < 0) = decide (b < 0)) : (a.natAbs : Int) * (b.natAbs : Int) = a * b := by
  by_cases ha : a < 0
  · have hb : b < 0 := by simpa [ha] using h
    rw [show (a.natAbs : Int) = -a from by omega, show (b.natAbs : Int) = -b from by omega, Int.neg_mul_neg]
  · have hb : ¬ b < 0 := by simpa [ha] using h
    rw [show (a.natAbs : Int) = a from by omega, show (b.natAbs : Int) = b from by omega]
theorem abs_mul_apart (a b : Int) (h : decide (a < 0) = !decide (b < 0)) : -((a.natAbs : Int) * (b.natAbs : Int)) = a * b := by
  by_cases ha : a < 0
  · have hb : ¬ b < 0 := by simpa [ha] using h
    rw [show (a.natAbs : Int) = -a from by omega, show (b.natAbs : Int) = b from by omega, Int.neg_mul, Int.neg_neg]
  · have hb : b < 0 := by simpa [ha] using h
    rw [show (a.natAbs : Int) = a from by omega, show (b.natAbs : Int) = -b from by omega, Int.mul_neg, Int.neg_neg]
set_option maxHeartbeats 1000000 in
theorem times_same (a b : Int) (s : Bool) (ha : decide (a < 0) = s) (hb : decide (b < 0) = s) (w : World) (a1 : -9223372036854775808 ≤ a) (a2 : a ≤ 9223372036854775807) (b1 : -9223372036854775808 ≤ b) (b2 : b ≤ 9223372036854775807) :
    Calls Try.prog 35 #[.int .i64 a, .int .i64 b] w fun e w' => e = .returned (.agg #[.int .u64 (hi (a * b)), .int .u64 (lo (a * b))]) ∧ Below w.heap.size w w' := by
  have H : Hid ((a.natAbs : Int) * (b.natAbs : Int) = a * b) := abs_mul_same a b (ha.trans hb.symm)
  go_enter Try.func35, Try.ntmps35
  go_wp2_with fail
  refine (size_any a _ a1 a2).mono ?_
  rintro e w1 ⟨rfl, rfl⟩
  go_wp2_with fail
  refine (size_any b _ b1 b2).mono ?_
  rintro e w1 ⟨rfl, rfl⟩
  go_wp2_with fail
  refine (mul64_any a.natAbs b.natAbs (by omega) (by omega) _).mono ?_
  rintro e w1 ⟨rfl, rfl⟩
  rw [H.out]
  cases s
  all_goals
    go_wp2_with fail
    refine bodyPost_ret (v := .agg #[.int .u64 (hi (a * b)), .int .u64 (lo (a * b))]) (by simp [results, Try.results35, go_sem]) rfl ⟨rfl, ?_⟩
    exact (Below.refl _ _).alloc (Nat.le_refl _) _
set_option maxHeartbeats 1000000 in
theorem times_apart (a b : Int) (s : Bool) (ha : decide (a < 0) = s) (hb : decide (b < 0) = !s) (w : World) (a1 : -9223372036854775808 ≤ a) (a2 : a ≤ 9223372036854775807) (b1 : -9223372036854775808 ≤ b) (b2 : b ≤ 9223372036854775807) :
    Calls Try.prog 35 #[.int .i64 a, .int .i64 b] w fun e w' => e = .returned (.agg #[.int .u64 (hi (a * b)), .int .u64 (lo (a * b))]) ∧ Below w.heap.size w w' := by
  have H : Hid (-((a.natAbs : Int) * (b.natAbs : Int)) = a * b) := abs_mul_apart a b (by rw [ha, hb]; simp)
  go_enter Try.func35, Try.ntmps35
  go_wp2_with fail
  refine (size_any a _ a1 a2).mono ?_
  rintro e w1 ⟨rfl, rfl⟩
  go_wp2_with fail
  refine (size_any b _ b1 b2).mono ?_
  rintro e w1 ⟨rfl, rfl⟩
  go_wp2_with fail
  refine (mul64_any a.natAbs b.natAbs (by omega) (by omega) _).mono ?_
  rintro e w1 ⟨rfl, rfl⟩
  cases s
  all_goals
    go_wp2_with fail
    refine (minus_any _ _).mono ?_
    rintro e w2 ⟨rfl, hb2⟩
    rw [H.out]
    obtain ⟨hc, hf⟩ := bcell hb2
    have q0 := hc w.heap.size 0 (by simp)
    have q1 := hc w.heap.size 1 (by simp)
    have q2 := hf w.heap.size 0 (by simp)
    have q3 := hf w.heap.size 1 (by simp)
    have hz := hb2.size
    simp at q0 q1 q2 q3 hz
    go_wp2_with fail
    refine bodyPost_ret (v := .agg #[.int .u64 (hi (a * b)), .int .u64 (lo (a * b))]) (by simp [results, Try.results35, go_sem, q0, q1]) rfl ⟨rfl, ?_⟩
    exact ((((Below.refl _ _).alloc (Nat.le_refl _) _).trans (hb2.mono (B' := w.heap.size) (by simp))).setCell (by simp) _).setCell (by simp) _
theorem times_any (a b : Int) (w : World) (a1 : -9223372036854775808 ≤ a) (a2 : a ≤ 9223372036854775807) (b1 : -9223372036854775808 ≤ b) (b2 : b ≤ 9223372036854775807) :
    Calls Try.prog 35 #[.int .i64 a, .int .i64 b] w fun e w' => e = .returned (.agg #[.int .u64 (hi (a * b)), .int .u64 (lo (a * b))]) ∧ Below w.heap.size w w' := by
  by_cases h : decide (b < 0) = decide (a < 0)
  · exact times_same a b _ rfl h w a1 a2 b1 b2
  · exact times_apart a b _ rfl (by revert h; cases decide (b < 0) <;> cases decide (a < 0) <;> simp) w a1 a2 b1 b2

theorem fits_mul (a b : Int) (a1 : -9223372036854775808 ≤ a) (a2 : a ≤ 9223372036854775807) (b1 : -9223372036854775808 ≤ b) (b2 : b ≤ 9223372036854775807) : Fits (a * b) := by
  have h := Nat.mul_le_mul (show a.natAbs ≤ 9223372036854775808 by omega) (show b.natAbs ≤ 9223372036854775808 by omega)
  rw [← Int.natAbs_mul] at h
  unfold Fits; omega
set_option maxHeartbeats 400000 in
theorem mul_any (a b : Int) (w : World) (a1 : -9223372036854775808 ≤ a) (a2 : a ≤ 9223372036854775807) (b1 : -9223372036854775808 ≤ b) (b2 : b ≤ 9223372036854775807) :
    Calls Try.prog 18 #[.int .i64 a, .int .i64 b] w fun e w' => e = .returned (.tuple #[.int .i64 (ansN (a * b)), .int .i64 (ansE (a * b))]) ∧ Below w.heap.size w w' := by
  have hz : Fits (a * b) := fits_mul a b a1 a2 b1 b2
  go_enter Try.func18, Try.ntmps18
  go_wp2_with fail
  refine (times_any a b _ a1 a2 b1 b2).mono ?_
  rintro e w1 ⟨rfl, hb1⟩
  go_wp2_with fail
  refine (narrow_any (a * b) _ hz).mono ?_
  rintro e w5 ⟨rfl, hb5⟩
  go_wp2_with fail
  refine (answer_any (a * b) _).mono ?_
  rintro e w6 ⟨rfl, rfl⟩
  go_wp2
  go_ret2
  exact ⟨rfl, hb1.trans (hb5.mono hb1.size)⟩
end Go.Proofs.Ytjcbjhnnmkmjkaa
