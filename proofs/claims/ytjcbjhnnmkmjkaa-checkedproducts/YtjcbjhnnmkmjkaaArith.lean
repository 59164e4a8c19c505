/-
  Contracts of package checked's Sub, Neg and Mul, for every input.
-/
import Derived.Test.YtjcbjhnnmkmjkaaTimes
namespace Go.Proofs.Ytjcbjhnnmkmjkaa
open Go.ChangeShapes Go.WideShapes Go.ChangeAt Go.RowKit

set_option maxHeartbeats 400000 in
theorem sub_any (a b : Int) (w : World) (a1 : -9223372036854775808 ≤ a) (a2 : a ≤ 9223372036854775807) (b1 : -9223372036854775808 ≤ b) (b2 : b ≤ 9223372036854775807) :
    Calls Try.prog 12 #[.int .i64 a, .int .i64 b] w fun e w' => e = .returned (.tuple #[.int .i64 (ansN (a - b)), .int .i64 (ansE (a - b))]) ∧ Below w.heap.size w w' := by
  have hz : Fits (a - b) := by unfold Fits; omega
  go_enter Try.func12, Try.ntmps12
  go_wp2_with fail
  refine (widen_any a _ a1 a2).mono ?_
  rintro e w1 ⟨rfl, hb1⟩
  go_wp2_with fail
  refine (widen_any b _ b1 b2).mono ?_
  rintro e w2 ⟨rfl, hb2⟩
  go_wp2_with fail
  refine (minus_any b _).mono ?_
  rintro e w3 ⟨rfl, hb3⟩
  go_wp2_with fail
  refine (plus_any a (-b) _).mono ?_
  rintro e w4 ⟨rfl, hb4⟩
  rw [show a + -b = a - b from by omega]
  go_wp2_with fail
  refine (narrow_any (a - b) _ hz).mono ?_
  rintro e w5 ⟨rfl, hb5⟩
  go_wp2_with fail
  refine (answer_any (a - b) _).mono ?_
  rintro e w6 ⟨rfl, rfl⟩
  go_wp2
  go_ret2
  have s1 := hb1.size
  have s2 := hb2.size
  have s3 := hb3.size
  have s4 := hb4.size
  exact ⟨rfl, (((hb1.trans (hb2.mono s1)).trans (hb3.mono (by omega))).trans (hb4.mono (by omega))).trans (hb5.mono (by omega))⟩

set_option maxHeartbeats 400000 in
theorem neg_any (a : Int) (w : World) (a1 : -9223372036854775808 ≤ a) (a2 : a ≤ 9223372036854775807) :
    Calls Try.prog 13 #[.int .i64 a] w fun e w' => e = .returned (.tuple #[.int .i64 (ansN (-a)), .int .i64 (ansE (-a))]) ∧ Below w.heap.size w w' := by
  have hz : Fits (-a) := by unfold Fits; omega
  go_enter Try.func13, Try.ntmps13
  go_wp2_with fail
  refine (widen_any a _ a1 a2).mono ?_
  rintro e w1 ⟨rfl, hb1⟩
  go_wp2_with fail
  refine (minus_any a _).mono ?_
  rintro e w3 ⟨rfl, hb3⟩
  go_wp2_with fail
  refine (narrow_any (-a) _ hz).mono ?_
  rintro e w5 ⟨rfl, hb5⟩
  go_wp2_with fail
  refine (answer_any (-a) _).mono ?_
  rintro e w6 ⟨rfl, rfl⟩
  go_wp2
  go_ret2
  have s1 := hb1.size
  have s3 := hb3.size
  exact ⟨rfl, (hb1.trans (hb3.mono s1)).trans (hb5.mono (by omega))⟩

set_option maxHeartbeats 400000 in
theorem mul_any (a b : Int) (w : World) (a1 : -9223372036854775808 ≤ a) (a2 : a ≤ 9223372036854775807) (b1 : -9223372036854775808 ≤ b) (b2 : b ≤ 9223372036854775807) :
    Calls Try.prog 18 #[.int .i64 a, .int .i64 b] w fun e w' => e = .returned (.tuple #[.int .i64 (ansN (a * b)), .int .i64 (ansE (a * b))]) ∧ Below w.heap.size w w' := by
  have hz : Fits (a * b) := fits_mul a b a1 a2 b1 b2
  go_enter Try.func18, Try.ntmps18
  go_wp2_with fail
  refine (times_any a b _ a1 a2 b1 b2).mono ?_
  rintro e w1 ⟨rfl, hb1⟩
  go_wp2_with fail
  refine (narrow_any (a * b) _ hz).mono ?_
  rintro e w5 ⟨rfl, hb5⟩
  go_wp2_with fail
  refine (answer_any (a * b) _).mono ?_
  rintro e w6 ⟨rfl, rfl⟩
  go_wp2
  go_ret2
  exact ⟨rfl, hb1.trans (hb5.mono hb1.size)⟩
end Go.Proofs.Ytjcbjhnnmkmjkaa
