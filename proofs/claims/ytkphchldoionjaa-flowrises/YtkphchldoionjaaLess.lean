/-
  Contracts of package checked's below and Less and of the reference's Below.
-/
import Derived.Test.YtkphchldoionjaaRefTold
import Derived.Test.YtkphchldoionjaaRefMul
import Derived.Test.YtkphchldoionjaaTimes
namespace Go.Proofs.Ytkphchldoionjaa
open Go.ChangeShapes Go.WideShapes Go.ChangeAt Go.RowKit

theorem below_hi (x y : Int) (hx : Fits x) (hy : Fits y) (h : ¬ hi x = hi y) : (wrap64 (hi x) < wrap64 (hi y)) ↔ x < y := by
  unfold Fits at hx hy; unfold hi at *; unfold wrap64; omega
theorem below_lo (x y : Int) (hx : Fits x) (hy : Fits y) (h : hi x = hi y) : (lo x < lo y) ↔ x < y := by
  unfold Fits at hx hy; unfold hi lo at *; omega
set_option maxHeartbeats 400000 in
theorem below_any (x y : Int) (w : World) (hx : Fits x) (hy : Fits y) :
    Calls Try.prog 22 #[.agg #[.int .u64 (hi x), .int .u64 (lo x)], .agg #[.int .u64 (hi y), .int .u64 (lo y)]] w fun e w' => e = .returned (.bool (decide (x < y))) ∧ Below w.heap.size w w' := by
  by_cases h : hi x = hi y
  · have e : Hid (decide (lo x < lo y) = decide (x < y)) := decide_eq_decide.2 (below_lo x y hx hy h)
    have hb : (hi x == hi y) = true := by simp [h]
    have hn : (hi x != hi y) = false := by simp [h]
    clear h
    go_enter Try.func22, Try.ntmps22
    go_wp2
    go_ret
    exact ⟨by rw [← e.out]; rfl, ((Below.refl _ _).alloc (Nat.le_refl _) _).alloc (by simp) _⟩
  · have e : Hid (decide (wrap64 (hi x) < wrap64 (hi y)) = decide (x < y)) := decide_eq_decide.2 (below_hi x y hx hy h)
    have hb : (hi x == hi y) = false := by simp [h]
    have hn : (hi x != hi y) = true := by simp [h]
    clear h
    go_enter Try.func22, Try.ntmps22
    go_wp2
    go_ret
    exact ⟨by rw [← e.out]; rfl, ((Below.refl _ _).alloc (Nat.le_refl _) _).alloc (by simp) _⟩
set_option maxHeartbeats 400000 in
theorem less_any (a b c d : Int) (w : World) (a1 : -9223372036854775808 ≤ a) (a2 : a ≤ 9223372036854775807) (b1 : -9223372036854775808 ≤ b) (b2 : b ≤ 9223372036854775807) (c1 : -9223372036854775808 ≤ c) (c2 : c ≤ 9223372036854775807) (d1 : -9223372036854775808 ≤ d) (d2 : d ≤ 9223372036854775807) :
    Calls Try.prog 14 #[.int .i64 a, .int .i64 b, .int .i64 c, .int .i64 d] w fun e w' => e = .returned (.bool (decide (a * b < c * d))) ∧ Below w.heap.size w w' := by
  have f1 := fits_mul a b a1 a2 b1 b2
  have f2 := fits_mul c d c1 c2 d1 d2
  go_enter Try.func14, Try.ntmps14
  go_wp2_with fail
  refine (times_any a b _ a1 a2 b1 b2).mono ?_
  rintro e w1 ⟨rfl, hb1⟩
  go_wp2_with fail
  refine (times_any c d _ c1 c2 d1 d2).mono ?_
  rintro e w2 ⟨rfl, hb2⟩
  go_wp2_with fail
  refine (below_any (a * b) (c * d) _ f1 f2).mono ?_
  rintro e w3 ⟨rfl, hb3⟩
  have s1 := hb1.size
  have s2 := hb2.size
  go_wp2_with fail
  go_ret
  exact ⟨rfl, (hb1.trans (hb2.mono s1)).trans (hb3.mono (by omega))⟩
end Go.Proofs.Ytkphchldoionjaa
