/-
  Contracts of package checked's Down and Up, given what Div64 answers at the words that come up, and of the statements' own 'awake'.
-/
import Derived.Test.YtjcbjhnnmkmjkaaFrac
namespace Go.Proofs.Ytjcbjhnnmkmjkaa
open Go.ChangeShapes Go.WideShapes Go.ChangeAt Go.RowKit

theorem fraction_zero (a b c : Int) (up : Bool) (w : World) (hc : (c == 0) = true) :
    Calls Try.prog 36 #[.int .i64 a, .int .i64 b, .int .i64 c, .bool up] w fun e w' => e = .returned (.iface 67 (.int .i64 11)) ∧ w' = w := by
  go_enter Try.func36, Try.ntmps36
  go_wp2
  go_ret
  exact ⟨rfl, rfl⟩
theorem down_zero (a b c : Int) (w : World) (hc : (c == 0) = true) :
    Calls Try.prog 20 #[.int .i64 a, .int .i64 b, .int .i64 c] w fun e w' => e = .returned (.tuple #[.int .i64 0, .int .i64 11]) ∧ w' = w := by
  go_enter Try.func20, Try.ntmps20
  go_wp2_with fail
  refine (fraction_zero a b c false _ hc).mono ?_
  rintro e w1 ⟨rfl, rfl⟩
  go_wp2_with fail
  refine (answer_no 11 _).mono ?_
  rintro e w2 ⟨rfl, rfl⟩
  go_wp2
  go_ret2
  exact ⟨rfl, rfl⟩
theorem up_zero (a b c : Int) (w : World) (hc : (c == 0) = true) :
    Calls Try.prog 21 #[.int .i64 a, .int .i64 b, .int .i64 c] w fun e w' => e = .returned (.tuple #[.int .i64 0, .int .i64 11]) ∧ w' = w := by
  go_enter Try.func21, Try.ntmps21
  go_wp2_with fail
  refine (fraction_zero a b c true _ hc).mono ?_
  rintro e w1 ⟨rfl, rfl⟩
  go_wp2_with fail
  refine (answer_no 11 _).mono ?_
  rintro e w2 ⟨rfl, rfl⟩
  go_wp2
  go_ret2
  exact ⟨rfl, rfl⟩
set_option maxHeartbeats 400000 in
theorem down_any (a b c p : Int) (hpe : Hid (a * b = p)) (w : World) (a1 : -9223372036854775808 ≤ a) (a2 : a ≤ 9223372036854775807) (b1 : -9223372036854775808 ≤ b) (b2 : b ≤ 9223372036854775807)
    (c1 : -9223372036854775808 ≤ c) (c2 : c ≤ 9223372036854775807) (hc : (c == 0) = false) (D : Hid (DivOk (hiN (p.natAbs : Int) % c.natAbs) (loN (p.natAbs : Int)) c.natAbs)) :
    Calls Try.prog 20 #[.int .i64 a, .int .i64 b, .int .i64 c] w fun e w' => e = .returned (.tuple #[.int .i64 (ansN (frac p c false)), .int .i64 (ansE (frac p c false))]) ∧ Below w.heap.size w w' := by
  go_enter Try.func20, Try.ntmps20
  go_wp2_with fail
  refine (fraction_any a b c p hpe false _ a1 a2 b1 b2 c1 c2 hc D).mono ?_
  rintro e w1 ⟨rfl, hb1⟩
  go_wp2_with fail
  refine (answer_any _ _).mono ?_
  rintro e w2 ⟨rfl, rfl⟩
  go_wp2
  go_ret2
  exact ⟨rfl, hb1⟩
set_option maxHeartbeats 400000 in
theorem up_any (a b c p : Int) (hpe : Hid (a * b = p)) (w : World) (a1 : -9223372036854775808 ≤ a) (a2 : a ≤ 9223372036854775807) (b1 : -9223372036854775808 ≤ b) (b2 : b ≤ 9223372036854775807)
    (c1 : -9223372036854775808 ≤ c) (c2 : c ≤ 9223372036854775807) (hc : (c == 0) = false) (D : Hid (DivOk (hiN (p.natAbs : Int) % c.natAbs) (loN (p.natAbs : Int)) c.natAbs)) :
    Calls Try.prog 21 #[.int .i64 a, .int .i64 b, .int .i64 c] w fun e w' => e = .returned (.tuple #[.int .i64 (ansN (frac p c true)), .int .i64 (ansE (frac p c true))]) ∧ Below w.heap.size w w' := by
  go_enter Try.func21, Try.ntmps21
  go_wp2_with fail
  refine (fraction_any a b c p hpe true _ a1 a2 b1 b2 c1 c2 hc D).mono ?_
  rintro e w1 ⟨rfl, hb1⟩
  go_wp2_with fail
  refine (answer_any _ _).mono ?_
  rintro e w2 ⟨rfl, rfl⟩
  go_wp2
  go_ret2
  exact ⟨rfl, hb1⟩

theorem div_7_2 : DivOk (hiN ((7 : Int).natAbs : Int) % (-2 : Int).natAbs) (loN ((7 : Int).natAbs : Int)) (-2 : Int).natAbs :=
  div64_small 7 2 (by decide) (by decide) (by decide)
theorem down_7 (w : World) : Calls Try.prog 20 #[.int .i64 7, .int .i64 1, .int .i64 (-2)] w fun e w' => e = .returned (.tuple #[.int .i64 (-4), .int .i64 0]) ∧ Below w.heap.size w w' :=
  down_any 7 1 (-2) 7 rfl w (by decide) (by decide) (by decide) (by decide) (by decide) (by decide) (by decide) div_7_2
theorem up_7 (w : World) : Calls Try.prog 21 #[.int .i64 7, .int .i64 1, .int .i64 (-2)] w fun e w' => e = .returned (.tuple #[.int .i64 (-3), .int .i64 0]) ∧ Below w.heap.size w w' :=
  up_any 7 1 (-2) 7 rfl w (by decide) (by decide) (by decide) (by decide) (by decide) (by decide) (by decide) div_7_2
theorem add_over (w : World) : Calls Try.prog 11 #[.int .i64 9223372036854775807, .int .i64 1] w fun e w' => e = .returned (.tuple #[.int .i64 0, .int .i64 10]) ∧ Below w.heap.size w w' :=
  add_any 9223372036854775807 1 w (by decide) (by decide) (by decide) (by decide)
set_option maxHeartbeats 400000 in
theorem awake_any (w : World) : Calls Try.prog 9 #[] w fun e w' => e = .returned (.bool true) ∧ Below w.heap.size w w' := by
  go_enter Try.func9, Try.ntmps9
  go_wp2_with fail
  refine (add_over _).mono ?_
  rintro e w1 ⟨rfl, hb1⟩
  go_wp2_with fail
  refine (down_7 _).mono ?_
  rintro e w2 ⟨rfl, hb2⟩
  go_wp2_with fail
  refine (up_7 _).mono ?_
  rintro e w3 ⟨rfl, hb3⟩
  go_wp2
  go_ret
  have s1 := hb1.size
  have s2 := hb2.size
  exact ⟨rfl, (hb1.trans (hb2.mono s1)).trans (hb3.mono (by omega))⟩
end Go.Proofs.Ytjcbjhnnmkmjkaa
