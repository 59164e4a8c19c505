/-
  Plain numbers, no program: a whole number z as two words of 64 bits in two's complement, and what sums, turned numbers and narrowing do to the words.
-/
namespace Go.Proofs.Ytdacfnodihannaa

def hi (z : Int) : Int := z / 18446744073709551616 % 18446744073709551616
def lo (z : Int) : Int := z % 18446744073709551616

theorem hi_bd (z : Int) : 0 ≤ hi z ∧ hi z ≤ 18446744073709551615 := by unfold hi; omega
theorem lo_bd (z : Int) : 0 ≤ lo z ∧ lo z ≤ 18446744073709551615 := by unfold lo; omega
theorem lo_add (x y : Int) : (lo x + lo y) % 18446744073709551616 = lo (x + y) := by unfold lo; omega
theorem hi_add (x y : Int) : (hi x + hi y + (lo x + lo y) / 18446744073709551616) % 18446744073709551616 = hi (x + y) := by unfold lo hi; omega
theorem lo_not (x : Int) : 18446744073709551615 - lo x = lo (-x - 1) := by unfold lo; omega
theorem hi_not (x : Int) : 18446744073709551615 - hi x = hi (-x - 1) := by unfold hi; omega
theorem lo_nat (n : Nat) (h : n < 18446744073709551616) : lo (n : Int) = n := by unfold lo; omega
/-- The number itself lies within 128 bits. -/
def Fits (z : Int) : Prop := -170141183460469231731687303715884105728 ≤ z ∧ z ≤ 170141183460469231731687303715884105727
theorem words_eq (x y : Int) (hx : Fits x) (hy : Fits y) (h : hi x = hi y) (l : lo x = lo y) : x = y := by
  unfold Fits hi lo at *; omega
theorem words_iff (x y : Int) (hx : Fits x) (hy : Fits y) : (hi x = hi y ∧ lo x = lo y) ↔ x = y :=
  ⟨fun ⟨h, l⟩ => words_eq x y hx hy h l, fun e => by rw [e]; exact ⟨rfl, rfl⟩⟩
end Go.Proofs.Ytdacfnodihannaa
