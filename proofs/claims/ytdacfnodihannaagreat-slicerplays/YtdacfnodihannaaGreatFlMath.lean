/-
  Plain mathematics of layer 25: ranges, a part of a volume, and what a print answers and leaves.
-/
import Derived.Test.YtdacfnodihannaaGreatKA
import Derived.Test.YtdacfnodihannaaGreatBut
namespace Go.Proofs.YtdacfnodihannaaGreat.FL
open Go.ChangeShapes Go.WideShapes Go.ChangeAt Go.RowKit

def inB (n low high : Int) : Bool := decide (low ≤ n ∧ n ≤ high)
theorem inB_yes {n low high : Int} (h1 : low ≤ n) (h2 : n ≤ high) : inB n low high = true := decide_eq_true ⟨h1, h2⟩
theorem inB_no {n low high : Int} (h : n < low ∨ high < n) : inB n low high = false := decide_eq_false (by omega)
theorem inB_iff {n low high : Int} : inB n low high = true ↔ low ≤ n ∧ n ≤ high := by unfold inB; exact decide_eq_true_iff
theorem wrap_in (x : Int) (h1 : -9223372036854775808 ≤ x) (h2 : x ≤ 9223372036854775807) : wrap64 x = x := by unfold wrap64; omega
/-- A number brought into a range. -/
def toIn (n least most : Int) : Int := max least (min n most)
theorem toIn_eq {n least most : Int} (h : least ≤ most) : (toIn n least most == n) = inB n least most := by
  unfold toIn
  by_cases h1 : least ≤ n ∧ n ≤ most
  · rw [inB_yes h1.1 h1.2]; simp; omega
  · rw [inB_no (by omega)]; simp; omega
/-- All that a target wants is right. -/
def fineB (q r v : Int) : Bool := inB q 0 1099511627776 && (inB r 0 10000 && inB v 0 4611686018427387904)
def vol (r v : Int) : Int := v * r / 10000
def tgN (q r v : Int) : Int := if fineB q r v then min (vol r v) q else 0
def tgE (q r v : Int) : Int := if fineB q r v then 0 else 2
structure Fine (q r v : Int) : Prop where
  q0 : 0 ≤ q
  q1 : q ≤ 1099511627776
  r0 : 0 ≤ r
  r1 : r ≤ 10000
  v0 : 0 ≤ v
  v1 : v ≤ 4611686018427387904
theorem fine_of {q r v : Int} (h : fineB q r v = true) : Fine q r v := by
  unfold fineB at h
  simp only [Bool.and_eq_true, inB_iff] at h
  exact ⟨h.1.1, h.1.2, h.2.1.1, h.2.1.2, h.2.2.1, h.2.2.2⟩
theorem of_fine {q r v : Int} (h : Fine q r v) : fineB q r v = true := by
  unfold fineB
  rw [inB_yes h.q0 h.q1, inB_yes h.r0 h.r1, inB_yes h.v0 h.v1]; rfl
theorem part_bd {q r v : Int} (h : Fine q r v) : 0 ≤ vol r v ∧ vol r v ≤ 4611686018427387904 := by
  have p0 : 0 ≤ v * r := Int.mul_nonneg h.v0 h.r0
  have p1 : v * r ≤ v * 10000 := Int.mul_le_mul_of_nonneg_left h.r1 h.v0
  have := h.v1
  unfold vol; omega
theorem part_frac {q r v : Int} (h : Fine q r v) : frac (v * r) 10000 false = vol r v := frac_plain _ _ (Int.mul_nonneg h.v0 h.r0) (by omega)
/-- The part is at most what the rate says. -/
theorem part_most {q r v : Int} (h : Fine q r v) : vol r v * 10000 ≤ v * r := by
  have p0 : 0 ≤ v * r := Int.mul_nonneg h.v0 h.r0
  unfold vol; omega
theorem part_rate {r v : Int} (v0 : 0 ≤ v) : vol r v ≤ vol (r + 1) v := by
  have : v * (r + 1) = v * r + v := by rw [Int.mul_add, Int.mul_one]
  unfold vol; omega
theorem part_volume {r v : Int} (r0 : 0 ≤ r) : vol r v ≤ vol r (v + 1) := by
  have : (v + 1) * r = v * r + r := by rw [Int.add_mul, Int.one_mul]
  unfold vol; omega

/-- What a print answers. -/
def prE (n : Nat) (T : Nat → Int) (s q : Int) : Int := if inB s 0 ((n : Int) - 1) && inB q 1 1099511627776 then (if 4611686018427387904 < T s.toNat + q then 10 else 0) else 2
/-- The totals behind it. -/
def prT (n : Nat) (T : Nat → Int) (s q : Int) : Nat → Int := if prE n T s q = 0 then upd T s.toNat (T s.toNat + q) else T
/-- What is told of a symbol. -/
def toT (n : Nat) (T : Nat → Int) (s : Int) : Int := if inB s 0 ((n : Int) - 1) then T s.toNat else 0
/-- What totals keep to. -/
def Good (n : Nat) (T : Nat → Int) : Prop := ∀ i, i < n → 0 ≤ T i ∧ T i ≤ 4611686018427387904
theorem Good.next {n : Nat} {T : Nat → Int} (h : Good n T) (s q : Int) : Good n (prT n T s q) := by
  unfold prT
  split
  · rename_i e
    unfold prE at e
    split at e
    · rename_i c
      simp only [Bool.and_eq_true, inB_iff] at c
      split at e
      · exact absurd e (by decide)
      · intro i hi
        unfold upd
        split
        · have := (h s.toNat (by omega)).1; omega
        · exact h i hi
    · exact absurd e (by decide)
  · exact h
end Go.Proofs.YtdacfnodihannaaGreat.FL
