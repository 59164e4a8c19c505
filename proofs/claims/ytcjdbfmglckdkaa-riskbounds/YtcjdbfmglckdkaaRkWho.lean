/-
  Held of any slot, in plain words, and whose account a step is of.
-/
import Derived.Test.YtcjdbfmglckdkaaRkLaw
namespace Go.Proofs.Ytcjdbfmglckdkaa.RK
open Go.ChangeShapes Go.WideShapes Go.ChangeAt Go.RowKit Go.Lib

/-- Held's three answers. -/
def whoA (b : Bk) (s : Int) : Int := if hasS b s = true then slA (b.S s.toNat) else 0
def whoN (b : Bk) (s : Int) : Int := if hasS b s = true then slN (b.S s.toNat) else 0
def whoB (b : Bk) (s : Int) : Bool := if hasS b s = true then (b.S s.toNat).isSome else false
theorem heldB {w wr : World} {P g h : Nat} {b : Bk} (X : Bx w wr P g h b) (s : Int) : Calls Try.prog 13 #[.pointer (some ⟨P, 0, none⟩), .int .i64 s] wr fun e w' => e = .returned (.tuple #[.int .i64 (whoA b s), .int .i64 (whoN b s), .bool (whoB b s)]) ∧ Below wr.heap.size wr w' := by
  cases hs : hasS b s
  · rw [whoA, whoN, whoB, if_neg (by rw [hs]; decide), if_neg (by rw [hs]; decide), if_neg (by rw [hs]; decide)]
    exact (held_no X.bk s hs).mono fun _ _ h => ⟨h.1, by rw [h.2]; exact Below.refl _ _⟩
  · rw [whoA, whoN, whoB, if_pos hs, if_pos hs, if_pos hs]
    obtain ⟨j, rfl, hj⟩ := hasS_nat hs
    rw [Int.toNat_natCast]
    exact held_yes X.bk j hj
theorem who_other {b : Bk} {s : Int} {c : Nat} (h : ¬ (c : Int) = whoA b s) (j : Nat) (e : s = (j : Int)) (hj : j < b.nS) : ¬ (c : Int) = slA (b.S j) := by
  subst e
  rw [whoA, if_pos (by simp [hasS, hj]), Int.toNat_natCast] at h
  exact h
end Go.Proofs.Ytcjdbfmglckdkaa.RK
