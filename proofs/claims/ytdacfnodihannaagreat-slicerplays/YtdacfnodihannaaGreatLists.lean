/-
  Slices of numbers: what a slice value reads as, and the sums of its first numbers.
-/
import Derived.WalkKit
import Derived.WalkSpells
import Derived.WalkLawsBesides
import Derived.ProofKit
import Derived.OpenShut
import Derived.Outline
import Derived.Test.YtdacfnodihannaaGreatRows
namespace Go.Proofs.YtdacfnodihannaaGreat
open Go.ChangeShapes Go.WideShapes Go.ChangeAt Go.RowKit

/-- The slice value v reads as the values that f gives, n of them. -/
def Row (w : World) (v : Value) (n : Nat) (f : Nat → Value) : Prop :=
  ∃ a cap, v = .slice a n cap ∧ n ≤ cap ∧ cap ≤ maxLen ∧ (∀ i, i < n → ∃ b off, a = some ⟨b, off, none⟩ ∧ w.cell? ⟨b, off + i, none⟩ = some (f i))
theorem Row.below {w w' : World} {v : Value} {n : Nat} {f : Nat → Value} (h : Row w v n f) (hb : Below w.heap.size w w') : Row w' v n f := by
  obtain ⟨a, cap, rfl, h1, h2, h3⟩ := h
  refine ⟨a, cap, rfl, h1, h2, fun i hi => ?_⟩
  obtain ⟨b, off, e, hc⟩ := h3 i hi
  exact ⟨b, off, e, by rw [hb.cell (World.block_lt_of_cell? _ _ hc)]; exact hc⟩
theorem Row.same {w : World} {v : Value} {n : Nat} {f g : Nat → Value} (h : Row w v n f) (e : ∀ i, i < n → f i = g i) : Row w v n g := by
  obtain ⟨a, cap, rfl, h1, h2, h3⟩ := h
  refine ⟨a, cap, rfl, h1, h2, fun i hi => ?_⟩
  obtain ⟨b, off, e', hc⟩ := h3 i hi
  exact ⟨b, off, e', by rw [← e i hi]; exact hc⟩
/-- The sum of the first k. -/
def sumTo (zs : Nat → Int) : Nat → Int
  | 0 => 0
  | k + 1 => sumTo zs k + zs k
theorem sumTo_same {f g : Nat → Int} : ∀ k, (∀ i, i < k → f i = g i) → sumTo f k = sumTo g k
  | 0, _ => rfl
  | k + 1, h => by simp only [sumTo]; rw [sumTo_same k (fun i hi => h i (by omega)), h k (by omega)]
end Go.Proofs.YtdacfnodihannaaGreat
