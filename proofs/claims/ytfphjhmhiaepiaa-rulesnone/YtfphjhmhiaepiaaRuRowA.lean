/-
  A slice of accounts in memory: how it reads.
-/
import Derived.Test.YtfphjhmhiaepiaaRuMath
import Derived.Test.YtfphjhmhiaepiaaOwnRows
namespace Go.Proofs.Ytfphjhmhiaepiaa.RU
open Go.ChangeShapes Go.WideShapes Go.ChangeAt Go.RowKit Go.Lib

/-- The slice value v reads as n accounts. -/
def RowA (w : World) (v : Value) (n : Nat) (g : Nat → It) : Prop :=
  ∃ a cap, v = .slice a n cap ∧ n ≤ cap ∧ cap ≤ maxLen ∧ ∀ i, i < n → ∃ b off, a = some ⟨b, off, none⟩ ∧ w.cell? ⟨b, off + i * 2, none⟩ = some (.string (g i).1) ∧ w.cell? ⟨b, off + i * 2 + 1, none⟩ = some (.int .i64 ((g i).2.1 1))
theorem RowA.below {w w' : World} {v : Value} {n : Nat} {g : Nat → It} {B : Nat} (h : RowA w v n g) (hb : Below B w w') (hB : w.heap.size ≤ B) : RowA w' v n g := by
  obtain ⟨a, cap, rfl, h1, h2, h3⟩ := h
  refine ⟨a, cap, rfl, h1, h2, fun i hi => ?_⟩
  obtain ⟨b, off, e, c0, c1⟩ := h3 i hi
  have lt : b < B := Nat.lt_of_lt_of_le (World.block_lt_of_cell? _ _ c0) hB
  exact ⟨b, off, e, by rw [hb.cell (p := ⟨b, off + i * 2, none⟩) lt]; exact c0, by rw [hb.cell (p := ⟨b, off + i * 2 + 1, none⟩) lt]; exact c1⟩
theorem RowA.len {w : World} {v : Value} {n : Nat} {g : Nat → It} (h : RowA w v n g) : ∃ a cap, v = .slice a n cap := by
  obtain ⟨a, cap, rfl, _⟩ := h
  exact ⟨a, cap, rfl⟩
theorem RowA.same {w : World} {v : Value} {n : Nat} {g g' : Nat → It} (h : RowA w v n g) (e : ∀ i, i < n → g i = g' i) : RowA w v n g' := by
  obtain ⟨a, cap, rfl, h1, h2, h3⟩ := h
  refine ⟨a, cap, rfl, h1, h2, fun i hi => ?_⟩
  rw [← e i hi]
  exact h3 i hi
theorem RowA.none (w : World) (g : Nat → It) : RowA w (.slice none 0 0) 0 g := ⟨Option.none, 0, rfl, Nat.le_refl _, by unfold maxLen; omega, fun i hi => absurd hi (by omega)⟩
theorem accountName_any (x : It) (w : World) :
    Calls Try.prog 25 #[.agg #[.string x.1, .int .i64 (x.2.1 1)]] w fun e w' => e = .returned (.string x.1) ∧ w' = w.alloc (.cells #[.string x.1, .int .i64 (x.2.1 1)] 51) := by
  obtain ⟨s, z, m⟩ := x
  go_enter Try.func25, Try.ntmps25
  go_wp2
  go_ret
  exact ⟨rfl, rfl⟩
end Go.Proofs.Ytfphjhmhiaepiaa.RU
