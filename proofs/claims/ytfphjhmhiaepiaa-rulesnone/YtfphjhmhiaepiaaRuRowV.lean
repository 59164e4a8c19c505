/-
  A slice of venues in memory: how it reads.
-/
import Derived.Test.YtfphjhmhiaepiaaRuMath
import Derived.Test.YtfphjhmhiaepiaaOwnRows
namespace Go.Proofs.Ytfphjhmhiaepiaa.RU
open Go.ChangeShapes Go.WideShapes Go.ChangeAt Go.RowKit Go.Lib

/-- The slice value v reads as n venues. -/
def RowV (w : World) (v : Value) (n : Nat) (g : Nat → It) : Prop :=
  ∃ a cap, v = .slice a n cap ∧ n ≤ cap ∧ cap ≤ maxLen ∧ ∀ i, i < n → ∃ b off, a = some ⟨b, off, none⟩ ∧ w.cell? ⟨b, off + i * 5, none⟩ = some (.string (g i).1) ∧ w.cell? ⟨b, off + i * 5 + 1, none⟩ = some (.int .i64 ((g i).2.1 1)) ∧ w.cell? ⟨b, off + i * 5 + 1 + 1, none⟩ = some (.int .i64 ((g i).2.1 2)) ∧ w.cell? ⟨b, off + i * 5 + 1 + 1 + 1, none⟩ = some (.int .i64 ((g i).2.1 3)) ∧ w.cell? ⟨b, off + i * 5 + 1 + 1 + 1 + 1, none⟩ = some (.bool (g i).2.2)
theorem RowV.below {w w' : World} {v : Value} {n : Nat} {g : Nat → It} {B : Nat} (h : RowV w v n g) (hb : Below B w w') (hB : w.heap.size ≤ B) : RowV w' v n g := by
  obtain ⟨a, cap, rfl, h1, h2, h3⟩ := h
  refine ⟨a, cap, rfl, h1, h2, fun i hi => ?_⟩
  obtain ⟨b, off, e, c0, c1, c2, c3, c4⟩ := h3 i hi
  have lt : b < B := Nat.lt_of_lt_of_le (World.block_lt_of_cell? _ _ c0) hB
  exact ⟨b, off, e, by rw [hb.cell (p := ⟨b, off + i * 5, none⟩) lt]; exact c0, by rw [hb.cell (p := ⟨b, off + i * 5 + 1, none⟩) lt]; exact c1, by rw [hb.cell (p := ⟨b, off + i * 5 + 1 + 1, none⟩) lt]; exact c2, by rw [hb.cell (p := ⟨b, off + i * 5 + 1 + 1 + 1, none⟩) lt]; exact c3, by rw [hb.cell (p := ⟨b, off + i * 5 + 1 + 1 + 1 + 1, none⟩) lt]; exact c4⟩
theorem RowV.len {w : World} {v : Value} {n : Nat} {g : Nat → It} (h : RowV w v n g) : ∃ a cap, v = .slice a n cap := by
  obtain ⟨a, cap, rfl, _⟩ := h
  exact ⟨a, cap, rfl⟩
theorem RowV.same {w : World} {v : Value} {n : Nat} {g g' : Nat → It} (h : RowV w v n g) (e : ∀ i, i < n → g i = g' i) : RowV w v n g' := by
  obtain ⟨a, cap, rfl, h1, h2, h3⟩ := h
  refine ⟨a, cap, rfl, h1, h2, fun i hi => ?_⟩
  rw [← e i hi]
  exact h3 i hi
theorem RowV.none (w : World) (g : Nat → It) : RowV w (.slice none 0 0) 0 g := ⟨Option.none, 0, rfl, Nat.le_refl _, by unfold maxLen; omega, fun i hi => absurd hi (by omega)⟩
theorem venueName_any (x : It) (w : World) :
    Calls Try.prog 29 #[.agg #[.string x.1, .int .i64 (x.2.1 1), .int .i64 (x.2.1 2), .int .i64 (x.2.1 3), .bool x.2.2]] w fun e w' => e = .returned (.string x.1) ∧ w' = w.alloc (.cells #[.string x.1, .int .i64 (x.2.1 1), .int .i64 (x.2.1 2), .int .i64 (x.2.1 3), .bool x.2.2] 55) := by
  obtain ⟨s, z, m⟩ := x
  go_enter Try.func29, Try.ntmps29
  go_wp2
  go_ret
  exact ⟨rfl, rfl⟩
end Go.Proofs.Ytfphjhmhiaepiaa.RU
