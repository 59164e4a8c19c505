/-
  What the laws of layer 24 share: the three cells of a span, lists of weights that are all the same, and both paces' answers under one name.
-/
import Derived.Test.YtcjbokbdgpbjoaaPaAwake
import Derived.Test.YtcjbokbdgpbjoaaPaRef
import Derived.Test.YtcjbokbdgpbjoaaFrame3
namespace Go.Proofs.Ytcjbokbdgpbjoaa.PA
open Go.ChangeShapes Go.WideShapes Go.ChangeAt Go.RowKit

theorem span_cells (w : World) (x y z : Value) (T : TypeId) : (w.alloc (.cells #[x, y, z] T)).cell? ⟨w.heap.size, 0, none⟩ = some x ∧ (w.alloc (.cells #[x, y, z] T)).cell? ⟨w.heap.size, 1, none⟩ = some y ∧ (w.alloc (.cells #[x, y, z] T)).cell? ⟨w.heap.size, 2, none⟩ = some z := by
  refine ⟨?_, ?_, ?_⟩ <;> simp [World.cell?_alloc_at]
theorem span_below {w w' : World} {b : Nat} {x y z : Value} (h : w.cell? ⟨b, 0, none⟩ = some x ∧ w.cell? ⟨b, 1, none⟩ = some y ∧ w.cell? ⟨b, 2, none⟩ = some z) (hb : Below w.heap.size w w') : w'.cell? ⟨b, 0, none⟩ = some x ∧ w'.cell? ⟨b, 1, none⟩ = some y ∧ w'.cell? ⟨b, 2, none⟩ = some z := by
  have := World.block_lt_of_cell? _ _ h.1
  exact ⟨(hb.cell this).trans h.1, (hb.cell (p := ⟨b, 1, none⟩) this).trans h.2.1, (hb.cell (p := ⟨b, 2, none⟩) this).trans h.2.2⟩
/-- A list of four that are the same. -/
theorem four_row (w : World) (c : Int) (T : TypeId) : Row (w.alloc (.cells #[.int .i64 c, .int .i64 c, .int .i64 c, .int .i64 c] T)) (.slice (some ⟨w.heap.size, 0, none⟩) 4 4) 4 fun i => .int .i64 (flat 4 c i) := by
  refine ⟨_, 4, rfl, Nat.le_refl _, by unfold maxLen; omega, fun i hi => ⟨w.heap.size, 0, rfl, ?_⟩⟩
  rcases (show i = 0 ∨ i = 1 ∨ i = 2 ∨ i = 3 by omega) with rfl | rfl | rfl | rfl <;> simp [flat, World.cell?_alloc_at]
/-- What is asked of Vwap in any world that has the weights. -/
def Along (zs : Nat → Int) (n : Nat) (v : Value) (qty st en nw x E : Int) : Prop := ∀ w, Row w v n (fun i => .int .i64 (zs i)) →
  Calls Try.prog 11 #[.int .i64 qty, v, .int .i64 st, .int .i64 en, .int .i64 nw] w fun e w' => e = .returned (.tuple #[.int .i64 x, .int .i64 E]) ∧ Below w.heap.size w w'
def AlongR (zs : Nat → Int) (n : Nat) (v : Value) (qty st en nw x E : Int) : Prop := ∀ w, Row w v n (fun i => .int .i64 (zs i)) →
  Calls Try.prog 12 #[.int .i64 qty, v, .int .i64 st, .int .i64 en, .int .i64 nw] w fun e w' => e = .returned (.tuple #[.int .i64 x, .int .i64 E]) ∧ Below w.heap.size w w'
/-- Vwap and the reference answer the same. -/
theorem along_same (zs : Nat → Int) (n : Nat) (v : Value) (hb : ∀ i, n ≤ i → zs i = 0) (qty st en nw : Int) : ∃ x E, Along zs n v qty st en nw x E ∧ AlongR zs n v qty st en nw x E := by
  by_cases h : pacE qty st en nw = 0
  · by_cases hc : Curve zs n
    · exact ⟨_, _, fun w hr => vwap_good qty st en nw zs n v w hr hc (fine_of h) _ rfl, fun w hr => vwapR_good qty st en nw zs n v w hr hc (fine_of h) _ rfl⟩
    · exact ⟨_, _, fun w hr => vwap_wrong qty st en nw zs n v w hr hb hc (fine_of h), fun w hr => vwapR_wrong qty st en nw zs n v w hr hb hc (fine_of h)⟩
  · refine ⟨0, pacE qty st en nw, fun w hr => ?_, fun w hr => ?_⟩
    · obtain ⟨a, cap, rfl, _⟩ := id hr
      exact vwap_bad qty st en nw n cap a w _ rfl h
    · obtain ⟨a, cap, rfl, _⟩ := id hr
      exact vwapR_bad qty st en nw n cap a w _ rfl h
/-- Where something is wrong Vwap answers the same error at any time that may be. -/
theorem along_wrong (zs : Nat → Int) (n : Nat) (v : Value) (hb : ∀ i, n ≤ i → zs i = 0) (qty st en nw : Int) (h : ¬ (pacE qty st en nw = 0 ∧ Curve zs n)) : ∃ E, E ≠ 0 ∧ ∀ nw', timeB nw' = timeB nw → Along zs n v qty st en nw' 0 E := by
  by_cases k : pacE qty st en nw = 0
  · have hc : ¬ Curve zs n := fun c => h ⟨k, c⟩
    refine ⟨30, by decide, fun nw' ht w hr => ?_⟩
    exact vwap_wrong qty st en nw' zs n v w hr hb hc (fine_of ((pacE_same ht).trans k))
  · refine ⟨_, k, fun nw' ht w hr => ?_⟩
    obtain ⟨a, cap, rfl, _⟩ := id hr
    exact vwap_bad qty st en nw' n cap a w _ (pacE_same ht) k
end Go.Proofs.Ytcjbokbdgpbjoaa.PA
