/-
  Contracts of the reference's Add and Neg: sums, and numbers turned about 0, of whole numbers of any length.
-/
import Derived.Test.YtkphchldoionjaaRefMinus
namespace Go.Proofs.Ytkphchldoionjaa
open Go.ChangeShapes Go.WideShapes Go.ChangeAt Go.RowKit

/-- The sign and the slice are those of the whole number z, of at most n bits, in blocks from B on. -/
def IsNum (B : Nat) (w : World) (s : Bool) (sl : Value) (z : Int) (n : Nat) : Prop := s = decide (z < 0) ∧ ∃ l, Reads B w sl l ∧ Canon l ∧ val l = z.natAbs ∧ l.length ≤ n
theorem IsNum.below {B : Nat} {w w' : World} {s : Bool} {sl : Value} {z : Int} {n : Nat} (h : IsNum B w s sl z n) (hb : Below w.heap.size w w') : IsNum B w' s sl z n := by
  obtain ⟨h0, l, h1, h2⟩ := h
  exact ⟨h0, l, h1.below hb, h2⟩
theorem IsNum.wide {B : Nat} {w : World} {s : Bool} {sl : Value} {z : Int} {n m : Nat} (h : IsNum B w s sl z n) (hm : n ≤ m) : IsNum B w s sl z m := by
  obtain ⟨h0, l, h1, h2, h3, h4⟩ := h
  exact ⟨h0, l, h1, h2, h3, Nat.le_trans h4 hm⟩
theorem bcell2 {W w1 : World} (hb : Below W.heap.size W w1) : (∀ b o, b < W.heap.size → w1.cell? ⟨b, o, none⟩ = W.cell? ⟨b, o, none⟩) ∧ (∀ b o, b < W.heap.size → w1.frozen? ⟨b, o, none⟩ = W.frozen? ⟨b, o, none⟩) :=
  ⟨fun b o h => hb.cell (p := ⟨b, o, none⟩) h, fun b o h => hb.frozen (p := ⟨b, o, none⟩) h⟩

theorem three_new (w : World) (o1 o2 o3 : Obj) : Below w.heap.size w (((w.alloc o1).alloc o2).alloc o3) :=
  (((Below.refl _ _).alloc (Nat.le_refl _) _).alloc (by simp) _).alloc (by simp; omega) _

end Go.Proofs.Ytkphchldoionjaa
