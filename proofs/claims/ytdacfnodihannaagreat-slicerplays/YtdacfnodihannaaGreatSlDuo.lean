/-
  The program's slicer and the reference's beside each other.
-/
import Derived.Test.YtdacfnodihannaaGreatSlRef
import Derived.Test.YtdacfnodihannaaGreatSlAwake
import Derived.Test.YtdacfnodihannaaGreatSlFew
import Derived.Test.YtdacfnodihannaaGreatAskSame
import Derived.Test.YtdacfnodihannaaGreatKX
namespace Go.Proofs.YtdacfnodihannaaGreat.SL
open Go.ChangeShapes Go.WideShapes Go.ChangeAt Go.RowKit Go.Lib

/-- Both slicers hold x: the program's in block P, from block B on, the reference's in block R behind it; the world has grown since w. -/
structure Duo (w wr : World) (B P R : Nat) (vz v : Value) (z : List Int) (x : Sl) : Prop where
  lB : w.heap.size ≤ B
  sl : SlAt wr B P vz x
  rf : RefAt w wr R v x
  pr : P < R
  vr : x.al = 2 → ∀ g, vz.ownBlock = some g → g < R
  z : x.z = z
theorem Duo.below {w wr w' : World} {B P R : Nat} {vz v : Value} {z : List Int} {x : Sl} (h : Duo w wr B P R vz v z x) (k : Below wr.heap.size wr w') : Duo w w' B P R vz v z x :=
  ⟨h.lB, h.sl.below k, h.rf.below k, h.pr, h.vr, h.z⟩
theorem amX_al (x : Sl) (q p en : Int) : (amX x q p en).al = x.al := by unfold amX; split <;> rfl
theorem amX_z (x : Sl) (q p en : Int) : (amX x q p en).z = x.z := by unfold amX; split <;> rfl
/-- The reference behind a change of the program's block alone. -/
theorem Duo.mid {w wr w' : World} {B P R : Nat} {vz v : Value} {z : List Int} {x : Sl} (h : Duo w wr B P R vz v z x) (k : But (fun i => i = P) wr w') : RefAt w w' R v x :=
  h.rf.kept k (fun e => by have e : R = P := e; have := h.pr; omega) (fun i e => by have e : i = P := e; have := h.lB; have := h.sl.lP; omega)
/-- Both behind an amendment. -/
theorem Duo.amended {w wr w5 w6 : World} {B P R : Nat} {vz v : Value} {z : List Int} {x : Sl} (h : Duo w wr B P R vz v z x) {q p en : Int} (K5 : SlAt w5 B P vz (amX x q p en)) (K6 : RefAt w w6 R v (amX x q p en)) (k : But (fun i => i = R) w5 w6) : Duo w w6 B P R vz v z (amX x q p en) :=
  ⟨h.lB, K5.kept k (fun e => by have e : P = R := e; have := h.pr; omega) (fun a g hg e => by have e : g = R := e; have := h.vr (by rw [← amX_al x q p en]; exact a) g hg; omega), K6, h.pr, fun a => h.vr (by rw [← amX_al x q p en]; exact a), by rw [amX_z]; exact h.z⟩
theorem ops_row {w wr : World} {v : Value} {n : Nat} {X : Nat → Opc} (h : Ops w v n X) (k : Below w.heap.size w wr) {i : Nat} (hi : i < n) : ∃ a cap b off, v = .slice a n cap ∧ a = some ⟨b, off, none⟩ ∧ wr.cell? ⟨b, off + i * 5, none⟩ = some (.int .i64 (X i).k) ∧ wr.cell? ⟨b, off + i * 5 + 1, none⟩ = some (.int .i64 (X i).a) ∧ wr.cell? ⟨b, off + i * 5 + 2, none⟩ = some (.int .i64 (X i).b) ∧ wr.cell? ⟨b, off + i * 5 + 3, none⟩ = some (.int .i64 (X i).c) ∧ wr.cell? ⟨b, off + i * 5 + 4, none⟩ = some (.int .i64 (X i).d) ∧ (X i).fit := by
  obtain ⟨a, cap, e, _, _, h3⟩ := h
  obtain ⟨⟨b, off, ea, c0, c1, c2, c3, c4⟩, f⟩ := h3 i hi
  have g : ∀ o u, w.cell? ⟨b, o, none⟩ = some u → wr.cell? ⟨b, o, none⟩ = some u := fun o u e => (k.cell (p := ⟨b, o, none⟩) (World.block_lt_of_cell? _ _ e)).trans e
  exact ⟨a, cap, b, off, e, ea, g _ _ c0, g _ _ c1, g _ _ c2, g _ _ c3, g _ _ c4, f⟩
end Go.Proofs.YtdacfnodihannaaGreat.SL
