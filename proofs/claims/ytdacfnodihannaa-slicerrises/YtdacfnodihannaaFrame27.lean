/-
  A step of layer 27 (which call, four numbers) that comes in by value, and a list of such: what they hold.
-/
import Derived.Test.YtdacfnodihannaaBut
import Derived.Test.YtdacfnodihannaaFive
import Derived.ChangeOld
import Derived.ShutString
import Derived.ChangeMaps5
import Derived.Deep.Strs
import Derived.Lib.SmallJoins
namespace Go.Proofs.Ytdacfnodihannaa.SL
open Go.ChangeShapes Go.WideShapes Go.ChangeAt Go.RowKit Go.Deep Go.WideElems Go.Lib

/-- A step: which call, four numbers. -/
structure Opc where
  k : Int
  a : Int
  b : Int
  c : Int
  d : Int
/-- Its cells. -/
abbrev Opc.cells (x : Opc) : Array Value := #[.int .i64 x.k, .int .i64 x.a, .int .i64 x.b, .int .i64 x.c, .int .i64 x.d]
/-- The last of its numbers is one of 64 bits. -/
def Opc.fit (x : Opc) : Prop := -9223372036854775808 ≤ x.d ∧ x.d ≤ 9223372036854775807
theorem one_cell {x : Value} {y : Value} (h : [x] = [y]) : x = y := by simpa using h
theorem open_fiveI {H : Type} {enc : TypeId × Value → H} {P : Program} {w : World} {base : Nat} {spare : Nat → Bool} {held : Bool} {t ti : TypeId} {f0 f1 f2 f3 f4 : Field} {r : Reach} {b0 : Nat} {v : Value} {d : DataW H} {p : List MemPlace}
    (hs : P.underlying t = some (.struct #[f0, f1, f2, f3, f4])) (hone : oneCellFields P #[f0, f1, f2, f3, f4] = true) (hC : P.cellsOf t = 5) (hi : P.underlying ti = some (.int .i64))
    (e0 : f0.type = ti) (e1 : f1.type = ti) (e2 : f2.type = ti) (e3 : f3.type = ti) (e4 : f4.type = ti)
    (hv : Value.okWide P w r b0 t v) (h : DataW.Trod enc P w base spare held t v d p) : ∃ x : Opc, v = .agg x.cells ∧ x.fit := by
  obtain ⟨v0, v1, v2, v3, v4, y0, y1, y2, y3, y4, m, rfl, _, _, g0, g1, g2, g3, g4⟩ := open_five hs hone hC hv h
  rw [e0] at g0
  rw [e1] at g1
  rw [e2] at g2
  rw [e3] at g3
  rw [e4] at g4
  obtain ⟨z0, q0, _, w0⟩ := DataW.trod_int hi g0
  obtain ⟨z1, q1, _, w1⟩ := DataW.trod_int hi g1
  obtain ⟨z2, q2, _, w2⟩ := DataW.trod_int hi g2
  obtain ⟨z3, q3, _, w3⟩ := DataW.trod_int hi g3
  obtain ⟨z4, q4, _, w4⟩ := DataW.trod_int hi g4
  have u0 : v0 = .int .i64 z0 := one_cell q0
  have u1 : v1 = .int .i64 z1 := one_cell q1
  have u2 : v2 = .int .i64 z2 := one_cell q2
  have u3 : v3 = .int .i64 z3 := one_cell q3
  have u4 : v4 = .int .i64 z4 := one_cell q4
  subst u0 u1 u2 u3 u4
  exact ⟨⟨z0, z1, z2, z3, z4⟩, rfl, bounds_i64 w4⟩
set_option maxRecDepth 100000 in
theorem open_op {H : Type} {enc : TypeId × Value → H} {W : World} {base : Nat} {r : Reach} {b0 : Nat} {v : Value} {d : DataW H} {ps : List MemPlace} (hv : Value.okWide Try.prog W r b0 23 v) (h : DataW.Trod enc Try.prog W base (fun _ => true) true 23 v d ps) :
    ∃ x : Opc, v = .agg x.cells ∧ x.fit :=
  open_fiveI Try.underlying23 (by kernel_rfl) (by kernel_rfl) Try.underlying3 rfl rfl rfl rfl rfl hv h
end Go.Proofs.Ytdacfnodihannaa.SL
