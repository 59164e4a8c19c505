/-
  A step (which call, a quantity, a price) that comes in by value, and a list of such; what a child is made of, by value: what they hold.
-/
import Derived.Test.YtkkimkhkoiempaaBut
import Derived.Test.YtkkimkhkoiempaaFive
import Derived.ChangeOld
import Derived.ShutString
import Derived.ChangeMaps5
import Derived.Deep.Strs
import Derived.Lib.SmallJoins
namespace Go.Proofs.Ytkkimkhkoiempaa.CH
open Go.ChangeShapes Go.WideShapes Go.ChangeAt Go.RowKit Go.Deep Go.WideElems Go.Lib

/-- A step: which call, a quantity, a price. -/
structure Opc where
  k : Int
  a : Int
  b : Int
/-- What a child is made of. -/
structure Odr where
  id : ByteArray
  ve : ByteArray
  sd : Int
  q : Int
  p : Int
/-- Their cells. -/
abbrev Opc.cells (x : Opc) : Array Value := #[.int .i64 x.k, .int .i64 x.a, .int .i64 x.b]
abbrev Odr.cells (x : Odr) : Array Value := #[.string x.id, .string x.ve, .int .i64 x.sd, .int .i64 x.q, .int .i64 x.p]
/-- The slice value v reads as n steps. -/
def Ops (w : World) (v : Value) (n : Nat) (X : Nat → Opc) : Prop :=
  ∃ a cap, v = .slice a n cap ∧ n ≤ cap ∧ cap ≤ maxLen ∧ ∀ i, i < n → ∃ b off, a = some ⟨b, off, none⟩ ∧ w.cell? ⟨b, off + i * 3, none⟩ = some (.int .i64 (X i).k) ∧ w.cell? ⟨b, off + i * 3 + 1, none⟩ = some (.int .i64 (X i).a) ∧ w.cell? ⟨b, off + i * 3 + 2, none⟩ = some (.int .i64 (X i).b)
theorem one_cell {x : Value} {y : Value} (h : [x] = [y]) : x = y := by simpa using h
theorem Ops.below {w w' : World} {v : Value} {n : Nat} {X : Nat → Opc} (h : Ops w v n X) (hb : Below w.heap.size w w') : Ops w' v n X := by
  obtain ⟨a, cap, rfl, h1, h2, h3⟩ := h
  refine ⟨a, cap, rfl, h1, h2, fun i hi => ?_⟩
  obtain ⟨b, off, e, c0, c1, c2⟩ := h3 i hi
  have lt := World.block_lt_of_cell? _ _ c0
  exact ⟨b, off, e, by rw [hb.cell (p := ⟨b, off + i * 3, none⟩) lt]; exact c0, by rw [hb.cell (p := ⟨b, off + i * 3 + 1, none⟩) lt]; exact c1, by rw [hb.cell (p := ⟨b, off + i * 3 + 2, none⟩) lt]; exact c2⟩
theorem array3 {α : Type} {cs : Array α} (h : cs.size = 3) : ∃ c0 c1 c2, cs = #[c0, c1, c2] := by
  obtain ⟨l⟩ := cs
  match l, h with
  | [c0, c1, c2], _ => exact ⟨c0, c1, c2, rfl⟩
theorem list3 {α : Type} {l : List α} (h : l.length = 3) : ∃ c0 c1 c2, l = [c0, c1, c2] := by
  match l, h with
  | [c0, c1, c2], _ => exact ⟨c0, c1, c2, rfl⟩
theorem open_three {H : Type} {enc : TypeId × Value → H} {w : World} {base : Nat} {spare : Nat → Bool} {held : Bool} {fuel : Nat} {v0 v1 v2 : Value} {x : DataW H × List MemPlace}
    (h : DataW.trod enc Try.prog w base spare held fuel 34 [v0, v1, v2] = some x) : ∃ r : Opc, v0 = .int .i64 r.k ∧ v1 = .int .i64 r.a ∧ v2 = .int .i64 r.b := by
  have ci : Try.prog.cellsOf 3 = 1 := by kernel_rfl
  obtain ⟨y0, y1, y2, f2, _, _, g0, g1, g2⟩ := Deep.trod_struct3 Try.underlying34 h
  rw [ci] at g0 g1 g2
  obtain ⟨z0, e0, _, _⟩ := DataW.trod_int Try.underlying3 g0
  obtain ⟨z1, e1, _, _⟩ := DataW.trod_int Try.underlying3 g1
  obtain ⟨z2, e2, _, _⟩ := DataW.trod_int Try.underlying3 g2
  exact ⟨⟨z0, z1, z2⟩, one_cell e0, one_cell e1, one_cell e2⟩
theorem open_ops {H : Type} {enc : TypeId × Value → H} {w : World} {base : Nat} {spare : Nat → Bool} {held : Bool} {fuel : Nat} {a : Option Addr} {n cap : Nat} {x : DataW H × List MemPlace}
    (h : DataW.trod enc Try.prog w base spare held fuel 24 [.slice a n cap] = some x) : ∃ X, Ops w (.slice a n cap) n X := by
  rcases Deep.open_slice Try.underlying24 h with ⟨e, _⟩ | ⟨ad, len, cap', m, fu, D, Pl, e, hb, hl, hm, hmm, _, hx⟩
  · simp only [List.cons.injEq, Value.slice.injEq, and_true] at e
    obtain ⟨rfl, rfl, rfl⟩ := e
    exact ⟨fun _ => ⟨0, 0, 0⟩, none, 0, rfl, Nat.le_refl _, by unfold maxLen; omega, fun i hi => absurd hi (by omega)⟩
  · simp only [List.cons.injEq, Value.slice.injEq, and_true] at e
    obtain ⟨rfl, rfl, rfl⟩ := e
    have hlm : n ≤ m := by rw [hmm]; split <;> omega
    have ce : Try.prog.cellsOf 34 = 3 := by kernel_rfl
    rw [ce] at hx
    have each : ∀ i, i < n → ∃ r : Opc, ∃ b off, some ad = some ⟨b, off, none⟩ ∧ w.cell? ⟨b, off + i * 3, none⟩ = some (.int .i64 r.k) ∧ w.cell? ⟨b, off + i * 3 + 1, none⟩ = some (.int .i64 r.a) ∧ w.cell? ⟨b, off + i * 3 + 2, none⟩ = some (.int .i64 r.b) := by
      intro i hi
      obtain ⟨cs', h1, h2⟩ := hx i (by omega)
      obtain ⟨_, hlen, hcell⟩ := World.cells?_some h1
      obtain ⟨v0, v1, v2, rfl⟩ := list3 hlen
      obtain ⟨r, rfl, rfl, rfl⟩ := open_three h2
      have k0 := hcell 0 (by omega)
      have k1 := hcell 1 (by omega)
      have k2 := hcell 2 (by omega)
      obtain ⟨cs0, h10, _⟩ := hx 0 (by omega)
      obtain ⟨_, hl0, hc0⟩ := World.cells?_some h10
      obtain ⟨u0, u1, u2, rfl⟩ := list3 hl0
      obtain ⟨b, off, spot⟩ := ad
      have hspot : spot = none := by
        have := World.cell?_spot (hc0 0 (by omega))
        simpa [Addr.add] using this
      subst hspot
      rw [Addr.add_lit, Addr.add_lit] at k0 k1 k2
      exact ⟨r, b, off, rfl, k0, k1, k2⟩
    haveI : Inhabited Opc := ⟨⟨0, 0, 0⟩⟩
    obtain ⟨r, hr⟩ := Deep.choose_lt each
    exact ⟨r, some ad, cap, rfl, hl, hm, hr⟩
set_option maxRecDepth 100000 in
theorem open_op {H : Type} {enc : TypeId × Value → H} {W : World} {base : Nat} {r : Reach} {b0 : Nat} {v : Value} {d : DataW H} {ps : List MemPlace} (hv : Value.okWide Try.prog W r b0 34 v) (h : DataW.Trod enc Try.prog W base (fun _ => true) true 34 v d ps) :
    ∃ x : Opc, v = .agg x.cells := by
  obtain ⟨cs, rfl, hsz⟩ := okWide_struct Try.underlying34 hv
  obtain ⟨v0, v1, v2, rfl⟩ := array3 (hsz.trans (by kernel_rfl))
  obtain ⟨fuel, hf⟩ := h
  obtain ⟨r, rfl, rfl, rfl⟩ := open_three hf
  exact ⟨r, rfl⟩
set_option maxRecDepth 100000 in
theorem open_order {H : Type} {enc : TypeId × Value → H} {W : World} {base : Nat} {r : Reach} {b0 : Nat} {v : Value} {d : DataW H} {ps : List MemPlace} (hv : Value.okWide Try.prog W r b0 23 v) (h : DataW.Trod enc Try.prog W base (fun _ => true) true 23 v d ps) :
    ∃ x : Odr, v = .agg x.cells ∧ x.id.size ≤ maxLen ∧ x.ve.size ≤ maxLen := by
  obtain ⟨v0, v1, v2, v3, v4, y0, y1, y2, y3, y4, m, rfl, _, _, g0, g1, g2, g3, g4⟩ := open_five Try.underlying23 (by kernel_rfl) (by kernel_rfl) hv h
  obtain ⟨s0, e0, _, w0⟩ := DataW.trod_string Try.underlying9 g0
  obtain ⟨s1, e1, _, w1⟩ := DataW.trod_string Try.underlying9 g1
  obtain ⟨z2, e2, _, _⟩ := DataW.trod_int Try.underlying3 g2
  obtain ⟨z3, e3, _, _⟩ := DataW.trod_int Try.underlying3 g3
  obtain ⟨z4, e4, _, _⟩ := DataW.trod_int Try.underlying3 g4
  have q0 : v0 = .string s0 := one_cell e0
  have q1 : v1 = .string s1 := one_cell e1
  have q2 : v2 = .int .i64 z2 := one_cell e2
  have q3 : v3 = .int .i64 z3 := one_cell e3
  have q4 : v4 = .int .i64 z4 := one_cell e4
  subst q0 q1 q2 q3 q4
  exact ⟨⟨s0, s1, z2, z3, z4⟩, rfl, w0, w1⟩
end Go.Proofs.Ytkkimkhkoiempaa.CH
