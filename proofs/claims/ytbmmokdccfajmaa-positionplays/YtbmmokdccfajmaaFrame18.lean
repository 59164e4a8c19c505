/-
  An execution (five numbers and whether it is taken back) that comes in by value, and a list of such: what they hold.
-/
import Derived.Test.YtbmmokdccfajmaaBut
import Derived.Test.YtbmmokdccfajmaaPoMath
import Derived.ChangeOld
import Derived.ShutString
import Derived.ChangeMaps5
import Derived.Deep.Strs
import Derived.Lib.SmallJoins
namespace Go.Proofs.Ytbmmokdccfajmaa.PO
open Go.ChangeShapes Go.WideShapes Go.ChangeAt Go.RowKit Go.Deep Go.WideElems Go.Lib

/-- An execution: account, symbol, side, quantity, price; is it taken back? -/
structure Ex where
  a : Int
  s : Int
  d : Int
  q : Int
  p : Int
  k : Bool
/-- Its six cells. -/
abbrev Ex.cells (x : Ex) : Array Value := #[.int .i64 x.a, .int .i64 x.s, .int .i64 x.d, .int .i64 x.q, .int .i64 x.p, .bool x.k]
/-- The slice value v reads as n executions. -/
def Ops (w : World) (v : Value) (n : Nat) (X : Nat → Ex) : Prop :=
  ∃ a cap, v = .slice a n cap ∧ n ≤ cap ∧ cap ≤ maxLen ∧ ∀ i, i < n → ∃ b off, a = some ⟨b, off, none⟩ ∧ w.cell? ⟨b, off + i * 6, none⟩ = some (.int .i64 (X i).a) ∧ w.cell? ⟨b, off + i * 6 + 1, none⟩ = some (.int .i64 (X i).s) ∧ w.cell? ⟨b, off + i * 6 + 2, none⟩ = some (.int .i64 (X i).d) ∧ w.cell? ⟨b, off + i * 6 + 3, none⟩ = some (.int .i64 (X i).q) ∧ w.cell? ⟨b, off + i * 6 + 4, none⟩ = some (.int .i64 (X i).p) ∧ w.cell? ⟨b, off + i * 6 + 5, none⟩ = some (.bool (X i).k)
theorem one_cell {x : Value} {y : Value} (h : [x] = [y]) : x = y := by simpa using h
theorem Ops.below {w w' : World} {v : Value} {n : Nat} {X : Nat → Ex} (h : Ops w v n X) (hb : Below w.heap.size w w') : Ops w' v n X := by
  obtain ⟨a, cap, rfl, h1, h2, h3⟩ := h
  refine ⟨a, cap, rfl, h1, h2, fun i hi => ?_⟩
  obtain ⟨b, off, e, c0, c1, c2, c3, c4, c5⟩ := h3 i hi
  have lt := World.block_lt_of_cell? _ _ c0
  exact ⟨b, off, e, by rw [hb.cell (p := ⟨b, off + i * 6, none⟩) lt]; exact c0, by rw [hb.cell (p := ⟨b, off + i * 6 + 1, none⟩) lt]; exact c1, by rw [hb.cell (p := ⟨b, off + i * 6 + 2, none⟩) lt]; exact c2, by rw [hb.cell (p := ⟨b, off + i * 6 + 3, none⟩) lt]; exact c3, by rw [hb.cell (p := ⟨b, off + i * 6 + 4, none⟩) lt]; exact c4, by rw [hb.cell (p := ⟨b, off + i * 6 + 5, none⟩) lt]; exact c5⟩
theorem array6 {α : Type} {cs : Array α} (h : cs.size = 6) : ∃ c0 c1 c2 c3 c4 c5, cs = #[c0, c1, c2, c3, c4, c5] := by
  obtain ⟨l⟩ := cs
  match l, h with
  | [c0, c1, c2, c3, c4, c5], _ => exact ⟨c0, c1, c2, c3, c4, c5, rfl⟩
theorem list6 {α : Type} {l : List α} (h : l.length = 6) : ∃ c0 c1 c2 c3 c4 c5, l = [c0, c1, c2, c3, c4, c5] := by
  match l, h with
  | [c0, c1, c2, c3, c4, c5], _ => exact ⟨c0, c1, c2, c3, c4, c5, rfl⟩
set_option maxHeartbeats 1000000 in
theorem trod_6 {H : Type} {enc : TypeId × Value → H} {P : Program} {w : World} {base : Nat} {spare : Nat → Bool} {held : Bool} {fuel : Nat} {t : TypeId} {f0 f1 f2 f3 f4 f5 : Field} {v0 v1 v2 v3 v4 v5 : Value} {x : DataW H × List MemPlace}
    (hs : P.underlying t = some (.struct #[f0, f1, f2, f3, f4, f5])) (hone : oneCellFields P #[f0, f1, f2, f3, f4, f5] = true) (h : DataW.trod enc P w base spare held fuel t [v0, v1, v2, v3, v4, v5] = some x) :
    ∃ (y0 y1 y2 y3 y4 y5 : DataW H × List MemPlace) (n : Nat), x.1 = .agg [y0.1, y1.1, y2.1, y3.1, y4.1, y5.1] ∧ DataW.trod enc P w base spare held n f0.type [v0] = some y0 ∧ DataW.trod enc P w base spare held n f1.type [v1] = some y1 ∧ DataW.trod enc P w base spare held n f2.type [v2] = some y2 ∧ DataW.trod enc P w base spare held n f3.type [v3] = some y3 ∧ DataW.trod enc P w base spare held n f4.type [v4] = some y4 ∧ DataW.trod enc P w base spare held n f5.type [v5] = some y5 := by
  obtain ⟨xs, n, _, hx, _, hlen, hq⟩ := DataW.trod_struct hs h
  obtain ⟨y0, y1, y2, y3, y4, y5, rfl⟩ := list6 (show xs.length = 6 by simpa using hlen)
  obtain ⟨o0, k0⟩ := hone_of hone 0 f0 rfl
  have h0 := hq 0 f0 rfl
  obtain ⟨o1, k1⟩ := hone_of hone 1 f1 rfl
  have h1 := hq 1 f1 rfl
  obtain ⟨o2, k2⟩ := hone_of hone 2 f2 rfl
  have h2 := hq 2 f2 rfl
  obtain ⟨o3, k3⟩ := hone_of hone 3 f3 rfl
  have h3 := hq 3 f3 rfl
  obtain ⟨o4, k4⟩ := hone_of hone 4 f4 rfl
  have h4 := hq 4 f4 rfl
  obtain ⟨o5, k5⟩ := hone_of hone 5 f5 rfl
  have h5 := hq 5 f5 rfl
  exact ⟨y0, y1, y2, y3, y4, y5, n, by rw [hx]; simp, by simpa [o0, k0] using h0, by simpa [o1, k1] using h1, by simpa [o2, k2] using h2, by simpa [o3, k3] using h3, by simpa [o4, k4] using h4, by simpa [o5, k5] using h5⟩
theorem open_ops {H : Type} {enc : TypeId × Value → H} {w : World} {base : Nat} {spare : Nat → Bool} {held : Bool} {fuel : Nat} {a : Option Addr} {n cap : Nat} {x : DataW H × List MemPlace}
    (h : DataW.trod enc Try.prog w base spare held fuel 22 [.slice a n cap] = some x) : ∃ X, Ops w (.slice a n cap) n X := by
  rcases Deep.open_slice Try.underlying22 h with ⟨e, _⟩ | ⟨ad, len, cap', m, fu, D, Pl, e, hb, hl, hm, hmm, _, hx⟩
  · simp only [List.cons.injEq, Value.slice.injEq, and_true] at e
    obtain ⟨rfl, rfl, rfl⟩ := e
    exact ⟨fun _ => ⟨0, 0, 0, 0, 0, false⟩, none, 0, rfl, Nat.le_refl _, by unfold maxLen; omega, fun i hi => absurd hi (by omega)⟩
  · simp only [List.cons.injEq, Value.slice.injEq, and_true] at e
    obtain ⟨rfl, rfl, rfl⟩ := e
    have hlm : n ≤ m := by rw [hmm]; split <;> omega
    have ce : Try.prog.cellsOf 30 = 6 := by kernel_rfl
    rw [ce] at hx
    have each : ∀ i, i < n → ∃ r : Ex, ∃ b off, some ad = some ⟨b, off, none⟩ ∧ w.cell? ⟨b, off + i * 6, none⟩ = some (.int .i64 r.a) ∧ w.cell? ⟨b, off + i * 6 + 1, none⟩ = some (.int .i64 r.s) ∧ w.cell? ⟨b, off + i * 6 + 2, none⟩ = some (.int .i64 r.d) ∧ w.cell? ⟨b, off + i * 6 + 3, none⟩ = some (.int .i64 r.q) ∧ w.cell? ⟨b, off + i * 6 + 4, none⟩ = some (.int .i64 r.p) ∧ w.cell? ⟨b, off + i * 6 + 5, none⟩ = some (.bool r.k) := by
      intro i hi
      obtain ⟨cs', h1, h2⟩ := hx i (by omega)
      obtain ⟨_, hlen, hcell⟩ := World.cells?_some h1
      obtain ⟨v0, v1, v2, v3, v4, v5, rfl⟩ := list6 hlen
      obtain ⟨y0, y1, y2, y3, y4, y5, f2, _, g0, g1, g2, g3, g4, g5⟩ := trod_6 Try.underlying30 (by kernel_rfl) h2
      obtain ⟨z0, e0, _, _⟩ := DataW.trod_int Try.underlying3 g0
      obtain rfl := one_cell e0
      obtain ⟨z1, e1, _, _⟩ := DataW.trod_int Try.underlying3 g1
      obtain rfl := one_cell e1
      obtain ⟨z2, e2, _, _⟩ := DataW.trod_int Try.underlying3 g2
      obtain rfl := one_cell e2
      obtain ⟨z3, e3, _, _⟩ := DataW.trod_int Try.underlying3 g3
      obtain rfl := one_cell e3
      obtain ⟨z4, e4, _, _⟩ := DataW.trod_int Try.underlying3 g4
      obtain rfl := one_cell e4
      obtain ⟨z5, e5, _⟩ := DataW.trod_bool Try.underlying4 g5
      obtain rfl := one_cell e5
      have k0 := hcell 0 (by omega)
      have k1 := hcell 1 (by omega)
      have k2 := hcell 2 (by omega)
      have k3 := hcell 3 (by omega)
      have k4 := hcell 4 (by omega)
      have k5 := hcell 5 (by omega)
      obtain ⟨cs0, h10, _⟩ := hx 0 (by omega)
      obtain ⟨_, hl0, hc0⟩ := World.cells?_some h10
      obtain ⟨u0, u1, u2, u3, u4, u5, rfl⟩ := list6 hl0
      obtain ⟨b, off, spot⟩ := ad
      have hspot : spot = none := by
        have := World.cell?_spot (hc0 0 (by omega))
        simpa [Addr.add] using this
      subst hspot
      rw [Addr.add_lit, Addr.add_lit] at k0 k1 k2 k3 k4 k5
      exact ⟨⟨z0, z1, z2, z3, z4, z5⟩, b, off, rfl, k0, k1, k2, k3, k4, k5⟩
    haveI : Inhabited Ex := ⟨⟨0, 0, 0, 0, 0, false⟩⟩
    obtain ⟨r, hr⟩ := Deep.choose_lt each
    exact ⟨r, some ad, cap, rfl, hl, hm, hr⟩
set_option maxRecDepth 100000 in
theorem open_op {H : Type} {enc : TypeId × Value → H} {W : World} {base : Nat} {r : Reach} {b0 : Nat} {v : Value} {d : DataW H} {ps : List MemPlace} (hv : Value.okWide Try.prog W r b0 30 v) (h : DataW.Trod enc Try.prog W base (fun _ => true) true 30 v d ps) :
    ∃ x : Ex, v = .agg x.cells := by
  obtain ⟨cs, rfl, hsz⟩ := okWide_struct Try.underlying30 hv
  obtain ⟨v0, v1, v2, v3, v4, v5, rfl⟩ := array6 (hsz.trans (by kernel_rfl))
  obtain ⟨fuel, hf⟩ := h
  obtain ⟨y0, y1, y2, y3, y4, y5, f2, _, g0, g1, g2, g3, g4, g5⟩ := trod_6 Try.underlying30 (by kernel_rfl) hf
  obtain ⟨z0, e0, _, _⟩ := DataW.trod_int Try.underlying3 g0
  obtain rfl := one_cell e0
  obtain ⟨z1, e1, _, _⟩ := DataW.trod_int Try.underlying3 g1
  obtain rfl := one_cell e1
  obtain ⟨z2, e2, _, _⟩ := DataW.trod_int Try.underlying3 g2
  obtain rfl := one_cell e2
  obtain ⟨z3, e3, _, _⟩ := DataW.trod_int Try.underlying3 g3
  obtain rfl := one_cell e3
  obtain ⟨z4, e4, _, _⟩ := DataW.trod_int Try.underlying3 g4
  obtain rfl := one_cell e4
  obtain ⟨z5, e5, _⟩ := DataW.trod_bool Try.underlying4 g5
  obtain rfl := one_cell e5
  exact ⟨⟨z0, z1, z2, z3, z4, z5⟩, rfl⟩
end Go.Proofs.Ytbmmokdccfajmaa.PO
