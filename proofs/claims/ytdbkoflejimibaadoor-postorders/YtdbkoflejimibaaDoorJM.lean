/-
  A struct of 7 fields of one cell each, by value, that comes in: each field's own reading; what it holds.
-/
import Derived.Lib.SmallJoins
import Derived.Test.YtdbkoflejimibaaDoorRows
import Derived.Test.YtdbkoflejimibaaDoorGA
namespace Go.Proofs.YtdbkoflejimibaaDoor
open Go.ChangeShapes Go.WideShapes Go.ChangeAt Go.RowKit Go.Deep Go.WideElems

theorem array7 {α : Type} {cs : Array α} (h : cs.size = 7) : ∃ c0 c1 c2 c3 c4 c5 c6, cs = #[c0, c1, c2, c3, c4, c5, c6] := by
  obtain ⟨l⟩ := cs
  match l, h with
  | [c0, c1, c2, c3, c4, c5, c6], _ => exact ⟨c0, c1, c2, c3, c4, c5, c6, rfl⟩
theorem list7 {α : Type} {l : List α} (h : l.length = 7) : ∃ c0 c1 c2 c3 c4 c5 c6, l = [c0, c1, c2, c3, c4, c5, c6] := by
  match l, h with
  | [c0, c1, c2, c3, c4, c5, c6], _ => exact ⟨c0, c1, c2, c3, c4, c5, c6, rfl⟩
set_option maxHeartbeats 1000000 in
theorem open_7 {H : Type} {enc : TypeId × Value → H} {P : Program} {w : World} {base : Nat} {spare : Nat → Bool} {held : Bool} {r : Reach} {b0 : Nat} {t : TypeId} {f0 f1 f2 f3 f4 f5 f6 : Field} {v : Value} {d : DataW H} {p : List MemPlace}
    (hs : P.underlying t = some (.struct #[f0, f1, f2, f3, f4, f5, f6])) (hone : oneCellFields P #[f0, f1, f2, f3, f4, f5, f6] = true) (hC : P.cellsOf t = 7)
    (hv : Value.okWide P w r b0 t v) (h : DataW.Trod enc P w base spare held t v d p) :
    ∃ (v0 v1 v2 v3 v4 v5 v6 : Value) (y0 y1 y2 y3 y4 y5 y6 : DataW H × List MemPlace) (n : Nat), v = .agg #[v0, v1, v2, v3, v4, v5, v6] ∧ d = .agg [y0.1, y1.1, y2.1, y3.1, y4.1, y5.1, y6.1] ∧ DataW.trod enc P w base spare held n f0.type [v0] = some y0 ∧ DataW.trod enc P w base spare held n f1.type [v1] = some y1 ∧ DataW.trod enc P w base spare held n f2.type [v2] = some y2 ∧ DataW.trod enc P w base spare held n f3.type [v3] = some y3 ∧ DataW.trod enc P w base spare held n f4.type [v4] = some y4 ∧ DataW.trod enc P w base spare held n f5.type [v5] = some y5 ∧ DataW.trod enc P w base spare held n f6.type [v6] = some y6 := by
  obtain ⟨cs, rfl, hsz⟩ := okWide_struct hs hv
  obtain ⟨c0, c1, c2, c3, c4, c5, c6, rfl⟩ := array7 (hsz.trans hC)
  obtain ⟨fuel, hf⟩ := h
  obtain ⟨xs, n, _, hx, _, hlen, hq⟩ := DataW.trod_struct hs hf
  obtain ⟨y0, y1, y2, y3, y4, y5, y6, rfl⟩ := list7 (show xs.length = 7 by simpa using hlen)
  obtain ⟨o0, k0⟩ := hone_of hone 0 f0 rfl
  have h0 := hq 0 f0 rfl
  obtain ⟨o1, k1⟩ := hone_of hone 1 f1 rfl
  have h1 := hq 1 f1 rfl
  obtain ⟨o2, k2⟩ := hone_of hone 2 f2 rfl
  have h2 := hq 2 f2 rfl
  obtain ⟨o3, k3⟩ := hone_of hone 3 f3 rfl
  have h3 := hq 3 f3 rfl
  obtain ⟨o4, k4⟩ := hone_of hone 4 f4 rfl
  have h4 := hq 4 f4 rfl
  obtain ⟨o5, k5⟩ := hone_of hone 5 f5 rfl
  have h5 := hq 5 f5 rfl
  obtain ⟨o6, k6⟩ := hone_of hone 6 f6 rfl
  have h6 := hq 6 f6 rfl
  simp only [Prod.mk.injEq] at hx
  exact ⟨c0, c1, c2, c3, c4, c5, c6, y0, y1, y2, y3, y4, y5, y6, n, rfl, by rw [hx.1]; simp, by simpa [Value.cells, o0, k0] using h0, by simpa [Value.cells, o1, k1] using h1, by simpa [Value.cells, o2, k2] using h2, by simpa [Value.cells, o3, k3] using h3, by simpa [Value.cells, o4, k4] using h4, by simpa [Value.cells, o5, k5] using h5, by simpa [Value.cells, o6, k6] using h6⟩
set_option maxRecDepth 100000 in
theorem open_order {H : Type} {enc : TypeId × Value → H} {W : World} {base : Nat} {r : Reach} {b0 : Nat} {v : Value} {d : DataW H} {ps : List MemPlace} (hv : Value.okWide Tryd.prog W r b0 23 v) (h : DataW.Trod enc Tryd.prog W base (fun _ => true) true 23 v d ps) :
    ∃ t : (Nat → ByteArray) × (Nat → Int), v = .agg #[.int .i64 (t.2 0), .int .i64 (t.2 1), .string (t.1 2), .string (t.1 3), .int .i64 (t.2 4), .int .i64 (t.2 5), .int .i64 (t.2 6)] := by
  obtain ⟨v0, v1, v2, v3, v4, v5, v6, y0, y1, y2, y3, y4, y5, y6, m, rfl, rfl, h0, h1, h2, h3, h4, h5, h6⟩ := open_7 Tryd.underlying23 (by kernel_rfl) (by kernel_rfl) hv h
  obtain ⟨x0, e0, rfl, _⟩ := DataW.trod_int Tryd.underlying3 h0
  obtain ⟨x1, e1, rfl, _⟩ := DataW.trod_int Tryd.underlying3 h1
  obtain ⟨x2, e2, rfl, _⟩ := DataW.trod_string Tryd.underlying9 h2
  obtain ⟨x3, e3, rfl, _⟩ := DataW.trod_string Tryd.underlying9 h3
  obtain ⟨x4, e4, rfl, _⟩ := DataW.trod_int Tryd.underlying3 h4
  obtain ⟨x5, e5, rfl, _⟩ := DataW.trod_int Tryd.underlying3 h5
  obtain ⟨x6, e6, rfl, _⟩ := DataW.trod_int Tryd.underlying3 h6
  simp only [List.cons.injEq, and_true] at e0 e1 e2 e3 e4 e5 e6
  subst e0 e1 e2 e3 e4 e5 e6
  exact ⟨(fun j => if j = 2 then x2 else if j = 3 then x3 else ⟨#[]⟩, fun j => if j = 0 then x0 else if j = 1 then x1 else if j = 4 then x4 else if j = 5 then x5 else if j = 6 then x6 else 0), rfl⟩
end Go.Proofs.YtdbkoflejimibaaDoor
/-
  A struct of 7 fields of one cell each, by value, that comes in: each field's own reading; what it holds.
-/
namespace Go.Proofs.YtdbkoflejimibaaDoor
open Go.ChangeShapes Go.WideShapes Go.ChangeAt Go.RowKit Go.Deep Go.WideElems

set_option maxRecDepth 100000 in
theorem open_reply {H : Type} {enc : TypeId × Value → H} {W : World} {base : Nat} {r : Reach} {b0 : Nat} {v : Value} {d : DataW H} {ps : List MemPlace} (hv : Value.okWide Tryd.prog W r b0 35 v) (h : DataW.Trod enc Tryd.prog W base (fun _ => true) true 35 v d ps) :
    ∃ t : (Nat → ByteArray) × (Nat → Int), v = .agg #[.int .i64 (t.2 0), .int .i64 (t.2 1), .string (t.1 2), .string (t.1 3), .int .i64 (t.2 4), .int .i64 (t.2 5), .string (t.1 6)] := by
  obtain ⟨v0, v1, v2, v3, v4, v5, v6, y0, y1, y2, y3, y4, y5, y6, m, rfl, rfl, h0, h1, h2, h3, h4, h5, h6⟩ := open_7 Tryd.underlying35 (by kernel_rfl) (by kernel_rfl) hv h
  obtain ⟨x0, e0, rfl, _⟩ := DataW.trod_int Tryd.underlying3 h0
  obtain ⟨x1, e1, rfl, _⟩ := DataW.trod_int Tryd.underlying3 h1
  obtain ⟨x2, e2, rfl, _⟩ := DataW.trod_string Tryd.underlying9 h2
  obtain ⟨x3, e3, rfl, _⟩ := DataW.trod_string Tryd.underlying9 h3
  obtain ⟨x4, e4, rfl, _⟩ := DataW.trod_int Tryd.underlying3 h4
  obtain ⟨x5, e5, rfl, _⟩ := DataW.trod_int Tryd.underlying3 h5
  obtain ⟨x6, e6, rfl, _⟩ := DataW.trod_string Tryd.underlying9 h6
  simp only [List.cons.injEq, and_true] at e0 e1 e2 e3 e4 e5 e6
  subst e0 e1 e2 e3 e4 e5 e6
  exact ⟨(fun j => if j = 2 then x2 else if j = 3 then x3 else if j = 6 then x6 else ⟨#[]⟩, fun j => if j = 0 then x0 else if j = 1 then x1 else if j = 4 then x4 else if j = 5 then x5 else 0), rfl⟩
end Go.Proofs.YtdbkoflejimibaaDoor
