/-
  An ask that comes in by value: what it holds.
-/
import Derived.Test.YtdacfnodihannaaFourteen
import Derived.Test.YtdacfnodihannaaFrame3
namespace Go.Proofs.Ytdacfnodihannaa
open Go.ChangeShapes Go.WideShapes Go.ChangeAt Go.RowKit Go.Deep Go.WideElems

theorem range_row {W : World} {v : Value} {n : Nat} {f : Nat → Int} (h : Row W v n fun i => .int .i64 (f i)) : Row W v ((List.range n).map f).length fun i => .int .i64 (((List.range n).map f).getD i 0) := by
  rw [show ((List.range n).map f).length = n by simp]
  refine h.same (fun i hi => ?_)
  simp [hi]
set_option maxRecDepth 100000 in
theorem open_ask {H : Type} {enc : TypeId × Value → H} {W : World} {base : Nat} {r : Reach} {b0 : Nat} {v : Value} {d : DataW H} {ps : List MemPlace} (hv : Value.okWide Try.prog W r b0 28 v) (h : DataW.Trod enc Try.prog W base (fun _ => true) true 28 v d ps) :
    ∃ (k : Int) (i t c s : ByteArray) (sd q p al st en ra sh : Int) (a : Option Addr) (cap : Nat) (cz : List Int), v = .agg #[.int .i64 k, .string i, .string t, .string c, .string s, .int .i64 sd, .int .i64 q, .int .i64 p, .int .i64 al, .int .i64 st, .int .i64 en, .int .i64 ra, .int .i64 sh, .slice a cz.length cap] ∧ Row W (.slice a cz.length cap) cz.length (fun i => .int .i64 (cz.getD i 0)) := by
  obtain ⟨v0, v1, v2, v3, v4, v5, v6, v7, v8, v9, v10, v11, v12, v13, y0, y1, y2, y3, y4, y5, y6, y7, y8, y9, y10, y11, y12, y13, m, rfl, rfl, h0, h1, h2, h3, h4, h5, h6, h7, h8, h9, h10, h11, h12, h13⟩ := open_fourteen Try.underlying28 (by kernel_rfl) (by kernel_rfl) hv h
  obtain ⟨x0, e0, rfl, _⟩ := DataW.trod_int Try.underlying3 h0
  obtain ⟨x1, e1, rfl, _⟩ := DataW.trod_string Try.underlying9 h1
  obtain ⟨x2, e2, rfl, _⟩ := DataW.trod_string Try.underlying9 h2
  obtain ⟨x3, e3, rfl, _⟩ := DataW.trod_string Try.underlying9 h3
  obtain ⟨x4, e4, rfl, _⟩ := DataW.trod_string Try.underlying9 h4
  obtain ⟨x5, e5, rfl, _⟩ := DataW.trod_int Try.underlying3 h5
  obtain ⟨x6, e6, rfl, _⟩ := DataW.trod_int Try.underlying3 h6
  obtain ⟨x7, e7, rfl, _⟩ := DataW.trod_int Try.underlying3 h7
  obtain ⟨x8, e8, rfl, _⟩ := DataW.trod_int Try.underlying3 h8
  obtain ⟨x9, e9, rfl, _⟩ := DataW.trod_int Try.underlying3 h9
  obtain ⟨x10, e10, rfl, _⟩ := DataW.trod_int Try.underlying3 h10
  obtain ⟨x11, e11, rfl, _⟩ := DataW.trod_int Try.underlying3 h11
  obtain ⟨x12, e12, rfl, _⟩ := DataW.trod_int Try.underlying3 h12
  simp only [List.cons.injEq, and_true] at e0 e1 e2 e3 e4 e5 e6 e7 e8 e9 e10 e11 e12
  subst e0 e1 e2 e3 e4 e5 e6 e7 e8 e9 e10 e11 e12
  rcases open_ints Try.underlying26 Try.underlying3 (by kernel_rfl) h13 with ⟨hcs, _⟩ | ⟨x, l, c, zs, hcs, _, hl, hm, hz, _, hcell, hwz⟩
  · simp only [List.cons.injEq, and_true] at hcs
    subst hcs
    obtain ⟨f, hf, _⟩ := row_none W
    exact ⟨x0, x1, x2, x3, x4, x5, x6, x7, x8, x9, x10, x11, x12, none, 0, [], rfl, hf.same (fun i hi => absurd hi (by omega))⟩
  · simp only [List.cons.injEq, and_true] at hcs
    subst hcs
    obtain ⟨f, hf, _⟩ := row_some hl hm (by simpa using hz) hcell (fun z hz => bounds_i64 (hwz z hz))
    refine ⟨x0, x1, x2, x3, x4, x5, x6, x7, x8, x9, x10, x11, x12, some x, c, (List.range l).map f, by rw [show ((List.range l).map f).length = l by simp], ?_⟩
    have := range_row hf
    rw [show ((List.range l).map f).length = l by simp] at this ⊢
    exact this
end Go.Proofs.Ytdacfnodihannaa
