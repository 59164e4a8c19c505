/-
  A step (which call, a number, an order) that comes in by value, and a list of such: what they hold; the contract of few.
-/
import Derived.Test.YtlgnbnojjfgfmaaSnMath
import Derived.ChangeOld
import Derived.ShutString
import Derived.ChangeMaps5
import Derived.Deep.Strs
import Derived.Lib.SmallJoins
namespace Go.Proofs.Ytlgnbnojjfgfmaa.SN
open Go.ChangeShapes Go.WideShapes Go.ChangeAt Go.RowKit Go.Deep Go.WideElems Go.Lib

/-- A step: which call, the number, the order. -/
structure Opc where
  k : Int
  n : Int
  o : Od
/-- Its nine cells. -/
abbrev Opc.cells (x : Opc) : Array Value := #[.int .i64 x.k, .int .i64 x.n, .int .i64 x.o.k, .int .i64 x.o.s, .string x.o.i, .string x.o.y, .int .i64 x.o.d, .int .i64 x.o.q, .int .i64 x.o.p]
/-- The slice value v reads as n steps. -/
def Ops (w : World) (v : Value) (n : Nat) (X : Nat → Opc) : Prop :=
  ∃ a cap, v = .slice a n cap ∧ n ≤ cap ∧ cap ≤ maxLen ∧ ∀ i, i < n → (∃ b off, a = some ⟨b, off, none⟩ ∧ w.cell? ⟨b, off + i * 9, none⟩ = some (.int .i64 (X i).k) ∧ w.cell? ⟨b, off + i * 9 + 1, none⟩ = some (.int .i64 (X i).n) ∧ w.cell? ⟨b, off + i * 9 + 2, none⟩ = some (.int .i64 (X i).o.k) ∧ w.cell? ⟨b, off + i * 9 + 3, none⟩ = some (.int .i64 (X i).o.s) ∧ w.cell? ⟨b, off + i * 9 + 4, none⟩ = some (.string (X i).o.i) ∧ w.cell? ⟨b, off + i * 9 + 5, none⟩ = some (.string (X i).o.y) ∧ w.cell? ⟨b, off + i * 9 + 6, none⟩ = some (.int .i64 (X i).o.d) ∧ w.cell? ⟨b, off + i * 9 + 7, none⟩ = some (.int .i64 (X i).o.q) ∧ w.cell? ⟨b, off + i * 9 + 8, none⟩ = some (.int .i64 (X i).o.p)) ∧ (X i).o.i.size ≤ maxLen ∧ (X i).o.y.size ≤ maxLen ∧ (X i).n ≤ 9223372036854775807
theorem one_cell {x : Value} {y : Value} (h : [x] = [y]) : x = y := by simpa using h
theorem Ops.below {w w' : World} {v : Value} {n : Nat} {X : Nat → Opc} (h : Ops w v n X) (hb : Below w.heap.size w w') : Ops w' v n X := by
  obtain ⟨a, cap, rfl, h1, h2, h3⟩ := h
  refine ⟨a, cap, rfl, h1, h2, fun i hi => ?_⟩
  obtain ⟨⟨b, off, e, c0, c1, c2, c3, c4, c5, c6, c7, c8⟩, hz⟩ := h3 i hi
  have lt := World.block_lt_of_cell? _ _ c0
  exact ⟨⟨b, off, e, by rw [hb.cell (p := ⟨b, off + i * 9, none⟩) lt]; exact c0, by rw [hb.cell (p := ⟨b, off + i * 9 + 1, none⟩) lt]; exact c1, by rw [hb.cell (p := ⟨b, off + i * 9 + 2, none⟩) lt]; exact c2, by rw [hb.cell (p := ⟨b, off + i * 9 + 3, none⟩) lt]; exact c3, by rw [hb.cell (p := ⟨b, off + i * 9 + 4, none⟩) lt]; exact c4, by rw [hb.cell (p := ⟨b, off + i * 9 + 5, none⟩) lt]; exact c5, by rw [hb.cell (p := ⟨b, off + i * 9 + 6, none⟩) lt]; exact c6, by rw [hb.cell (p := ⟨b, off + i * 9 + 7, none⟩) lt]; exact c7, by rw [hb.cell (p := ⟨b, off + i * 9 + 8, none⟩) lt]; exact c8⟩, hz⟩
theorem array9 {α : Type} {cs : Array α} (h : cs.size = 9) : ∃ c0 c1 c2 c3 c4 c5 c6 c7 c8, cs = #[c0, c1, c2, c3, c4, c5, c6, c7, c8] := by
  obtain ⟨l⟩ := cs
  match l, h with
  | [c0, c1, c2, c3, c4, c5, c6, c7, c8], _ => exact ⟨c0, c1, c2, c3, c4, c5, c6, c7, c8, rfl⟩
theorem list9 {α : Type} {l : List α} (h : l.length = 9) : ∃ c0 c1 c2 c3 c4 c5 c6 c7 c8, l = [c0, c1, c2, c3, c4, c5, c6, c7, c8] := by
  match l, h with
  | [c0, c1, c2, c3, c4, c5, c6, c7, c8], _ => exact ⟨c0, c1, c2, c3, c4, c5, c6, c7, c8, rfl⟩
theorem list7 {α : Type} {l : List α} (h : l.length = 7) : ∃ c0 c1 c2 c3 c4 c5 c6, l = [c0, c1, c2, c3, c4, c5, c6] := by
  match l, h with
  | [c0, c1, c2, c3, c4, c5, c6], _ => exact ⟨c0, c1, c2, c3, c4, c5, c6, rfl⟩
set_option maxHeartbeats 1000000 in
theorem trod_seven {H : Type} {enc : TypeId × Value → H} {P : Program} {w : World} {base : Nat} {spare : Nat → Bool} {held : Bool} {fuel : Nat} {t : TypeId} {f0 f1 f2 f3 f4 f5 f6 : Field} {v0 v1 v2 v3 v4 v5 v6 : Value} {x : DataW H × List MemPlace}
    (hs : P.underlying t = some (.struct #[f0, f1, f2, f3, f4, f5, f6])) (hone : oneCellFields P #[f0, f1, f2, f3, f4, f5, f6] = true) (h : DataW.trod enc P w base spare held fuel t [v0, v1, v2, v3, v4, v5, v6] = some x) :
    ∃ (y0 y1 y2 y3 y4 y5 y6 : DataW H × List MemPlace) (n : Nat), DataW.trod enc P w base spare held n f0.type [v0] = some y0 ∧ DataW.trod enc P w base spare held n f1.type [v1] = some y1 ∧ DataW.trod enc P w base spare held n f2.type [v2] = some y2 ∧ DataW.trod enc P w base spare held n f3.type [v3] = some y3 ∧ DataW.trod enc P w base spare held n f4.type [v4] = some y4 ∧ DataW.trod enc P w base spare held n f5.type [v5] = some y5 ∧ DataW.trod enc P w base spare held n f6.type [v6] = some y6 := by
  obtain ⟨xs, n, _, hx, _, hlen, hq⟩ := DataW.trod_struct hs h
  obtain ⟨y0, y1, y2, y3, y4, y5, y6, rfl⟩ := list7 (show xs.length = 7 by simpa using hlen)
  obtain ⟨o0, k0⟩ := hone_of hone 0 f0 rfl
  have h0 := hq 0 f0 rfl
  obtain ⟨o1, k1⟩ := hone_of hone 1 f1 rfl
  have h1 := hq 1 f1 rfl
  obtain ⟨o2, k2⟩ := hone_of hone 2 f2 rfl
  have h2 := hq 2 f2 rfl
  obtain ⟨o3, k3⟩ := hone_of hone 3 f3 rfl
  have h3 := hq 3 f3 rfl
  obtain ⟨o4, k4⟩ := hone_of hone 4 f4 rfl
  have h4 := hq 4 f4 rfl
  obtain ⟨o5, k5⟩ := hone_of hone 5 f5 rfl
  have h5 := hq 5 f5 rfl
  obtain ⟨o6, k6⟩ := hone_of hone 6 f6 rfl
  have h6 := hq 6 f6 rfl
  exact ⟨y0, y1, y2, y3, y4, y5, y6, n, by simpa [Value.cells, o0, k0] using h0, by simpa [Value.cells, o1, k1] using h1, by simpa [Value.cells, o2, k2] using h2, by simpa [Value.cells, o3, k3] using h3, by simpa [Value.cells, o4, k4] using h4, by simpa [Value.cells, o5, k5] using h5, by simpa [Value.cells, o6, k6] using h6⟩
theorem open_nine {H : Type} {enc : TypeId × Value → H} {w : World} {base : Nat} {spare : Nat → Bool} {held : Bool} {fuel : Nat} {v0 v1 v2 v3 v4 v5 v6 v7 v8 : Value} {x : DataW H × List MemPlace}
    (h : DataW.trod enc Try.prog w base spare held fuel 36 [v0, v1, v2, v3, v4, v5, v6, v7, v8] = some x) : ∃ r : Opc, (v0 = .int .i64 r.k ∧ v1 = .int .i64 r.n ∧ v2 = .int .i64 r.o.k ∧ v3 = .int .i64 r.o.s ∧ v4 = .string r.o.i ∧ v5 = .string r.o.y ∧ v6 = .int .i64 r.o.d ∧ v7 = .int .i64 r.o.q ∧ v8 = .int .i64 r.o.p) ∧ r.o.i.size ≤ maxLen ∧ r.o.y.size ≤ maxLen ∧ r.n ≤ 9223372036854775807 := by
  have ci : Try.prog.cellsOf 3 = 1 := by kernel_rfl
  have ce : Try.prog.cellsOf 34 = 7 := by kernel_rfl
  obtain ⟨y0, y1, y2, f2, _, _, g0, g1, g2⟩ := Deep.trod_struct3 Try.underlying36 h
  rw [ci] at g0 g1
  rw [ce] at g2
  obtain ⟨u0, u1, u2, u3, u4, u5, u6, f3, k0, k1, k2, k3, k4, k5, k6⟩ := trod_seven Try.underlying34 (by kernel_rfl) g2
  obtain ⟨z0, e0, _, _⟩ := DataW.trod_int Try.underlying3 g0
  obtain ⟨z1, e1, _, b1⟩ := DataW.trod_int Try.underlying3 g1
  obtain ⟨z2, e2, _, _⟩ := DataW.trod_int Try.underlying3 k0
  obtain ⟨z3, e3, _, _⟩ := DataW.trod_int Try.underlying3 k1
  obtain ⟨s4, e4, _, w4⟩ := DataW.trod_string Try.underlying9 k2
  obtain ⟨s5, e5, _, w5⟩ := DataW.trod_string Try.underlying9 k3
  obtain ⟨z6, e6, _, _⟩ := DataW.trod_int Try.underlying3 k4
  obtain ⟨z7, e7, _, _⟩ := DataW.trod_int Try.underlying3 k5
  obtain ⟨z8, e8, _, _⟩ := DataW.trod_int Try.underlying3 k6
  exact ⟨⟨z0, z1, ⟨z2, z3, s4, s5, z6, z7, z8⟩⟩, ⟨one_cell e0, one_cell e1, one_cell e2, one_cell e3, one_cell e4, one_cell e5, one_cell e6, one_cell e7, one_cell e8⟩, w4, w5, (bounds_i64 b1).2⟩
theorem open_ops {H : Type} {enc : TypeId × Value → H} {w : World} {base : Nat} {spare : Nat → Bool} {held : Bool} {fuel : Nat} {a : Option Addr} {n cap : Nat} {x : DataW H × List MemPlace}
    (h : DataW.trod enc Try.prog w base spare held fuel 22 [.slice a n cap] = some x) : ∃ X, Ops w (.slice a n cap) n X := by
  rcases Deep.open_slice Try.underlying22 h with ⟨e, _⟩ | ⟨ad, len, cap', m, fu, D, Pl, e, hb, hl, hm, hmm, _, hx⟩
  · simp only [List.cons.injEq, Value.slice.injEq, and_true] at e
    obtain ⟨rfl, rfl, rfl⟩ := e
    exact ⟨fun _ => ⟨0, 0, o0⟩, none, 0, rfl, Nat.le_refl _, by unfold maxLen; omega, fun i hi => absurd hi (by omega)⟩
  · simp only [List.cons.injEq, Value.slice.injEq, and_true] at e
    obtain ⟨rfl, rfl, rfl⟩ := e
    have hlm : n ≤ m := by rw [hmm]; split <;> omega
    have ce : Try.prog.cellsOf 36 = 9 := by kernel_rfl
    rw [ce] at hx
    have each : ∀ i, i < n → ∃ r : Opc, (∃ b off, some ad = some ⟨b, off, none⟩ ∧ w.cell? ⟨b, off + i * 9, none⟩ = some (.int .i64 r.k) ∧ w.cell? ⟨b, off + i * 9 + 1, none⟩ = some (.int .i64 r.n) ∧ w.cell? ⟨b, off + i * 9 + 2, none⟩ = some (.int .i64 r.o.k) ∧ w.cell? ⟨b, off + i * 9 + 3, none⟩ = some (.int .i64 r.o.s) ∧ w.cell? ⟨b, off + i * 9 + 4, none⟩ = some (.string r.o.i) ∧ w.cell? ⟨b, off + i * 9 + 5, none⟩ = some (.string r.o.y) ∧ w.cell? ⟨b, off + i * 9 + 6, none⟩ = some (.int .i64 r.o.d) ∧ w.cell? ⟨b, off + i * 9 + 7, none⟩ = some (.int .i64 r.o.q) ∧ w.cell? ⟨b, off + i * 9 + 8, none⟩ = some (.int .i64 r.o.p)) ∧ r.o.i.size ≤ maxLen ∧ r.o.y.size ≤ maxLen ∧ r.n ≤ 9223372036854775807 := by
      intro i hi
      obtain ⟨cs', h1, h2⟩ := hx i (by omega)
      obtain ⟨_, hlen, hcell⟩ := World.cells?_some h1
      obtain ⟨v0, v1, v2, v3, v4, v5, v6, v7, v8, rfl⟩ := list9 hlen
      obtain ⟨r, ⟨rfl, rfl, rfl, rfl, rfl, rfl, rfl, rfl, rfl⟩, hz⟩ := open_nine h2
      have k0 := hcell 0 (by omega)
      have k1 := hcell 1 (by omega)
      have k2 := hcell 2 (by omega)
      have k3 := hcell 3 (by omega)
      have k4 := hcell 4 (by omega)
      have k5 := hcell 5 (by omega)
      have k6 := hcell 6 (by omega)
      have k7 := hcell 7 (by omega)
      have k8 := hcell 8 (by omega)
      obtain ⟨cs0, h10, _⟩ := hx 0 (by omega)
      obtain ⟨_, hl0, hc0⟩ := World.cells?_some h10
      obtain ⟨u0, u1, u2, u3, u4, u5, u6, u7, u8, rfl⟩ := list9 hl0
      obtain ⟨b, off, spot⟩ := ad
      have hspot : spot = none := by
        have := World.cell?_spot (hc0 0 (by omega))
        simpa [Addr.add] using this
      subst hspot
      rw [Addr.add_lit, Addr.add_lit] at k0 k1 k2 k3 k4 k5 k6 k7 k8
      exact ⟨r, ⟨b, off, rfl, k0, k1, k2, k3, k4, k5, k6, k7, k8⟩, hz⟩
    haveI : Inhabited Opc := ⟨⟨0, 0, o0⟩⟩
    obtain ⟨r, hr⟩ := Deep.choose_lt each
    exact ⟨r, some ad, cap, rfl, hl, hm, hr⟩
set_option maxRecDepth 100000 in
theorem open_op {H : Type} {enc : TypeId × Value → H} {W : World} {base : Nat} {r : Reach} {b0 : Nat} {v : Value} {d : DataW H} {ps : List MemPlace} (hv : Value.okWide Try.prog W r b0 36 v) (h : DataW.Trod enc Try.prog W base (fun _ => true) true 36 v d ps) :
    ∃ x : Opc, v = .agg x.cells ∧ x.o.i.size ≤ maxLen ∧ x.o.y.size ≤ maxLen ∧ x.n ≤ 9223372036854775807 := by
  obtain ⟨cs, rfl, hsz⟩ := okWide_struct Try.underlying36 hv
  obtain ⟨v0, v1, v2, v3, v4, v5, v6, v7, v8, rfl⟩ := array9 (hsz.trans (by kernel_rfl))
  obtain ⟨fuel, hf⟩ := h
  obtain ⟨r, ⟨rfl, rfl, rfl, rfl, rfl, rfl, rfl, rfl, rfl⟩, hz⟩ := open_nine hf
  exact ⟨r, rfl, hz⟩
/-- A step is small enough to be played. -/
def Sml (x : Opc) : Prop := x.o.i.size ≤ 200 ∧ x.o.y.size ≤ 200
def fewB (n : Nat) (X : Nat → Opc) : Prop := n ≤ 100 ∧ ∀ i, i < n → Sml (X i)
/-- What few answers. -/
def FewT (e : Ending) (n : Nat) (X : Nat → Opc) : Prop := ∃ T : Bool, e = .returned (.bool T) ∧ Hid (T = true ↔ fewB n X)
set_option maxRecDepth 100000 in
set_option maxHeartbeats 4000000 in
theorem few_any {w : World} {v : Value} {n : Nat} {X : Nat → Opc} (h : Ops w v n X) :
    Calls Try.prog 7 #[v] w fun e w' => FewT e n X ∧ Below w.heap.size w w' := by
  obtain ⟨a, cap, rfl, h1, h2, h3⟩ := h
  unfold maxLen at h2
  go_enter Try.func7, Try.ntmps7
  go_wp2_with fail
  go_loopw [7] (fun c wr => ∃ k : Nat, c = .int .i64 (k : Int) ∧ k ≤ n ∧ Hid (∀ i, i < k → Sml (X i)) ∧ Below w.heap.size w wr) (fun c _ => n - (RowKit.intOf c).toNat)
  case atStart => exact ⟨0, rfl, Nat.zero_le _, fun i hi => absurd hi (by omega), Below.refl _ _⟩
  case round =>
    obtain ⟨k, rfl, hk, hg, hB⟩ := hrel
    by_cases hlt : k < n
    · have t : (k : Int) < (n : Int) := by omega
      obtain ⟨⟨b, off, rfl, c0, c1, c2, c3, c4, c5, c6, c7, c8⟩, z0, z1, _⟩ := h3 k hlt
      unfold maxLen at z0 z1
      have d0 := (hB.cell (World.block_lt_of_cell? _ _ c0)).trans c0
      have d1 := (hB.cell (World.block_lt_of_cell? _ _ c1)).trans c1
      have d2 := (hB.cell (World.block_lt_of_cell? _ _ c2)).trans c2
      have d3 := (hB.cell (World.block_lt_of_cell? _ _ c3)).trans c3
      have d4 := (hB.cell (World.block_lt_of_cell? _ _ c4)).trans c4
      have d5 := (hB.cell (World.block_lt_of_cell? _ _ c5)).trans c5
      have d6 := (hB.cell (World.block_lt_of_cell? _ _ c6)).trans c6
      have d7 := (hB.cell (World.block_lt_of_cell? _ _ c7)).trans c7
      have d8 := (hB.cell (World.block_lt_of_cell? _ _ c8)).trans c8
      have hge := hB.size
      by_cases t1 : (200 : Int) < ((X k).o.i.size : Int)
      · have HG : Hid (¬ fewB n X) := fun hf => by have := (hf.2 k hlt).1; omega
        clear h3 c0 c1 c2 c3 c4 c5 c6 c7 c8 hg
        generalize (X k).o.i = y4 at *
        generalize (X k).o.y = y5 at *
        generalize (X k).k = y0 at *
        generalize (X k).n = y1 at *
        generalize (X k).o.k = y2 at *
        generalize (X k).o.s = y3 at *
        generalize (X k).o.d = y6 at *
        generalize (X k).o.q = y7 at *
        generalize (X k).o.p = y8 at *
        go_wp2_with fail
        go_ret
        exact ⟨⟨false, rfl, fun e => absurd e Bool.noConfusion, fun hf => absurd hf HG.out⟩, hB.alloc hge _⟩
      by_cases t2 : (200 : Int) < ((X k).o.y.size : Int)
      · have HG : Hid (¬ fewB n X) := fun hf => by have := (hf.2 k hlt).2; omega
        clear h3 c0 c1 c2 c3 c4 c5 c6 c7 c8 hg
        generalize (X k).o.i = y4 at *
        generalize (X k).o.y = y5 at *
        generalize (X k).k = y0 at *
        generalize (X k).n = y1 at *
        generalize (X k).o.k = y2 at *
        generalize (X k).o.s = y3 at *
        generalize (X k).o.d = y6 at *
        generalize (X k).o.q = y7 at *
        generalize (X k).o.p = y8 at *
        go_wp2_with fail
        go_ret
        exact ⟨⟨false, rfl, fun e => absurd e Bool.noConfusion, fun hf => absurd hf HG.out⟩, hB.alloc hge _⟩
      · have HG : Hid (∀ i, i < k + 1 → Sml (X i)) := fun i hi => if e : i = k then by subst e; exact ⟨by omega, by omega⟩ else hg.out i (by omega)
        clear h3 c0 c1 c2 c3 c4 c5 c6 c7 c8 hg
        generalize (X k).o.i = y4 at *
        generalize (X k).o.y = y5 at *
        generalize (X k).k = y0 at *
        generalize (X k).n = y1 at *
        generalize (X k).o.k = y2 at *
        generalize (X k).o.s = y3 at *
        generalize (X k).o.d = y6 at *
        generalize (X k).o.q = y7 at *
        generalize (X k).o.p = y8 at *
        go_wp2_with fail
        go_roundw
        case rel => exact ⟨k + 1, by simp, by omega, HG, hB.alloc hge _⟩
        case measure => simp [RowKit.intOf]; omega
    · have hkn : k = n := by omega
      subst hkn
      have t : ¬ (k : Int) < (k : Int) := by omega
      clear h3
      go_wp2_with fail
      go_ret
      exact ⟨⟨_, rfl, fun e => ⟨by have := of_decide_eq_true e; omega, hg.out⟩, fun hf => decide_eq_true (by have := hf.1; omega)⟩, hB⟩
end Go.Proofs.Ytlgnbnojjfgfmaa.SN
