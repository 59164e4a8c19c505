/-
  A step (which call, a name, an execution) that comes in by value, and a list of such: what they hold; the contract of few.
-/
import Derived.Test.YthkohopnoifibaaSeMath
import Derived.ChangeOld
import Derived.ShutString
import Derived.ChangeMaps5
import Derived.Deep.Strs
import Derived.Lib.SmallJoins
namespace Go.Proofs.Ythkohopnoifibaa.SE
open Go.ChangeShapes Go.WideShapes Go.ChangeAt Go.RowKit Go.Deep Go.WideElems Go.Lib

/-- A step: which call, the name, the execution. -/
structure Opc where
  k : Int
  n : ByteArray
  x : Xc
/-- Its six cells. -/
abbrev Opc.cells (x : Opc) : Array Value := #[.int .i64 x.k, .string x.n, .string x.x.o, .int .i64 x.x.q, .int .i64 x.x.p, .bool x.x.k]
/-- The slice value v reads as n steps. -/
def Ops (w : World) (v : Value) (n : Nat) (X : Nat → Opc) : Prop :=
  ∃ a cap, v = .slice a n cap ∧ n ≤ cap ∧ cap ≤ maxLen ∧ ∀ i, i < n → (∃ b off, a = some ⟨b, off, none⟩ ∧ w.cell? ⟨b, off + i * 6, none⟩ = some (.int .i64 (X i).k) ∧ w.cell? ⟨b, off + i * 6 + 1, none⟩ = some (.string (X i).n) ∧ w.cell? ⟨b, off + i * 6 + 2, none⟩ = some (.string (X i).x.o) ∧ w.cell? ⟨b, off + i * 6 + 3, none⟩ = some (.int .i64 (X i).x.q) ∧ w.cell? ⟨b, off + i * 6 + 4, none⟩ = some (.int .i64 (X i).x.p) ∧ w.cell? ⟨b, off + i * 6 + 5, none⟩ = some (.bool (X i).x.k)) ∧ (X i).n.size ≤ maxLen ∧ (X i).x.o.size ≤ maxLen
theorem one_cell {x : Value} {y : Value} (h : [x] = [y]) : x = y := by simpa using h
theorem Ops.below {w w' : World} {v : Value} {n : Nat} {X : Nat → Opc} (h : Ops w v n X) (hb : Below w.heap.size w w') : Ops w' v n X := by
  obtain ⟨a, cap, rfl, h1, h2, h3⟩ := h
  refine ⟨a, cap, rfl, h1, h2, fun i hi => ?_⟩
  obtain ⟨⟨b, off, e, c0, c1, c2, c3, c4, c5⟩, hz⟩ := h3 i hi
  have lt := World.block_lt_of_cell? _ _ c0
  exact ⟨⟨b, off, e, by rw [hb.cell (p := ⟨b, off + i * 6, none⟩) lt]; exact c0, by rw [hb.cell (p := ⟨b, off + i * 6 + 1, none⟩) lt]; exact c1, by rw [hb.cell (p := ⟨b, off + i * 6 + 2, none⟩) lt]; exact c2, by rw [hb.cell (p := ⟨b, off + i * 6 + 3, none⟩) lt]; exact c3, by rw [hb.cell (p := ⟨b, off + i * 6 + 4, none⟩) lt]; exact c4, by rw [hb.cell (p := ⟨b, off + i * 6 + 5, none⟩) lt]; exact c5⟩, hz⟩
theorem array6 {α : Type} {cs : Array α} (h : cs.size = 6) : ∃ c0 c1 c2 c3 c4 c5, cs = #[c0, c1, c2, c3, c4, c5] := by
  obtain ⟨l⟩ := cs
  match l, h with
  | [c0, c1, c2, c3, c4, c5], _ => exact ⟨c0, c1, c2, c3, c4, c5, rfl⟩
theorem list6 {α : Type} {l : List α} (h : l.length = 6) : ∃ c0 c1 c2 c3 c4 c5, l = [c0, c1, c2, c3, c4, c5] := by
  match l, h with
  | [c0, c1, c2, c3, c4, c5], _ => exact ⟨c0, c1, c2, c3, c4, c5, rfl⟩
theorem open_six {H : Type} {enc : TypeId × Value → H} {w : World} {base : Nat} {spare : Nat → Bool} {held : Bool} {fuel : Nat} {v0 v1 v2 v3 v4 v5 : Value} {x : DataW H × List MemPlace}
    (h : DataW.trod enc Try.prog w base spare held fuel 36 [v0, v1, v2, v3, v4, v5] = some x) : ∃ r : Opc, (v0 = .int .i64 r.k ∧ v1 = .string r.n ∧ v2 = .string r.x.o ∧ v3 = .int .i64 r.x.q ∧ v4 = .int .i64 r.x.p ∧ v5 = .bool r.x.k) ∧ r.n.size ≤ maxLen ∧ r.x.o.size ≤ maxLen := by
  have ci : Try.prog.cellsOf 3 = 1 := by kernel_rfl
  have cs : Try.prog.cellsOf 9 = 1 := by kernel_rfl
  have cb : Try.prog.cellsOf 4 = 1 := by kernel_rfl
  have ce : Try.prog.cellsOf 34 = 4 := by kernel_rfl
  obtain ⟨y0, y1, y2, f2, _, _, g0, g1, g2⟩ := Deep.trod_struct3 Try.underlying36 h
  rw [ci] at g0
  rw [cs] at g1
  rw [ce] at g2
  obtain ⟨u0, u1, u2, u3, f3, _, _, k0, k1, k2, k3⟩ := Joins.trod_struct4 Try.underlying34 g2
  rw [cs] at k0
  rw [ci] at k1 k2
  rw [cb] at k3
  obtain ⟨z0, e0, _, _⟩ := DataW.trod_int Try.underlying3 g0
  obtain ⟨s1, e1, _, w1⟩ := DataW.trod_string Try.underlying9 g1
  obtain ⟨s2, e2, _, w2⟩ := DataW.trod_string Try.underlying9 k0
  obtain ⟨z3, e3, _, _⟩ := DataW.trod_int Try.underlying3 k1
  obtain ⟨z4, e4, _, _⟩ := DataW.trod_int Try.underlying3 k2
  obtain ⟨z5, e5, _⟩ := DataW.trod_bool Try.underlying4 k3
  have q0 : v0 = .int .i64 z0 := one_cell e0
  have q1 : v1 = .string s1 := one_cell e1
  have q2 : v2 = .string s2 := one_cell e2
  have q3 : v3 = .int .i64 z3 := one_cell e3
  have q4 : v4 = .int .i64 z4 := one_cell e4
  have q5 : v5 = .bool z5 := one_cell e5
  exact ⟨⟨z0, s1, ⟨s2, z3, z4, z5⟩⟩, ⟨q0, q1, q2, q3, q4, q5⟩, w1, w2⟩
theorem open_ops {H : Type} {enc : TypeId × Value → H} {w : World} {base : Nat} {spare : Nat → Bool} {held : Bool} {fuel : Nat} {a : Option Addr} {n cap : Nat} {x : DataW H × List MemPlace}
    (h : DataW.trod enc Try.prog w base spare held fuel 22 [.slice a n cap] = some x) : ∃ X, Ops w (.slice a n cap) n X := by
  rcases Deep.open_slice Try.underlying22 h with ⟨e, _⟩ | ⟨ad, len, cap', m, fu, D, Pl, e, hb, hl, hm, hmm, _, hx⟩
  · simp only [List.cons.injEq, Value.slice.injEq, and_true] at e
    obtain ⟨rfl, rfl, rfl⟩ := e
    exact ⟨fun _ => ⟨0, ⟨#[]⟩, x0⟩, none, 0, rfl, Nat.le_refl _, by unfold maxLen; omega, fun i hi => absurd hi (by omega)⟩
  · simp only [List.cons.injEq, Value.slice.injEq, and_true] at e
    obtain ⟨rfl, rfl, rfl⟩ := e
    have hlm : n ≤ m := by rw [hmm]; split <;> omega
    have ce : Try.prog.cellsOf 36 = 6 := by kernel_rfl
    rw [ce] at hx
    have each : ∀ i, i < n → ∃ r : Opc, (∃ b off, some ad = some ⟨b, off, none⟩ ∧ w.cell? ⟨b, off + i * 6, none⟩ = some (.int .i64 r.k) ∧ w.cell? ⟨b, off + i * 6 + 1, none⟩ = some (.string r.n) ∧ w.cell? ⟨b, off + i * 6 + 2, none⟩ = some (.string r.x.o) ∧ w.cell? ⟨b, off + i * 6 + 3, none⟩ = some (.int .i64 r.x.q) ∧ w.cell? ⟨b, off + i * 6 + 4, none⟩ = some (.int .i64 r.x.p) ∧ w.cell? ⟨b, off + i * 6 + 5, none⟩ = some (.bool r.x.k)) ∧ r.n.size ≤ maxLen ∧ r.x.o.size ≤ maxLen := by
      intro i hi
      obtain ⟨cs', h1, h2⟩ := hx i (by omega)
      obtain ⟨_, hlen, hcell⟩ := World.cells?_some h1
      obtain ⟨v0, v1, v2, v3, v4, v5, rfl⟩ := list6 hlen
      obtain ⟨r, ⟨rfl, rfl, rfl, rfl, rfl, rfl⟩, hz⟩ := open_six h2
      have k0 := hcell 0 (by omega)
      have k1 := hcell 1 (by omega)
      have k2 := hcell 2 (by omega)
      have k3 := hcell 3 (by omega)
      have k4 := hcell 4 (by omega)
      have k5 := hcell 5 (by omega)
      obtain ⟨cs0, h10, _⟩ := hx 0 (by omega)
      obtain ⟨_, hl0, hc0⟩ := World.cells?_some h10
      obtain ⟨u0, u1, u2, u3, u4, u5, rfl⟩ := list6 hl0
      obtain ⟨b, off, spot⟩ := ad
      have hspot : spot = none := by
        have := World.cell?_spot (hc0 0 (by omega))
        simpa [Addr.add] using this
      subst hspot
      rw [Addr.add_lit, Addr.add_lit] at k0 k1 k2 k3 k4 k5
      exact ⟨r, ⟨b, off, rfl, k0, k1, k2, k3, k4, k5⟩, hz⟩
    haveI : Inhabited Opc := ⟨⟨0, ⟨#[]⟩, x0⟩⟩
    obtain ⟨r, hr⟩ := Deep.choose_lt each
    exact ⟨r, some ad, cap, rfl, hl, hm, hr⟩
set_option maxRecDepth 100000 in
theorem open_op {H : Type} {enc : TypeId × Value → H} {W : World} {base : Nat} {r : Reach} {b0 : Nat} {v : Value} {d : DataW H} {ps : List MemPlace} (hv : Value.okWide Try.prog W r b0 36 v) (h : DataW.Trod enc Try.prog W base (fun _ => true) true 36 v d ps) :
    ∃ x : Opc, v = .agg x.cells ∧ x.n.size ≤ maxLen ∧ x.x.o.size ≤ maxLen := by
  obtain ⟨cs, rfl, hsz⟩ := okWide_struct Try.underlying36 hv
  obtain ⟨v0, v1, v2, v3, v4, v5, rfl⟩ := array6 (hsz.trans (by kernel_rfl))
  obtain ⟨fuel, hf⟩ := h
  obtain ⟨r, ⟨rfl, rfl, rfl, rfl, rfl, rfl⟩, hz⟩ := open_six hf
  exact ⟨r, rfl, hz⟩
/-- A step is small enough to be played. -/
def Sml (x : Opc) : Prop := x.n.size ≤ 200 ∧ x.x.o.size ≤ 200
def fewB (n : Nat) (X : Nat → Opc) : Prop := n ≤ 100 ∧ ∀ i, i < n → Sml (X i)
/-- What few answers. -/
def FewT (e : Ending) (n : Nat) (X : Nat → Opc) : Prop := ∃ T : Bool, e = .returned (.bool T) ∧ Hid (T = true ↔ fewB n X)
set_option maxRecDepth 100000 in
set_option maxHeartbeats 2000000 in
theorem few_any {w : World} {v : Value} {n : Nat} {X : Nat → Opc} (h : Ops w v n X) :
    Calls Try.prog 7 #[v] w fun e w' => FewT e n X ∧ Below w.heap.size w w' := by
  obtain ⟨a, cap, rfl, h1, h2, h3⟩ := h
  unfold maxLen at h2
  go_enter Try.func7, Try.ntmps7
  go_wp2_with fail
  go_loopw [7] (fun c wr => ∃ k : Nat, c = .int .i64 (k : Int) ∧ k ≤ n ∧ Hid (∀ i, i < k → Sml (X i)) ∧ Below w.heap.size w wr) (fun c _ => n - (RowKit.intOf c).toNat)
  case atStart => exact ⟨0, rfl, Nat.zero_le _, fun i hi => absurd hi (by omega), Below.refl _ _⟩
  case round =>
    obtain ⟨k, rfl, hk, hg, hB⟩ := hrel
    by_cases hlt : k < n
    · have t : (k : Int) < (n : Int) := by omega
      obtain ⟨⟨b, off, rfl, c0, c1, c2, c3, c4, c5⟩, z0, z1⟩ := h3 k hlt
      unfold maxLen at z0 z1
      have d0 := (hB.cell (World.block_lt_of_cell? _ _ c0)).trans c0
      have d1 := (hB.cell (World.block_lt_of_cell? _ _ c1)).trans c1
      have d2 := (hB.cell (World.block_lt_of_cell? _ _ c2)).trans c2
      have d3 := (hB.cell (World.block_lt_of_cell? _ _ c3)).trans c3
      have d4 := (hB.cell (World.block_lt_of_cell? _ _ c4)).trans c4
      have d5 := (hB.cell (World.block_lt_of_cell? _ _ c5)).trans c5
      have hge := hB.size
      by_cases t1 : (200 : Int) < ((X k).n.size : Int)
      · have HG : Hid (¬ fewB n X) := fun hf => by have := (hf.2 k hlt).1; omega
        clear h3 c0 c1 c2 c3 c4 c5 hg
        generalize (X k).n = yn at *
        generalize (X k).x.o = yo at *
        generalize (X k).k = yk at *
        generalize (X k).x.q = yq at *
        generalize (X k).x.p = yp at *
        generalize (X k).x.k = yb at *
        go_wp2_with fail
        go_ret
        exact ⟨⟨false, rfl, fun e => absurd e Bool.noConfusion, fun hf => absurd hf HG.out⟩, hB.alloc hge _⟩
      by_cases t2 : (200 : Int) < ((X k).x.o.size : Int)
      · have HG : Hid (¬ fewB n X) := fun hf => by have := (hf.2 k hlt).2; omega
        clear h3 c0 c1 c2 c3 c4 c5 hg
        generalize (X k).n = yn at *
        generalize (X k).x.o = yo at *
        generalize (X k).k = yk at *
        generalize (X k).x.q = yq at *
        generalize (X k).x.p = yp at *
        generalize (X k).x.k = yb at *
        go_wp2_with fail
        go_ret
        exact ⟨⟨false, rfl, fun e => absurd e Bool.noConfusion, fun hf => absurd hf HG.out⟩, hB.alloc hge _⟩
      · have HG : Hid (∀ i, i < k + 1 → Sml (X i)) := fun i hi => if e : i = k then by subst e; exact ⟨by omega, by omega⟩ else hg.out i (by omega)
        clear h3 c0 c1 c2 c3 c4 c5 hg
        generalize (X k).n = yn at *
        generalize (X k).x.o = yo at *
        generalize (X k).k = yk at *
        generalize (X k).x.q = yq at *
        generalize (X k).x.p = yp at *
        generalize (X k).x.k = yb at *
        go_wp2_with fail
        go_roundw
        case rel => exact ⟨k + 1, by simp, by omega, HG, hB.alloc hge _⟩
        case measure => simp [RowKit.intOf]; omega
    · have hkn : k = n := by omega
      subst hkn
      have t : ¬ (k : Int) < (k : Int) := by omega
      clear h3
      go_wp2_with fail
      go_ret
      exact ⟨⟨_, rfl, fun e => ⟨by have := of_decide_eq_true e; omega, hg.out⟩, fun hf => decide_eq_true (by have := hf.1; omega)⟩, hB⟩
end Go.Proofs.Ythkohopnoifibaa.SE
