/-
  How a list of fields that comes in reads.
-/
import Derived.Test.YtcgojnofkbjinaaDoorTagDoor
import Derived.Test.YtcgojnofkbjinaaDoorTagRows
namespace Go.Proofs.YtcgojnofkbjinaaDoor
open Go.ChangeShapes Go.WideShapes Go.ChangeAt Go.WideMaps Go.WideElems Go.RowKit Go.Lib

/-- The slice value v reads as the fields L, each text no longer than any. -/
def Came (w : World) (v : Value) (L : List Fd) : Prop := Flds w v L ∧ ∀ i, (h : i < L.length) → (L[i]).2.size ≤ maxLen
theorem open_flds {H : Type} {enc : TypeId × Value → H} {w : World} {base : Nat} {spare : Nat → Bool} {held : Bool} {fuel : Nat} {a : Option Addr} {n cap : Nat} {x : DataW H × List MemPlace}
    (h : DataW.trod enc Tryd.prog w base spare held fuel 22 [.slice a n cap] = some x) : ∃ L, Came w (.slice a n cap) L := by
  rcases Deep.open_slice Tryd.underlying22 h with ⟨e, _⟩ | ⟨ad, len, cap', m, fu, D, Pl, e, hb, hl, hm, hmm, _, hx⟩
  · simp only [List.cons.injEq, Value.slice.injEq, and_true] at e
    obtain ⟨rfl, rfl, rfl⟩ := e
    exact ⟨[], ⟨none, 0, rfl, Nat.le_refl _, by unfold maxLen; omega, fun i hi => absurd hi (by simp)⟩, fun i hi => absurd hi (by simp)⟩
  · simp only [List.cons.injEq, Value.slice.injEq, and_true] at e
    obtain ⟨rfl, rfl, rfl⟩ := e
    have hlm : n ≤ m := by rw [hmm]; split <;> omega
    have ce : Tryd.prog.cellsOf 25 = 2 := by kernel_rfl
    have ci : Tryd.prog.cellsOf 3 = 1 := by kernel_rfl
    have cs : Tryd.prog.cellsOf 9 = 1 := by kernel_rfl
    rw [ce] at hx
    have each : ∀ i, i < n → ∃ r : Fd, (∃ b off, some ad = some ⟨b, off, none⟩ ∧ w.cell? ⟨b, off + i * 2, none⟩ = some (.int .i64 r.1) ∧ w.cell? ⟨b, off + i * 2 + 1, none⟩ = some (.string r.2)) ∧ r.2.size ≤ maxLen := by
      intro i hi
      obtain ⟨cs', h1, h2⟩ := hx i (by omega)
      obtain ⟨_, hlen, hcell⟩ := World.cells?_some h1
      obtain ⟨v0, v1, rfl⟩ := two_list hlen
      obtain ⟨y0, y1, f2, _, _, g0, g1⟩ := trod_struct2 Tryd.underlying25 h2
      rw [ci] at g0
      rw [cs] at g1
      obtain ⟨z0, e0, _, w0⟩ := DataW.trod_int Tryd.underlying3 g0
      obtain ⟨z1, e1, _, w1⟩ := DataW.trod_string Tryd.underlying9 g1
      have q0 : v0 = .int .i64 z0 := one_of e0
      have q1 : v1 = .string z1 := one_of e1
      subst q0 q1
      have k0 := hcell 0 (by omega)
      have k1 := hcell 1 (by omega)
      obtain ⟨cs0, h10, _⟩ := hx 0 (by omega)
      obtain ⟨_, hl0, hc0⟩ := World.cells?_some h10
      obtain ⟨u0, u1, rfl⟩ := two_list hl0
      obtain ⟨b, off, spot⟩ := ad
      have hspot : spot = none := by
        have := World.cell?_spot (hc0 0 (by omega))
        simpa [Addr.add] using this
      subst hspot
      rw [add2] at k0 k1
      exact ⟨(z0, z1), ⟨b, off, rfl, k0, k1⟩, w1⟩
    obtain ⟨r, hr⟩ := Deep.choose_lt each
    have hL : ((List.range n).map r).length = n := by simp
    refine ⟨(List.range n).map r, ⟨some ad, cap, by rw [hL], by rw [hL]; exact hl, hm, fun i hi => ?_⟩, fun i hi => ?_⟩
    · simp only [List.getElem_map, List.getElem_range]
      exact (hr i (by rw [hL] at hi; exact hi)).1
    · simp only [List.getElem_map, List.getElem_range]
      exact (hr i (by rw [hL] at hi; exact hi)).2
end Go.Proofs.YtcgojnofkbjinaaDoor
