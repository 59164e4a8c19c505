/-
  A list of entries in memory of one's own.
-/
import Derived.Test.YtbmmokdccfajmaaRuFlat
import Derived.Test.YtbmmokdccfajmaaPoRefMath
namespace Go.Proofs.Ytbmmokdccfajmaa.PO
open Go.ChangeShapes Go.WideShapes Go.ChangeAt Go.RowKit Go.Lib RU

def cellsE (x : Ex) : List Value := [.int .i64 x.a, .int .i64 x.s, .int .i64 x.d, .int .i64 x.q, .int .i64 x.p, .bool x.k]
theorem cellsE_len (X : Nat → Ex) (i : Nat) : (cellsE (X i)).length = 6 := rfl
theorem cellsE_one (x : Ex) : ∀ u ∈ cellsE x, u.oneCell' = true := by
  intro u hu
  simp only [cellsE, List.mem_cons, List.not_mem_nil, or_false] at hu
  rcases hu with rfl | rfl | rfl | rfl | rfl | rfl <;> rfl
/-- The cells of the first n entries. -/
def allE (X : Nat → Ex) (n : Nat) : List Value := flatK (fun i => cellsE (X i)) n
theorem allE_length (X : Nat → Ex) (n : Nat) : (allE X n).length = n * 6 := flatK_length (cellsE_len X) n
theorem allE_one (X : Nat → Ex) (n : Nat) : ∀ u ∈ allE X n, u.oneCell' = true := by
  intro u hu
  obtain ⟨i, _, h⟩ := flatK_mem n hu
  exact cellsE_one _ u h
theorem allE_more (X : Nat → Ex) (n : Nat) (x : Ex) : allE (upd X n x) (n + 1) = allE X n ++ cellsE x := by
  show flatK _ n ++ cellsE (upd X n x n) = flatK _ n ++ cellsE x
  rw [upd_same, flatK_same n (fun i hi => by show cellsE (upd X n x i) = cellsE (X i); rw [upd_other _ _ (by omega)])]
/-- A list of n entries of one's own, from block base on. -/
abbrev OwnE (w : World) (base : Nat) (v : Value) (n : Nat) (X : Nat → Ex) : Prop := w.ownsRow base 33 6 v n (allE X n)
theorem ops_of_own {w : World} {base : Nat} {v : Value} {n : Nat} {X : Nat → Ex} (h : OwnE w base v n X) : Ops w v n X := by
  have hcs := fun q hq => h.cells (g := q) hq
  rcases h.2 with ⟨rfl, rfl⟩ | ⟨q, cap, cur, rfl, _, _, h1, h2, _⟩
  · exact ⟨none, 0, rfl, Nat.le_refl _, by unfold maxLen; omega, fun i hi => absurd hi (by omega)⟩
  · refine ⟨_, cap, rfl, h1, h2, fun i hi => ⟨q, 0, rfl, ?_, ?_, ?_, ?_, ?_, ?_⟩⟩
    · have := hcs q rfl (i * 6 + 0) _ ((flatK_at (cellsE_len X) (by omega) n hi).trans rfl)
      rw [Addr.add_lit] at this
      exact this
    · have := hcs q rfl (i * 6 + 1) _ ((flatK_at (cellsE_len X) (by omega) n hi).trans rfl)
      rw [Addr.add_lit] at this
      exact this
    · have := hcs q rfl (i * 6 + 2) _ ((flatK_at (cellsE_len X) (by omega) n hi).trans rfl)
      rw [Addr.add_lit] at this
      exact this
    · have := hcs q rfl (i * 6 + 3) _ ((flatK_at (cellsE_len X) (by omega) n hi).trans rfl)
      rw [Addr.add_lit] at this
      exact this
    · have := hcs q rfl (i * 6 + 4) _ ((flatK_at (cellsE_len X) (by omega) n hi).trans rfl)
      rw [Addr.add_lit] at this
      exact this
    · have := hcs q rfl (i * 6 + 5) _ ((flatK_at (cellsE_len X) (by omega) n hi).trans rfl)
      rw [Addr.add_lit] at this
      exact this
theorem ops_cells {w : World} {b off n cap : Nat} {X : Nat → Ex} (h : Ops w (.slice (some ⟨b, off, none⟩) n cap) n X) : ∀ j u, (allE X n)[j]? = some u → w.cell? ((⟨b, off, none⟩ : Addr).add j) = some u := by
  obtain ⟨a, cap', e, _, _, h3⟩ := h
  injection e with e1
  subst e1
  intro j u hj
  obtain ⟨i, q, hi, hq, rfl, hu⟩ := flatK_inv (cellsE_len X) n hj
  obtain ⟨b', off', e', c0, c1, c2, c3, c4, c5⟩ := h3 i hi
  injection e' with e'
  injection e' with e1 e2
  subst e1 e2
  rw [Addr.add_lit, ← Nat.add_assoc]
  match q, hq, hu with
  | 0, _, hu => cases hu; exact c0
  | 1, _, hu => cases hu; exact c1
  | 2, _, hu => cases hu; exact c2
  | 3, _, hu => cases hu; exact c3
  | 4, _, hu => cases hu; exact c4
  | 5, _, hu => cases hu; exact c5
theorem infoE : (Try.prog.info? 33).map (fun i => (i.zero, i.size, i.bytes)) = some (some (.agg #[.int .i64 0, .int .i64 0, .int .i64 0, .int .i64 0, .int .i64 0, .bool false]), 6, 48) := by kernel_rfl
end Go.Proofs.Ytbmmokdccfajmaa.PO
