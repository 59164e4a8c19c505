/-
  Lists of numbers from 0 on in memory that grow by append.
-/
import Derived.Test.YtdacmhnniecmhaaDoorOwnRows
namespace Go.Proofs.YtdacmhnniecmhaaDoor
open Go.ChangeShapes Go.WideShapes Go.ChangeAt Go.RowKit Go.Lib

/-- The cells of a list of numbers. -/
def nts (L : List Nat) : List Value := L.map fun n : Nat => .int .i64 (n : Int)
theorem nts_more (L : List Nat) (n : Nat) : nts (L ++ [n]) = nts L ++ [.int .i64 (n : Int)] := by simp [nts]
theorem infoI : (Tryd.prog.info? 3).map (fun i => (i.zero, i.size, i.bytes)) = some (some (.int .i64 0), 1, 8) := by kernel_rfl
/-- A list of numbers that grows in memory newer than w0. -/
structure GrowsI (w0 : World) (w : World) (v : Value) (L : List Nat) : Prop where
  own : w.ownsRow w0.heap.size 3 1 v L.length (nts L)
  below : Below w0.heap.size w0 w
theorem GrowsI.none (w0 w : World) (h : Below w0.heap.size w0 w) : GrowsI w0 w (.slice none 0 0) [] := ⟨World.ownsRow_nil _ _ _ _, h⟩
theorem GrowsI.still {w0 w w' : World} {v : Value} {L : List Nat} (h : GrowsI w0 w v L) (k : Below w.heap.size w w') : GrowsI w0 w' v L :=
  ⟨own_below h.own k, h.below.trans (k.mono h.below.size)⟩
theorem GrowsI.more {w0 w w' : World} {v v' : Value} {L : List Nat} {n : Nat} (h : GrowsI w0 w v L) (hg : w.grownBy w' v.ownBlock) (hown : w'.ownsRow w0.heap.size 3 1 v' (L.length + 1) (nts L ++ [.int .i64 (n : Int)])) : GrowsI w0 w' v' (L ++ [n]) := by
  have BG := But.of_grown hg
  refine ⟨by rw [nts_more, List.length_append]; exact hown, h.below.trans (BG.below h.below.size (fun k hk => (h.own.lt k hk).1))⟩
theorem GrowsI.shape {w0 w : World} {v : Value} {L : List Nat} (h : GrowsI w0 w v L) : ∃ a cap, v = .slice a L.length cap := own_shape h.own
theorem GrowsI.row {w0 w : World} {v : Value} {L : List Nat} (h : GrowsI w0 w v L) : Row w v L.length fun i => .int .i64 ((L.getD i 0 : Nat) : Int) := by
  refine row_of_own h.own _ ?_
  intro i hi
  simp [nts, hi]
theorem cell_int_new (w : World) (x : Value) (t : TypeId) : ∀ j u, ([x] : List Value)[j]? = some u → (w.alloc (.cells #[x] t)).cell? ((⟨w.heap.size, 0, none⟩ : Addr).add j) = some u := by
  intro j u hj
  rw [Addr.add_lit, Nat.zero_add]
  match j, hj with
  | 0, hj => simp at hj; subst hj; simp
  | j + 1, hj => simp at hj
/-- The cells of a list of any numbers. -/
def its (L : List Int) : List Value := L.map fun n => .int .i64 n
theorem its_more (L : List Int) (n : Int) : its (L ++ [n]) = its L ++ [.int .i64 n] := by simp [its]
theorem its_row {w : World} {base : Nat} {v : Value} {L : List Int} (h : w.ownsRow base 3 1 v L.length (its L)) : Row w v L.length fun i => .int .i64 (L.getD i 0) := by
  refine row_of_own h _ ?_
  intro i hi
  simp [its, hi]
end Go.Proofs.YtdacmhnniecmhaaDoor
