/-
  Lists of fields in memory: how a slice of them reads, how one of the call's own grows.
-/
import Derived.Test.YtdacmhnniecmhaaDoorTagLib
namespace Go.Proofs.YtdacmhnniecmhaaDoor
open Go.ChangeShapes Go.WideShapes Go.ChangeAt Go.RowKit Go.Lib

/-- The cells of one field. -/
def fd2 (f : Fd) : List Value := [.int .i64 f.1, .string f.2]
/-- The cells of a list of fields. -/
def cells2 : List Fd → List Value
  | [] => []
  | f :: r => fd2 f ++ cells2 r
theorem cells2_length : ∀ L, (cells2 L).length = L.length * 2
  | [] => rfl
  | f :: r => by simp only [cells2, List.length_append, cells2_length r, fd2, List.length_cons, List.length_nil]; omega
theorem cells2_more : ∀ L f, cells2 (L ++ [f]) = cells2 L ++ fd2 f
  | [], f => by simp [cells2]
  | g :: r, f => by simp only [List.cons_append, cells2, cells2_more r f, List.append_assoc]
theorem cells2_at (j : Nat) (hj : j < 2) : ∀ (L : List Fd) (i : Nat) (h : i < L.length), (cells2 L)[i * 2 + j]? = (fd2 L[i])[j]?
  | [], _, h => absurd h (by simp)
  | f :: r, 0, _ => by
    rw [cells2, List.getElem?_append_left (by simp [fd2]; omega)]
    simp
  | f :: r, i + 1, h => by
    rw [cells2, List.getElem?_append_right (by simp [fd2]; omega)]
    have : (i + 1) * 2 + j - (fd2 f).length = i * 2 + j := by simp only [fd2, List.length_cons, List.length_nil]; omega
    rw [this, cells2_at j hj r i (by simpa using h)]
    rfl
theorem fd2_one (f : Fd) : ∀ u ∈ fd2 f, u.oneCell' = true := by
  intro u hu
  simp only [fd2, List.mem_cons, List.not_mem_nil, or_false] at hu
  rcases hu with rfl | rfl <;> rfl
/-- The slice value v reads as the fields L. -/
def Flds (w : World) (v : Value) (L : List Fd) : Prop :=
  ∃ a cap, v = .slice a L.length cap ∧ L.length ≤ cap ∧ cap ≤ maxLen ∧ ∀ i, (h : i < L.length) → ∃ b off, a = some ⟨b, off, none⟩ ∧ w.cell? ⟨b, off + i * 2, none⟩ = some (.int .i64 (L[i]).1) ∧ w.cell? ⟨b, off + i * 2 + 1, none⟩ = some (.string (L[i]).2)
theorem Flds.below {w w' : World} {v : Value} {L : List Fd} {B : Nat} (h : Flds w v L) (hb : Below B w w') (hB : w.heap.size ≤ B) : Flds w' v L := by
  obtain ⟨a, cap, rfl, h1, h2, h3⟩ := h
  refine ⟨a, cap, rfl, h1, h2, fun i hi => ?_⟩
  obtain ⟨b, off, e, c0, c1⟩ := h3 i hi
  have lt : b < w.heap.size := World.block_lt_of_cell? _ _ c0
  exact ⟨b, off, e, by rw [hb.cell (p := ⟨b, off + i * 2, none⟩) (Nat.lt_of_lt_of_le lt hB)]; exact c0, by rw [hb.cell (p := ⟨b, off + i * 2 + 1, none⟩) (Nat.lt_of_lt_of_le lt hB)]; exact c1⟩
theorem flds_of_own {w : World} {base : Nat} {e : TypeId} {v : Value} {L : List Fd} (h : w.ownsRow base e 2 v L.length (cells2 L)) : Flds w v L := by
  have hcs := fun g hg => h.cells (g := g) hg
  rcases h.2 with ⟨rfl, hn⟩ | ⟨g, cap, cur, rfl, _, _, h1, h2, _⟩
  · refine ⟨none, 0, by rw [hn], by omega, by unfold maxLen; omega, fun i hi => absurd hi (by omega)⟩
  · refine ⟨_, cap, rfl, h1, h2, fun i hi => ⟨g, 0, rfl, ?_, ?_⟩⟩
    · have := hcs g rfl (i * 2 + 0) (.int .i64 (L[i]).1) (by rw [cells2_at 0 (by omega) L i hi]; rfl)
      rw [Addr.add_lit] at this
      exact this
    · have := hcs g rfl (i * 2 + 1) (.string (L[i]).2) (by rw [cells2_at 1 (by omega) L i hi]; rfl)
      rw [Addr.add_lit] at this
      exact this
/-- A list of fields that grows in memory newer than w0. -/
structure Grows (w0 : World) (E : TypeId) (w : World) (v : Value) (L : List Fd) : Prop where
  own : w.ownsRow w0.heap.size E 2 v L.length (cells2 L)
  below : Below w0.heap.size w0 w
theorem Grows.none (w0 w : World) (E : TypeId) (h : Below w0.heap.size w0 w) : Grows w0 E w (.slice none 0 0) [] := ⟨World.ownsRow_nil _ _ _ _, h⟩
theorem Grows.still {w0 w w' : World} {E : TypeId} {v : Value} {L : List Fd} (h : Grows w0 E w v L) (k : Below w.heap.size w w') : Grows w0 E w' v L :=
  ⟨own_below h.own k, h.below.trans (k.mono h.below.size)⟩
theorem Grows.more {w0 w w' : World} {E : TypeId} {v v' : Value} {L : List Fd} {f : Fd} (h : Grows w0 E w v L) (hg : w.grownBy w' v.ownBlock) (hown : w'.ownsRow w0.heap.size E 2 v' (L.length + 1) (cells2 L ++ fd2 f)) : Grows w0 E w' v' (L ++ [f]) := by
  have BG := But.of_grown hg
  refine ⟨by rw [cells2_more, List.length_append]; exact hown, h.below.trans (BG.below h.below.size (fun k hk => (h.own.lt k hk).1))⟩
theorem Grows.shape {w0 w : World} {E : TypeId} {v : Value} {L : List Fd} (h : Grows w0 E w v L) : ∃ a cap, v = .slice a L.length cap := own_shape h.own
/-- The cells of one field that was just laid in a block of its own. -/
theorem cell_fd_new (w : World) (f : Fd) (t : TypeId) : ∀ j u, (fd2 f)[j]? = some u → (w.alloc (.cells #[.int .i64 f.1, .string f.2] t)).cell? ((⟨w.heap.size, 0, none⟩ : Addr).add j) = some u := by
  intro j u hj
  rw [Addr.add_lit, Nat.zero_add]
  match j, hj with
  | 0, hj => simp [fd2] at hj; subst hj; simp
  | 1, hj => simp [fd2] at hj; subst hj; simp
  | j + 2, hj => simp [fd2] at hj
/-- The same behind another block. -/
theorem cell_fd_new2 (w : World) (o : Obj) (f : Fd) (t : TypeId) : ∀ j u, (fd2 f)[j]? = some u → ((w.alloc o).alloc (.cells #[.int .i64 f.1, .string f.2] t)).cell? ((⟨w.heap.size + 1, 0, none⟩ : Addr).add j) = some u := by
  have := cell_fd_new (w.alloc o) f t
  rw [World.size_alloc] at this
  exact this

theorem fieldsA_end {l : List UInt8} (h : l = []) (acc : List Fd) (at_ : Nat) : ∀ k, fieldsA k l acc at_ = (acc, at_, 0)
  | 0 => by rw [fieldsA, if_pos h]
  | k + 1 => by rw [fieldsA, if_pos h]
theorem fieldsA_full {l : List UInt8} (h : l ≠ []) (acc : List Fd) (at_ : Nat) : fieldsA 0 l acc at_ = (acc, at_, 3) := by rw [fieldsA, if_neg h]
theorem fieldsA_err {l : List UInt8} (h : l ≠ []) (acc : List Fd) (at_ : Nat) {k : Nat} (hk : 0 < k) (he : (nextL l).2.2 ≠ 0) : fieldsA k l acc at_ = (acc, at_, (nextL l).2.2) := by
  obtain ⟨j, rfl⟩ : ∃ j, k = j + 1 := ⟨k - 1, by omega⟩
  rw [fieldsA, if_neg h, if_neg he]
theorem fieldsA_ok {l : List UInt8} (h : l ≠ []) (acc : List Fd) (at_ : Nat) {k : Nat} (hk : 0 < k) (he : (nextL l).2.2 = 0) : fieldsA k l acc at_ = fieldsA (k - 1) (l.drop (nextL l).2.1) (acc ++ [(nextL l).1]) (at_ + (nextL l).2.1) := by
  obtain ⟨j, rfl⟩ : ∃ j, k = j + 1 := ⟨k - 1, by omega⟩
  rw [fieldsA, if_neg h, if_pos he]
  rfl
theorem drop_ne {l : List UInt8} {k : Nat} (h : k < l.length) : l.drop k ≠ [] := by
  intro e
  have := congrArg List.length e
  rw [List.length_drop, List.length_nil] at this
  omega
end Go.Proofs.YtdacmhnniecmhaaDoor
