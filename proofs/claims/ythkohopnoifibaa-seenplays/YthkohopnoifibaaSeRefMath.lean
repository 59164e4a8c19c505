/-
  The document's list of entries beside what was met: plain, and in memory.
-/
import Derived.Test.YthkohopnoifibaaSeMove
import Derived.Test.YthkohopnoifibaaRuFlat
import Derived.Maps.AppendAt
import Derived.Laws.OwnMore
namespace Go.Proofs.Ythkohopnoifibaa.SE
open Go.ChangeShapes Go.WideShapes Go.ChangeAt Go.RowKit Go.Lib RU

/-- An entry's five cells. -/
def cellsN (s : ByteArray) (x : Xc) : List Value := [.string s, .string x.o, .int .i64 x.q, .int .i64 x.p, .bool x.k]
theorem cellsN_len (N : Nat → ByteArray) (X : Nat → Xc) (i : Nat) : (cellsN (N i) (X i)).length = 5 := rfl
theorem cellsN_one (s : ByteArray) (x : Xc) : ∀ u ∈ cellsN s x, u.oneCell' = true := by
  intro u hu
  simp only [cellsN, List.mem_cons, List.not_mem_nil, or_false] at hu
  rcases hu with rfl | rfl | rfl | rfl | rfl <;> rfl
/-- The cells of the first n entries. -/
def allN (N : Nat → ByteArray) (X : Nat → Xc) (n : Nat) : List Value := flatK (fun i => cellsN (N i) (X i)) n
theorem allN_length (N : Nat → ByteArray) (X : Nat → Xc) (n : Nat) : (allN N X n).length = n * 5 := flatK_length (cellsN_len N X) n
theorem allN_more (N : Nat → ByteArray) (X : Nat → Xc) (n : Nat) (s : ByteArray) (x : Xc) : allN (upd N n s) (upd X n x) (n + 1) = allN N X n ++ cellsN s x := by
  show flatK _ n ++ cellsN (upd N n s n) (upd X n x n) = flatK _ n ++ cellsN s x
  rw [upd_same, upd_same, flatK_same n (fun i hi => by show cellsN (upd N n s i) (upd X n x i) = cellsN (N i) (X i); rw [upd_other _ _ (by omega), upd_other _ _ (by omega)])]
theorem allN_at (N : Nat → ByteArray) (X : Nat → Xc) {n i j : Nat} (hi : i < n) (hj : j < 5) : (allN N X n)[i * 5 + j]? = (cellsN (N i) (X i))[j]? := flatK_at (cellsN_len N X) hj n hi
/-- The list's entries are what was met. -/
structure Rel (b : Sn) (N : Nat → ByteArray) (X : Nat → Xc) : Prop where
  hit : ∀ i, i < b.c → b.L (N i) = some (X i)
  miss : ∀ s, (∀ i, i < b.c → N i ≠ s) → b.L s = none
  inj : ∀ i j, i < b.c → j < b.c → N i = N j → i = j
theorem Rel.start (r : Nat) (N : Nat → ByteArray) (X : Nat → Xc) : Rel (newS r) N X := ⟨fun _ hi => absurd hi (Nat.not_lt_zero _), fun _ _ => rfl, fun _ _ hi => absurd hi (Nat.not_lt_zero _)⟩
/-- A name's place. -/
def At (b : Sn) (N : Nat → ByteArray) (s : ByteArray) (z : Int) : Prop := (∃ i : Nat, z = (i : Int) ∧ i < b.c ∧ N i = s) ∨ (z = -1 ∧ ∀ i, i < b.c → N i ≠ s)
theorem Rel.put {b : Sn} {N : Nat → ByteArray} {X : Nat → Xc} (h : Rel b N X) {s : ByteArray} {x : Xc} (hs : ∀ i, i < b.c → N i ≠ s) (r : Nat) : Rel ⟨r, b.c + 1, setL b.L s x⟩ (upd N b.c s) (upd X b.c x) := by
  refine ⟨fun i hi => ?_, fun t ht => ?_, fun i j hi hj e => ?_⟩
  · simp only at hi ⊢
    by_cases e : i = b.c
    · subst e; rw [upd_same, upd_same, setL_same]
    · rw [upd_other _ _ e, upd_other _ _ e, setL_other _ _ (hs i (by omega)), h.hit i (by omega)]
  · simp only at ht ⊢
    have h1 := ht b.c (by omega)
    rw [upd_same] at h1
    rw [setL_other _ _ (fun e => h1 e.symm)]
    refine h.miss t (fun i hi => ?_)
    have h2 := ht i (by omega)
    rwa [upd_other _ _ (by omega)] at h2
  · simp only at hi hj
    by_cases e1 : i = b.c
    · by_cases e2 : j = b.c
      · omega
      · subst e1; rw [upd_same, upd_other _ _ e2] at e; exact absurd e.symm (hs j (by omega))
    · by_cases e2 : j = b.c
      · subst e2; rw [upd_same, upd_other _ _ e1] at e; exact absurd e (hs i (by omega))
      · rw [upd_other _ _ e1, upd_other _ _ e2] at e; exact h.inj i j (by omega) (by omega) e
theorem Rel.set {b : Sn} {N : Nat → ByteArray} {X : Nat → Xc} (h : Rel b N X) {i : Nat} (hi : i < b.c) (x : Xc) (r : Nat) : Rel ⟨r, b.c, setL b.L (N i) x⟩ N (upd X i x) := by
  refine ⟨fun j hj => ?_, fun t ht => ?_, h.inj⟩
  · simp only at hj ⊢
    by_cases e : j = i
    · subst e; rw [upd_same, setL_same]
    · rw [upd_other _ _ e, setL_other _ _ (fun k => e (h.inj j i hj hi k)), h.hit j hj]
  · simp only at ht ⊢
    rw [setL_other _ _ (fun e => ht i hi e.symm)]
    exact h.miss t ht
/-- The reference's Seen lies in block g, the list v from block base on. -/
structure RefAt (w : World) (g base : Nat) (b : Sn) (N : Nat → ByteArray) (X : Nat → Xc) (v : Value) : Prop where
  c0 : w.cell? ⟨g, 0, none⟩ = some (.int .i64 (b.r : Int))
  c1 : w.cell? ⟨g, 1, none⟩ = some v
  f1 : w.frozen? ⟨g, 1, none⟩ = false
  own : w.ownsRow base 45 5 v b.c (allN N X b.c)
  lo : g < base
  hi : base ≤ w.heap.size
  good : Good b
  rel : Rel b N X
/-- Its blocks. -/
def ownR (g : Nat) (v : Value) (k : Nat) : Prop := k = g ∨ v.ownBlock = some k
theorem RefAt.lt {w : World} {g base : Nat} {b : Sn} {N : Nat → ByteArray} {X : Nat → Xc} {v : Value} (h : RefAt w g base b N X v) : g < w.heap.size := World.block_lt_of_cell? _ _ h.c0
theorem RefAt.has {w : World} {g base : Nat} {b : Sn} {N : Nat → ByteArray} {X : Nat → Xc} {v : Value} (h : RefAt w g base b N X v) {k : Nat} (hk : ownR g v k) : g ≤ k ∧ k < w.heap.size := by
  rcases hk with rfl | hk
  · exact ⟨Nat.le_refl _, h.lt⟩
  · have := h.own.lt k hk
    have := h.lo
    exact ⟨by omega, by omega⟩
theorem RefAt.kept {w w' : World} {g base : Nat} {b : Sn} {N : Nat → ByteArray} {X : Nat → Xc} {v : Value} {T : Nat → Prop} (h : RefAt w g base b N X v) (k : But T w w') (hT : ∀ i, ownR g v i → ¬ T i) : RefAt w' g base b N X v :=
  ⟨(k.cell h.lt (hT g (.inl rfl))).trans h.c0, (k.cell h.lt (hT g (.inl rfl))).trans h.c1, (k.frozen h.lt (hT g (.inl rfl))).trans h.f1, own_kept h.own k (fun q hq => hT q (.inr hq)), h.lo, Nat.le_trans h.hi k.size, h.good, h.rel⟩
theorem RefAt.below {w w' : World} {g base : Nat} {b : Sn} {N : Nat → ByteArray} {X : Nat → Xc} {v : Value} (h : RefAt w g base b N X v) (k : Below w.heap.size w w') : RefAt w' g base b N X v :=
  h.kept (T := fun _ => False) (But.of_below k) (fun _ _ => id)
/-- An entry's cells. -/
theorem RefAt.cells {w : World} {g base : Nat} {b : Sn} {N : Nat → ByteArray} {X : Nat → Xc} {v : Value} (h : RefAt w g base b N X v) {i : Nat} (hi : i < b.c) :
    ∃ q cap, v = .slice (some ⟨q, 0, none⟩) b.c cap ∧ b.c ≤ cap ∧ cap ≤ maxLen ∧ base ≤ q ∧ q < w.heap.size ∧ (∀ j, w.frozen? ⟨q, j, none⟩ = false) ∧ w.cell? ⟨q, i * 5, none⟩ = some (.string (N i)) ∧ w.cell? ⟨q, i * 5 + 1, none⟩ = some (.string (X i).o) ∧ w.cell? ⟨q, i * 5 + 2, none⟩ = some (.int .i64 (X i).q) ∧ w.cell? ⟨q, i * 5 + 3, none⟩ = some (.int .i64 (X i).p) ∧ w.cell? ⟨q, i * 5 + 4, none⟩ = some (.bool (X i).k) := by
  have ho := h.own
  rcases ho.2 with ⟨rfl, e⟩ | ⟨q, cap, cur, rfl, hb, _, h1, h2, _⟩
  · omega
  · have at' : ∀ j, j < 5 → w.cell? ⟨q, i * 5 + j, none⟩ = (cellsN (N i) (X i))[j]? := fun j hj => by
      rw [ho.cellAt (i * 5 + j) (by omega), allN_at N X hi hj]
    exact ⟨q, cap, rfl, h1, h2, hb, (ho.lt q rfl).2, fun j => ho.frozenAt j, at' 0 (by omega), at' 1 (by omega), at' 2 (by omega), at' 3 (by omega), at' 4 (by omega)⟩
theorem own_ext {w : World} {base : Nat} {e : TypeId} {size q n cap : Nat} {zs ys : List Value} (h : w.ownsRow base e size (.slice (some ⟨q, 0, none⟩) n cap) n zs) (hl : ys.length = n * size) (hc : ∀ j, j < n * size → w.cell? ⟨q, j, none⟩ = ys[j]?) : w.ownsRow base e size (.slice (some ⟨q, 0, none⟩) n cap) n ys := by
  have : zs = ys := by
    apply List.ext_getElem?
    intro j
    by_cases hj : j < n * size
    · rw [← h.cellAt j hj, hc j hj]
    · rw [List.getElem?_eq_none (by rw [h.1]; omega), List.getElem?_eq_none (by rw [hl]; omega)]
  exact this ▸ h
/-- Five cells of block q are written, from o on. -/
def put5 (w : World) (q o : Nat) (s : ByteArray) (x : Xc) : World := ((((w.setCell ⟨q, o, none⟩ (.string s)).setCell ⟨q, o + 1, none⟩ (.string x.o)).setCell ⟨q, o + 2, none⟩ (.int .i64 x.q)).setCell ⟨q, o + 3, none⟩ (.int .i64 x.p)).setCell ⟨q, o + 4, none⟩ (.bool x.k)
theorem put5_other {w : World} {q o : Nat} {s : ByteArray} {x : Xc} {k j : Nat} (h : k ≠ q ∨ j < o ∨ o + 5 ≤ j) : (put5 w q o s x).cell? ⟨k, j, none⟩ = w.cell? ⟨k, j, none⟩ := by
  unfold put5
  rw [World.cell?_setCell_other _ _ _ _ (by intro e; injection e with e1 e2; omega), World.cell?_setCell_other _ _ _ _ (by intro e; injection e with e1 e2; omega), World.cell?_setCell_other _ _ _ _ (by intro e; injection e with e1 e2; omega), World.cell?_setCell_other _ _ _ _ (by intro e; injection e with e1 e2; omega), World.cell?_setCell_other _ _ _ _ (by intro e; injection e with e1 e2; omega)]
theorem put5_at {w : World} {q o : Nat} {s : ByteArray} {x : Xc} (h : ∀ j, j < 5 → (w.cell? ⟨q, o + j, none⟩).isSome = true) {j : Nat} (hj : j < 5) : (put5 w q o s x).cell? ⟨q, o + j, none⟩ = (cellsN s x)[j]? := by
  have ne : ∀ {a b : Nat}, a ≠ b → (⟨q, a, none⟩ : Addr) ≠ ⟨q, b, none⟩ := fun h e => by injection e with _ e2; exact h e2
  unfold put5
  match j, hj with
  | 0, _ =>
    rw [World.cell?_setCell_other _ _ _ _ (ne (by omega)), World.cell?_setCell_other _ _ _ _ (ne (by omega)), World.cell?_setCell_other _ _ _ _ (ne (by omega)), World.cell?_setCell_other _ _ _ _ (ne (by omega))]
    exact World.cell?_setCell_same' _ _ _ (h 0 (by omega))
  | 1, _ =>
    rw [World.cell?_setCell_other _ _ _ _ (ne (by omega)), World.cell?_setCell_other _ _ _ _ (ne (by omega)), World.cell?_setCell_other _ _ _ _ (ne (by omega))]
    exact World.cell?_setCell_same' _ _ _ (by rw [World.cell?_setCell_other _ _ _ _ (ne (by omega))]; exact h 1 (by omega))
  | 2, _ =>
    rw [World.cell?_setCell_other _ _ _ _ (ne (by omega)), World.cell?_setCell_other _ _ _ _ (ne (by omega))]
    exact World.cell?_setCell_same' _ _ _ (by rw [World.cell?_setCell_other _ _ _ _ (ne (by omega)), World.cell?_setCell_other _ _ _ _ (ne (by omega))]; exact h 2 (by omega))
  | 3, _ =>
    rw [World.cell?_setCell_other _ _ _ _ (ne (by omega))]
    exact World.cell?_setCell_same' _ _ _ (by rw [World.cell?_setCell_other _ _ _ _ (ne (by omega)), World.cell?_setCell_other _ _ _ _ (ne (by omega)), World.cell?_setCell_other _ _ _ _ (ne (by omega))]; exact h 3 (by omega))
  | 4, _ =>
    exact World.cell?_setCell_same' _ _ _ (by rw [World.cell?_setCell_other _ _ _ _ (ne (by omega)), World.cell?_setCell_other _ _ _ _ (ne (by omega)), World.cell?_setCell_other _ _ _ _ (ne (by omega)), World.cell?_setCell_other _ _ _ _ (ne (by omega))]; exact h 4 (by omega))
theorem put5_but (w : World) (q o : Nat) (s : ByteArray) (x : Xc) : But (fun k => k = q) w (put5 w q o s x) :=
  (((((But.refl (fun k => k = q) w).setCell q o _ (fun _ => rfl)).setCell q (o + 1) _ (fun _ => rfl)).setCell q (o + 2) _ (fun _ => rfl)).setCell q (o + 3) _ (fun _ => rfl)).setCell q (o + 4) _ (fun _ => rfl)
/-- Another execution at place i of the list. -/
theorem RefAt.set {w : World} {g base q cap : Nat} {b : Sn} {N : Nat → ByteArray} {X : Nat → Xc} (h : RefAt w g base b N X (.slice (some ⟨q, 0, none⟩) b.c cap)) {i : Nat} (hi : i < b.c) (x : Xc) : RefAt (put5 w q (i * 5) (N i) x) g base ⟨b.r, b.c, setL b.L (N i) x⟩ N (upd X i x) (.slice (some ⟨q, 0, none⟩) b.c cap) := by
  have k := put5_but w q (i * 5) (N i) x
  have hq := (h.own.lt q rfl).1
  have ng : ¬ (g = q) := by have := h.lo; omega
  refine ⟨(k.cell h.lt ng).trans h.c0, (k.cell h.lt ng).trans h.c1, (k.frozen h.lt ng).trans h.f1, ?_, h.lo, Nat.le_trans h.hi k.size, ⟨h.good.r1, h.good.r2, h.good.c1⟩, h.rel.set hi x b.r⟩
  have s0 := (h.own.stored (i * 5) (.string (N i))).1
  have s1 := (s0.stored (i * 5 + 1) (.string x.o)).1
  have s2 := (s1.stored (i * 5 + 2) (.int .i64 x.q)).1
  have s3 := (s2.stored (i * 5 + 3) (.int .i64 x.p)).1
  have s4 := (s3.stored (i * 5 + 4) (.bool x.k)).1
  refine own_ext s4 (allN_length _ _ _) (fun j hj => ?_)
  show (put5 w q (i * 5) (N i) x).cell? ⟨q, j, none⟩ = _
  have ej : j = j / 5 * 5 + j % 5 := by omega
  have lj : j / 5 < b.c := by omega
  have mj : j % 5 < 5 := by omega
  by_cases e : j / 5 = i
  · have e' : j = i * 5 + j % 5 := by omega
    rw [e', put5_at (fun m hm => by rw [h.own.cellAt (i * 5 + m) (by omega), allN_at N X hi hm]; match m, hm with | 0, _ => rfl | 1, _ => rfl | 2, _ => rfl | 3, _ => rfl | 4, _ => rfl) mj]
    show _ = (allN N (upd X i x) b.c)[i * 5 + j % 5]?
    rw [allN_at N (upd X i x) hi mj, upd_same]
  · rw [put5_other (.inr (by omega)), h.own.cellAt j hj, ej, allN_at N X lj mj, allN_at N (upd X i x) lj mj, upd_other _ _ e]
end Go.Proofs.Ythkohopnoifibaa.SE
