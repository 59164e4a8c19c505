/-
  What the laws without the reference carry: a book in memory that is newer than the call's, a step in a block of its own, a list of what accounts use.
-/
import Derived.Test.YtcjdbfmglckdkaaRkAwake
import Derived.Test.YtcjdbfmglckdkaaRkLawMath
import Derived.Deep.OwnRows
namespace Go.Proofs.Ytcjdbfmglckdkaa.RK
open Go.ChangeShapes Go.WideShapes Go.ChangeAt Go.RowKit Go.Lib

/-- A step lies in block ob. -/
structure Box4 (w : World) (ob : Nat) (x0 x1 x2 x3 : Int) : Prop where
  c0 : w.cell? ⟨ob, 0, none⟩ = some (.int .i64 x0)
  c1 : w.cell? ⟨ob, 1, none⟩ = some (.int .i64 x1)
  c2 : w.cell? ⟨ob, 2, none⟩ = some (.int .i64 x2)
  c3 : w.cell? ⟨ob, 3, none⟩ = some (.int .i64 x3)
theorem Box4.lt {w : World} {ob : Nat} {x0 x1 x2 x3 : Int} (h : Box4 w ob x0 x1 x2 x3) : ob < w.heap.size := World.block_lt_of_cell? _ _ h.c0
theorem Box4.kept {w w' : World} {ob : Nat} {x0 x1 x2 x3 : Int} {T : Nat → Prop} (h : Box4 w ob x0 x1 x2 x3) (k : But T w w') (hT : ¬ T ob) : Box4 w' ob x0 x1 x2 x3 :=
  ⟨by rw [k.cell h.lt hT]; exact h.c0, by rw [k.cell h.lt hT]; exact h.c1, by rw [k.cell h.lt hT]; exact h.c2, by rw [k.cell h.lt hT]; exact h.c3⟩
theorem Box4.below {w w' : World} {ob : Nat} {x0 x1 x2 x3 : Int} (h : Box4 w ob x0 x1 x2 x3) (k : Below w.heap.size w w') : Box4 w' ob x0 x1 x2 x3 := h.kept (But.of_below (S := fun _ => False) k) id
theorem Box4.new (w : World) (x0 x1 x2 x3 : Int) (T : TypeId) : Box4 (w.alloc (.cells #[.int .i64 x0, .int .i64 x1, .int .i64 x2, .int .i64 x3] T)) w.heap.size x0 x1 x2 x3 := ⟨by simp, by simp, by simp, by simp⟩
/-- A list of n numbers lies in block ub: the first k are what f tells, the others 0. -/
structure Lst (w : World) (ub n k : Nat) (f : Nat → Int) : Prop where
  lo : ∀ j, j < k → w.cell? ⟨ub, j, none⟩ = some (.int .i64 (f j))
  hi : ∀ j, k ≤ j → j < n → w.cell? ⟨ub, j, none⟩ = some (.int .i64 0)
  th : ∀ j, w.frozen? ⟨ub, j, none⟩ = false
  lt : ub < w.heap.size
theorem Lst.kept {w w' : World} {ub n k : Nat} {f : Nat → Int} {T : Nat → Prop} (h : Lst w ub n k f) (B : But T w w') (hT : ¬ T ub) : Lst w' ub n k f :=
  ⟨fun j hj => by rw [B.cell h.lt hT]; exact h.lo j hj, fun j h1 h2 => by rw [B.cell h.lt hT]; exact h.hi j h1 h2, fun j => by rw [B.frozen h.lt hT]; exact h.th j, Nat.lt_of_lt_of_le h.lt B.size⟩
theorem Lst.below {w w' : World} {ub n k : Nat} {f : Nat → Int} (h : Lst w ub n k f) (B : Below w.heap.size w w') : Lst w' ub n k f := h.kept (But.of_below (S := fun _ => False) B) id
theorem Lst.next {w : World} {ub n k : Nat} {f : Nat → Int} (h : Lst w ub n k f) (hk : k < n) : Lst (w.setCell ⟨ub, k, none⟩ (.int .i64 (f k))) ub n (k + 1) f := by
  have ho : ∀ o, o ≠ k → (w.setCell ⟨ub, k, none⟩ (.int .i64 (f k))).cell? ⟨ub, o, none⟩ = w.cell? ⟨ub, o, none⟩ := fun o h1 => by
    rw [World.cell?_setCell_other _ _ _ _ (by intro e; injection e with _ e2; exact h1 e2.symm)]
  refine ⟨fun j hj => ?_, fun j h1 h2 => by rw [ho _ (by omega)]; exact h.hi j (by omega) h2, fun j => by rw [World.frozen?_setCell]; exact h.th j, by simp; exact h.lt⟩
  by_cases e : j = k
  · subst e
    exact World.cell?_setCell_same' _ _ _ (by rw [h.hi j (Nat.le_refl _) hk]; rfl)
  · rw [ho _ e]; exact h.lo j (by omega)
theorem Lst.same {w : World} {ub n k : Nat} {f g : Nat → Int} (h : Lst w ub n k f) (e : ∀ j, j < k → f j = g j) : Lst w ub n k g := ⟨fun j hj => by rw [← e j hj]; exact h.lo j hj, h.hi, h.th, h.lt⟩
theorem info_int' : (Try.prog.info? 3).map (fun i => (i.zero, i.size, i.bytes)) = some (some (.int .i64 0), 1, 8) := by kernel_rfl
theorem run_make_ints (n : Nat) (hn : n ≤ 1000) (w : World) : (Instr.makeSlice 22 (.int .i64 (n : Int)) (.int .i64 (n : Int))).run Try.prog w = .ok (.slice (some ⟨w.heap.size, 0, none⟩) n n) (w.alloc (.cells (madeCells #[.int .i64 0] n) 3)) :=
  run_make_row' (P := Try.prog) 22 3 (.int .i64 0) 8 Try.underlying22 info_int' rfl .i64 .i64 n (by omega) (by omega) w
theorem Lst.new (w : World) (n : Nat) (f : Nat → Int) : Lst (w.alloc (.cells (madeCells #[.int .i64 0] n) 3)) w.heap.size n 0 f :=
  ⟨fun j hj => absurd hj (by omega), fun j _ hj => by simp [madeCells, hj, Nat.mod_one], fun j => by simp, by simp⟩
/-- A book, all that it has is newer than w. -/
structure Bx (w wr : World) (P g h : Nat) (b : Bk) : Prop where
  bk : BookAt wr w.heap.size P g h b
  bel : Below w.heap.size w wr
theorem Bx.still {w wr w' : World} {P g h : Nat} {b : Bk} (X : Bx w wr P g h b) (k : Below wr.heap.size wr w') : Bx w w' P g h b := ⟨X.bk.below k, X.bel.trans (k.mono X.bel.size)⟩
theorem Bx.put {w wr w' : World} {P g h : Nat} {b b' : Bk} (X : Bx w wr P g h b) (K : BookAt w' w.heap.size P g h b') (k : But (own P g h) wr w') : Bx w w' P g h b' := ⟨K, X.bk.frame k X.bel⟩
theorem Bx.set {w wr : World} {P g h : Nat} {b : Bk} (X : Bx w wr P g h b) {u : Nat} (o : Nat) (v : Value) (hu : ¬ own P g h u) (hw : w.heap.size ≤ u) : Bx w (wr.setCell ⟨u, o, none⟩ v) P g h b := by
  have kk : But (fun i => i = u) wr (wr.setCell ⟨u, o, none⟩ v) := But.setCell (But.refl _ _) _ _ _ (fun _ => rfl)
  exact ⟨X.bk.kept kk (fun i hi e => hu (by rw [← e]; exact hi)), X.bel.setCell hw _⟩
theorem BookAt.low {w : World} {B p g h : Nat} {b : Bk} (K : BookAt w B p g h b) (i : Nat) (hi : own p g h i) : B ≤ i ∧ i < w.heap.size := by
  rcases hi with e | e | e
  · rw [e]; exact ⟨K.lp, K.pt⟩
  · rw [e]; exact ⟨K.lg, K.gt⟩
  · rw [e]; exact ⟨K.lh, K.ht⟩
theorem usedB {w wr : World} {P g h : Nat} {b : Bk} (X : Bx w wr P g h b) (a : Nat) (ha : a < b.nA) (Y : World) (hY : Below wr.heap.size wr Y) : Calls Try.prog 18 #[.pointer (some ⟨P, 0, none⟩), .int .i64 (a : Int)] Y fun e w' => e = .returned (.int .i64 (used b a)) ∧ Below wr.heap.size wr w' :=
  (used_yes (X.bk.below hY) a ha).mono fun _ _ h => ⟨h.1, hY.trans (h.2.mono hY.size)⟩
theorem leftB {w wr : World} {P g h : Nat} {b : Bk} (X : Bx w wr P g h b) (a : Nat) (ha : a < b.nA) (Y : World) (hY : Below wr.heap.size wr Y) : Calls Try.prog 20 #[.pointer (some ⟨P, 0, none⟩), .int .i64 (a : Int)] Y fun e w' => e = .returned (.int .i64 (b.L a - used b a)) ∧ Below wr.heap.size wr w' :=
  (left_yes (X.bk.below hY) a ha).mono fun _ _ h => ⟨h.1, hY.trans (h.2.mono hY.size)⟩
end Go.Proofs.Ytcjdbfmglckdkaa.RK
