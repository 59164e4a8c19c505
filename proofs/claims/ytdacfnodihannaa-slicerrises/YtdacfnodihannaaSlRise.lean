/-
  What the law SlicerRises stands on: an append of a list of numbers, the three things that come in, a list that is written over.
-/
import Derived.Test.YtdacfnodihannaaSlAwake
import Derived.Test.YtdacfnodihannaaSlFew
import Derived.Test.YtdacfnodihannaaFrame27
import Derived.Laws.OwnMore
namespace Go.Proofs.Ytdacfnodihannaa.SL
open Go.ChangeShapes Go.WideShapes Go.ChangeAt Go.RowKit Go.Lib

theorem append_none {P : Program} (w : World) (base : Nat) (t ty e : TypeId) (i : TypeInfo) (size : Nat) (ht : P.underlying t = some (.slice e)) (hi : P.info? e = some i)
    (v : Value) (n : Nat) (xs : List Value) (hown : w.ownsRow base e size v n xs) (c : Nat) : (Builtin.append_ #[t, t] ty #[v, .slice none 0 c]).run P w = .ok v w := by
  rcases hown.2 with ⟨rfl, rfl⟩ | ⟨g, cap, cur, rfl, hbg, hg, hnc, hcm, hcs, htake⟩
  · simp [Builtin.append_, run_underlying ht, sizeOf, typeInfo, hi, Builtin.lenOf, Builtin.firstCells]
  · simp [Builtin.append_, run_underlying ht, sizeOf, typeInfo, hi, Builtin.lenOf, Builtin.firstCells, hnc, storeCells]
theorem wpList_append_none {P : Program} {w : World} {ops : Array Oper} {rest : List Oper} {o : Oper} {a : Act} {Q : Exit → Act → World → Prop} (hgd : o.guard = none) (s x : Operand) (t : TypeId)
    (ho : o.op = .call { callee := .builtin .append, args := #[s, x], argTypes := #[t, t] }) (v u : Value) (hs : a.eval s = v) (hx : a.eval x = u)
    (hr : ∀ ty, (Builtin.append_ #[t, t] ty #[v, u]).run P w = .ok v w) (h : wpList P ops Q rest (a.put o.dst v) w) : wpList P ops Q (o :: rest) a w :=
  wpList_plain hgd fun K hK => by
    unfold Oper.wp execOp
    simp only [ho, resolve, invoke, builtin, Sem.run_bind, Sem.run_pure, Result.andThen_ok, List.map_toArray, List.map_cons, List.map_nil, hs, hx, hr]
    exact hK _ _ h
set_option maxRecDepth 100000 in
/-- A list of numbers is put behind an empty list of one's own, from wherever it is read. -/
theorem wpList_append_z {w : World} {ops : Array Oper} {rest : List Oper} {o : Oper} {a : Act} {Q : Exit → Act → World → Prop} (hgd : o.guard = none) (s x : Operand)
    (ho : o.op = .call { callee := .builtin .append, args := #[s, x], argTypes := #[26, 26] }) (base : Nat) (v u : Value) (z : List Int) (hs : a.eval s = v) (hx : a.eval x = u)
    (hown : w.ownsRow base 3 1 v 0 []) (hu : Row w u z.length fun i => .int .i64 (z.getD i 0)) (hz : z.length ≤ 1000000) (hbase : base ≤ w.heap.size)
    (h : ∀ v' w', w'.ownsRow base 3 1 v' z.length (valsZ z) → w.grownBy w' v.ownBlock → wpList Try.prog ops Q rest (a.put o.dst v') w') : wpList Try.prog ops Q (o :: rest) a w := by
  obtain ⟨i0, hi, hz0, hz1, hz2⟩ := info_parts infoI
  obtain ⟨ad, cap, rfl, h1, h2, h3⟩ := id hu
  cases ad with
  | none =>
    have hl0 : z = [] := by
      cases z with
      | nil => rfl
      | cons b l => obtain ⟨_, _, e, _⟩ := h3 0 (by simp); cases e
    subst hl0
    refine wpList_append_none hgd s x _ ho v _ hs hx (fun ty => append_none w base _ ty _ i0 1 Try.underlying26 hi v _ _ hown cap) (h v w ?_ ⟨rfl, rfl, rfl, Nat.le_refl _, fun _ _ _ => rfl⟩)
    exact hown
  | some ad =>
    refine wpList_append_own _ hgd s x _ ho base _ i0 (.int .i64 0) 1 8 Try.underlying26 hi hz0 hz1 hz2 rfl (by decide) v _ _ hs hown ad z.length cap (valsZ z) hx (by rw [valsZ_length]; omega) ?_ (valsZ_one z) (by unfold maxLen; omega) (by omega) hbase ?_
    · intro j b hj
      have hl : j < z.length := by
        have := (List.getElem?_eq_some_iff.1 hj).1
        rwa [valsZ_length] at this
      obtain ⟨bl, off, e, _⟩ := h3 j hl
      injection e with e
      subst e
      exact rowZ_cells hu j b hj
    · intro v' w' hown' hgrow _
      exact h v' w' (by simpa using hown') hgrow
/-- Block g has n cells that may be written. -/
structure Wr (w : World) (g n : Nat) : Prop where
  cell : ∀ j, j < n → ∃ u, w.cell? ⟨g, j, none⟩ = some u
  fz : ∀ j, w.frozen? ⟨g, j, none⟩ = false
theorem Wr.set {w : World} {g n : Nat} (h : Wr w g n) (i : Nat) (v : Value) : Wr (w.setCell ⟨g, i, none⟩ v) g n := by
  refine ⟨fun j hj => ?_, fun j => by rw [World.frozen?_setCell]; exact h.fz j⟩
  obtain ⟨u, hu⟩ := h.cell j hj
  by_cases e : j = i
  · subst e
    exact ⟨v, World.cell?_setCell_same _ _ _ hu⟩
  · exact ⟨u, by rw [World.cell?_setCell_other _ _ _ _ (fun q => e (by injection q with _ q; exact q.symm))]; exact hu⟩
theorem Wr.of_own {w : World} {base g n cap : Nat} {z : List Int} (h : w.ownsRow base 3 1 (.slice (some ⟨g, 0, none⟩) n cap) n (valsZ z)) (hz : z.length = n) : Wr w g n := by
  refine ⟨fun j hj => ?_, fun j => h.frozenAt j⟩
  subst hz
  obtain ⟨a, cap', e, _, _, h3⟩ := row_of_ownZ h
  injection e with e1
  subst e1
  obtain ⟨b, off, e', c⟩ := h3 j hj
  injection e' with e'
  injection e' with e1 e2
  subst e1 e2
  rw [Nat.zero_add] at c
  exact ⟨_, c⟩
/-- The three things that came in, in the blocks A, A + 1, A + 2, in a world that has grown since w. -/
structure Inp (w wr : World) (A : Nat) (y : Sl) (cv : Value) (x : Opc) (m0 m1 m2 : Int) : Prop where
  bel : Below w.heap.size w wr
  lA : w.heap.size ≤ A
  box : Box wr A (oF y cv)
  o1 : wr.cell? ⟨A + 1, 1, none⟩ = some (.int .i64 x.a)
  o2 : wr.cell? ⟨A + 1, 2, none⟩ = some (.int .i64 x.b)
  o3 : wr.cell? ⟨A + 1, 3, none⟩ = some (.int .i64 x.c)
  s0 : wr.cell? ⟨A + 2, 0, none⟩ = some (.int .i64 m0)
  s1 : wr.cell? ⟨A + 2, 1, none⟩ = some (.int .i64 m1)
  s2 : wr.cell? ⟨A + 2, 2, none⟩ = some (.int .i64 m2)
theorem Inp.kept {w wr w' : World} {A : Nat} {y : Sl} {cv : Value} {x : Opc} {m0 m1 m2 : Int} {S : Nat → Prop} (h : Inp w wr A y cv x m0 m1 m2) (k : But S wr w') (hS : ∀ b, S b → A + 3 ≤ b) : Inp w w' A y cv x m0 m1 m2 := by
  have g : ∀ b o v, b < A + 3 → wr.cell? ⟨b, o, none⟩ = some v → w'.cell? ⟨b, o, none⟩ = some v := fun b o v hb e =>
    (k.cell (World.block_lt_of_cell? _ _ e) (fun hs => by have := hS b hs; omega)).trans e
  exact ⟨h.bel.trans (k.below h.bel.size (fun i hi => by have := hS i hi; have := h.lA; omega)), h.lA, h.box.kept k (fun hs => by have := hS A hs; omega), g _ _ _ (by omega) h.o1, g _ _ _ (by omega) h.o2, g _ _ _ (by omega) h.o3, g _ _ _ (by omega) h.s0, g _ _ _ (by omega) h.s1, g _ _ _ (by omega) h.s2⟩
theorem Inp.more {w wr w' : World} {A : Nat} {y : Sl} {cv : Value} {x : Opc} {m0 m1 m2 : Int} (h : Inp w wr A y cv x m0 m1 m2) (k : Below wr.heap.size wr w') : Inp w w' A y cv x m0 m1 m2 :=
  h.kept (S := fun _ => False) (But.of_below k) (fun _ h => h.elim)
theorem inp_new (w : World) (y : Sl) (cv : Value) (x : Opc) (m0 m1 m2 : Int) (T1 T2 T3 : TypeId) :
    Inp w (((w.alloc (.cells #[.int .i64 y.k, .string y.i, .string y.t, .string y.c, .string y.s, .int .i64 y.sd, .int .i64 y.q, .int .i64 y.p, .int .i64 y.al, .int .i64 y.st, .int .i64 y.en, .int .i64 y.ra, .int .i64 y.sh, cv] T1)).alloc (.cells x.cells T2)).alloc (.cells #[.int .i64 m0, .int .i64 m1, .int .i64 m2] T3)) w.heap.size y cv x m0 m1 m2 := by
  have b := box_new w y cv T1
  have b0 : Below w.heap.size w _ := (Below.refl _ w).alloc (Nat.le_refl _) (.cells #[.int .i64 y.k, .string y.i, .string y.t, .string y.c, .string y.s, .int .i64 y.sd, .int .i64 y.q, .int .i64 y.p, .int .i64 y.al, .int .i64 y.st, .int .i64 y.en, .int .i64 y.ra, .int .i64 y.sh, cv] T1)
  have s1 : (w.alloc (.cells #[.int .i64 y.k, .string y.i, .string y.t, .string y.c, .string y.s, .int .i64 y.sd, .int .i64 y.q, .int .i64 y.p, .int .i64 y.al, .int .i64 y.st, .int .i64 y.en, .int .i64 y.ra, .int .i64 y.sh, cv] T1)).heap.size = w.heap.size + 1 := by simp
  generalize w.alloc (.cells #[.int .i64 y.k, .string y.i, .string y.t, .string y.c, .string y.s, .int .i64 y.sd, .int .i64 y.q, .int .i64 y.p, .int .i64 y.al, .int .i64 y.st, .int .i64 y.en, .int .i64 y.ra, .int .i64 y.sh, cv] T1) = W at *
  have b1 : Below W.heap.size W _ := (Below.refl _ W).alloc (Nat.le_refl _) (.cells x.cells T2)
  have s2 : (W.alloc (.cells x.cells T2)).heap.size = w.heap.size + 2 := by simp [s1]
  have o : ∀ j v, x.cells[j]? = some v → (W.alloc (.cells x.cells T2)).cell? ⟨w.heap.size + 1, j, none⟩ = some v := fun j v h => by
    rw [World.cell?_alloc_at _ _ _ _ s1.symm]
    exact h
  generalize W.alloc (.cells x.cells T2) = V at *
  have b2 : Below V.heap.size V _ := (Below.refl _ V).alloc (Nat.le_refl _) (.cells #[.int .i64 m0, .int .i64 m1, .int .i64 m2] T3)
  have s : ∀ j v, #[Value.int .i64 m0, .int .i64 m1, .int .i64 m2][j]? = some v → (V.alloc (.cells #[.int .i64 m0, .int .i64 m1, .int .i64 m2] T3)).cell? ⟨w.heap.size + 2, j, none⟩ = some v := fun j v h => by
    rw [World.cell?_alloc_at _ _ _ _ s2.symm]
    exact h
  have o' : ∀ j v, x.cells[j]? = some v → (V.alloc (.cells #[.int .i64 m0, .int .i64 m1, .int .i64 m2] T3)).cell? ⟨w.heap.size + 1, j, none⟩ = some v := fun j v h =>
    (b2.cell (p := ⟨w.heap.size + 1, j, none⟩) (show w.heap.size + 1 < V.heap.size by omega)).trans (o j v h)
  exact ⟨(b0.trans (b1.mono (by omega))).trans (b2.mono (by omega)), Nat.le_refl _, (b.below b1).below b2, o' 1 _ rfl, o' 2 _ rfl, o' 3 _ rfl, s 0 _ rfl, s 1 _ rfl, s 2 _ rfl⟩
theorem own_more {w w' : World} {base : Nat} {e : TypeId} {size : Nat} {v : Value} {n : Nat} {xs : List Value} (h : w.ownsRow base e size v n xs) (k : Below w.heap.size w w') : w'.ownsRow base e size v n xs :=
  own_kept h (But.of_below (S := fun _ => False) k) (fun _ _ => id)
/-- What the loop stands on: the things that came in, the slicer in block P with its own curve at vz, the list that is written over, in a block between those of w2 and V. -/
structure Lp (w w2 V wr : World) (P : Nat) (vz : Value) (y : Sl) (cv : Value) (a' : Option Addr) (c' : Nat) (x : Opc) (m0 m1 m2 : Int) : Prop where
  l2 : w.heap.size + 3 ≤ w2.heap.size
  inp : Inp w wr w.heap.size y cv x m0 m1 m2
  sl : SlAt wr V.heap.size P vz y
  c13 : wr.cell? ⟨w2.heap.size, 13, none⟩ = some (.slice a' y.z.length c')
  wr : ∀ g, a' = some ⟨g, 0, none⟩ → Wr wr g y.z.length ∧ w2.heap.size + 1 ≤ g ∧ g < V.heap.size
  some : 0 < y.z.length → ∃ g, a' = some ⟨g, 0, none⟩
theorem Lp.set {w w2 V wr : World} {P : Nat} {vz : Value} {y : Sl} {cv : Value} {a' : Option Addr} {c' : Nat} {x : Opc} {m0 m1 m2 : Int} (h : Lp w w2 V wr P vz y cv a' c' x m0 m1 m2) {g : Nat} (hg : a' = Option.some ⟨g, 0, none⟩) (j : Nat) (v : Value) :
    Lp w w2 V (wr.setCell ⟨g, j, none⟩ v) P vz y cv a' c' x m0 m1 m2 := by
  have k : But (fun k => k = g) wr (wr.setCell ⟨g, j, none⟩ v) := (But.refl _ _).setCell _ _ _ (fun _ => rfl)
  obtain ⟨W1, l1, l3⟩ := h.wr g hg
  have l2 := h.l2
  have lP := h.sl.lP
  refine ⟨l2, h.inp.kept k (fun b e => by have e : b = g := e; omega), h.sl.kept k (show ¬ P = g by omega) (fun a g' hg' e => by have e : g' = g := e; have := (own_base (h.sl.own a) hg').1; omega), (k.cell (World.block_lt_of_cell? _ _ h.c13) (show ¬ w2.heap.size = g by omega)).trans h.c13, fun g' hg' => ?_, h.some⟩
  have e : g' = g := by rw [hg] at hg'; injection hg' with e; injection e with e; exact e.symm
  subst e
  exact ⟨W1.set j v, l1, l3⟩
theorem lp_new {w w2 V w7 : World} {P : Nat} {vz : Value} {y : Sl} {cv : Value} {a' : Option Addr} {c' : Nat} {x : Opc} {m0 m1 m2 : Int} (l2 : w.heap.size + 3 ≤ w2.heap.size) (IV : Inp w V w.heap.size y cv x m0 m1 m2) (ownV : V.ownsRow (w2.heap.size + 1) 3 1 (.slice a' y.z.length c') y.z.length (valsZ y.z)) (c13 : w7.cell? ⟨w2.heap.size, 13, none⟩ = Option.some (.slice a' y.z.length c')) (K7 : SlAt w7 V.heap.size P vz y) (b7 : Below V.heap.size V w7) :
    Lp w w2 V w7 P vz y cv a' c' x m0 m1 m2 := by
  refine ⟨l2, IV.more b7, K7, c13, fun g hg => ?_, fun hj => ?_⟩
  · subst hg
    have hb := own_base ownV (g := g) (by simp [Value.ownBlock])
    exact ⟨Wr.of_own (own_more ownV b7) rfl, hb.1, hb.2⟩
  · rcases ownV.2 with h2 | ⟨g, cap, cur, e2, _⟩
    · omega
    · injection e2 with e2 _
      exact ⟨g, e2⟩
end Go.Proofs.Ytdacfnodihannaa.SL
