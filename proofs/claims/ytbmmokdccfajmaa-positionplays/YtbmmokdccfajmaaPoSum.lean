/-
  Contract of the eighteenth reference's Sum.
-/
import Derived.Test.YtbmmokdccfajmaaPoRefMath
import Derived.Test.YtbmmokdccfajmaaRefTold
import Derived.Test.YtbmmokdccfajmaaRefMul
namespace Go.Proofs.Ytbmmokdccfajmaa.PO
open Go.ChangeShapes Go.WideShapes Go.ChangeAt Go.RowKit Go.Lib

theorem num_setCell {B : Nat} {w : World} {s : Bool} {sl : Value} {z : Int} {n : Nat} (h : IsNum B w s sl z n) {p : Addr} (hp : p.block < B) (u : Value) : IsNum B (w.setCell p u) s sl z n := by
  obtain ⟨h0, l, h1, h2⟩ := h
  exact ⟨h0, l, h1.setCell hp u, h2⟩
theorem num_mono {B C : Nat} {w : World} {s : Bool} {sl : Value} {z : Int} {n : Nat} (h : IsNum B w s sl z n) (hc : C ≤ B) : IsNum C w s sl z n := by
  obtain ⟨h0, l, h1, h2⟩ := h
  exact ⟨h0, l, h1.mono hc, h2⟩
theorem num_slice {B : Nat} {w : World} {s : Bool} {sl : Value} {z : Int} {n : Nat} (h : IsNum B w s sl z n) : ∃ a m c, sl = Value.slice a m c := by
  obtain ⟨_, l, ⟨a, c, e, _⟩, _⟩ := h
  exact ⟨a, _, c, e⟩
theorem num_sign {B : Nat} {w : World} {s t : Bool} {sl : Value} {z : Int} {n : Nat} (h : IsNum B w s sl z n) (k : t = decide (-z < 0)) : IsNum B w t sl (-z) n := by
  obtain ⟨_, l, h1, h2, h3, h4⟩ := h
  exact ⟨k, l, h1, h2, by rw [h3]; omega, h4⟩
theorem num_zero (B : Nat) (w : World) : IsNum B w false (.slice none 0 0) 0 0 := ⟨by simp, [], reads_nil _ _, canon_nil, by simp [val], by simp⟩
/-- Block g holds a number, whose bits lie from block B on. -/
structure Nm (B : Nat) (w : World) (g : Nat) (r : Bool) (u : Value) (z : Int) (m : Nat) : Prop where
  c0 : w.cell? ⟨g, 0, none⟩ = some (.bool r)
  c1 : w.cell? ⟨g, 1, none⟩ = some u
  f0 : w.frozen? ⟨g, 0, none⟩ = false
  f1 : w.frozen? ⟨g, 1, none⟩ = false
  nm : IsNum B w r u z m
theorem Nm.below {B : Nat} {w w' : World} {g : Nat} {r : Bool} {u : Value} {z : Int} {m : Nat} (h : Nm B w g r u z m) (b : Below w.heap.size w w') : Nm B w' g r u z m :=
  ⟨(b.cell (p := ⟨g, 0, none⟩) (World.block_lt_of_cell? _ _ h.c0)).trans h.c0, (b.cell (p := ⟨g, 1, none⟩) (World.block_lt_of_cell? _ _ h.c1)).trans h.c1, (b.frozen (p := ⟨g, 0, none⟩) (World.block_lt_of_cell? _ _ h.c0)).trans h.f0, (b.frozen (p := ⟨g, 1, none⟩) (World.block_lt_of_cell? _ _ h.c1)).trans h.f1, h.nm.below b⟩
/-- Another number is put into another block. -/
theorem Nm.other {B : Nat} {w : World} {g k : Nat} {r : Bool} {u : Value} {z : Int} {m : Nat} (h : Nm B w g r u z m) (hk : k ≠ g) (hB : k < B) (x y : Value) : Nm B ((w.setCell ⟨k, 0, none⟩ x).setCell ⟨k, 1, none⟩ y) g r u z m := by
  have e : ∀ j, ((w.setCell ⟨k, 0, none⟩ x).setCell ⟨k, 1, none⟩ y).cell? ⟨g, j, none⟩ = w.cell? ⟨g, j, none⟩ := fun j => by
    rw [World.cell?_setCell_other _ _ _ _ (by intro e; injection e with e1; exact hk e1), World.cell?_setCell_other _ _ _ _ (by intro e; injection e with e1; exact hk e1)]
  exact ⟨(e 0).trans h.c0, (e 1).trans h.c1, by rw [World.frozen?_setCell, World.frozen?_setCell]; exact h.f0, by rw [World.frozen?_setCell, World.frozen?_setCell]; exact h.f1, num_setCell (num_setCell h.nm hB _) hB _⟩
/-- Another number is put into it. -/
theorem Nm.put {B : Nat} {w : World} {g : Nat} {r s : Bool} {u v : Value} {z y : Int} {m k : Nat} (h : Nm B w g r u z m) (hB : g < B) (n : IsNum B w s v y k) : Nm B ((w.setCell ⟨g, 0, none⟩ (.bool s)).setCell ⟨g, 1, none⟩ v) g s v y k := by
  refine ⟨?_, World.cell?_setCell_same' _ _ _ ?_, by rw [World.frozen?_setCell, World.frozen?_setCell]; exact h.f0, by rw [World.frozen?_setCell, World.frozen?_setCell]; exact h.f1, num_setCell (num_setCell n hB _) hB _⟩
  · rw [World.cell?_setCell_other _ _ _ _ (by intro e; injection e with _ e2; omega)]
    exact World.cell?_setCell_same' _ _ _ (by rw [h.c0]; rfl)
  · rw [World.cell?_setCell_other _ _ _ _ (by intro e; injection e with _ e2; omega), h.c1]; rfl
/-- What Sum's loop stands on: the two results in blocks g8 and g9, the two sums in blocks g10 and g11. -/
structure SumAt (w wr : World) (g8 g9 g10 g11 : Nat) (r1 r2 : Bool) (u1 u2 : Value) (Q V : Int) (m1 m2 : Nat) : Prop where
  bel : Below w.heap.size w wr
  z8 : Nm 0 wr g8 false (.slice none 0 0) 0 0
  z9 : Nm 0 wr g9 false (.slice none 0 0) 0 0
  q : Nm (g11 + 1) wr g10 r1 u1 Q (64 + m1)
  v : Nm (g11 + 1) wr g11 r2 u2 V (128 + m2)
  o1 : w.heap.size ≤ g8
  o2 : g8 < g9
  o3 : g9 < g10
  o4 : g10 < g11
theorem SumAt.below {w wr wx : World} {g8 g9 g10 g11 : Nat} {r1 r2 : Bool} {u1 u2 : Value} {Q V : Int} {m1 m2 : Nat} (h : SumAt w wr g8 g9 g10 g11 r1 r2 u1 u2 Q V m1 m2) (b : Below wr.heap.size wr wx) : SumAt w wx g8 g9 g10 g11 r1 r2 u1 u2 Q V m1 m2 :=
  ⟨h.bel.trans (b.mono h.bel.size), h.z8.below b, h.z9.below b, h.q.below b, h.v.below b, h.o1, h.o2, h.o3, h.o4⟩
theorem SumAt.start (w : World) : SumAt w ((((w.alloc (.cells #[.bool false, .slice none 0 0] 51)).alloc (.cells #[.bool false, .slice none 0 0] 51)).alloc (.cells #[.bool false, .slice none 0 0] 51)).alloc (.cells #[.bool false, .slice none 0 0] 51)) w.heap.size (w.heap.size + 1) (w.heap.size + 1 + 1) (w.heap.size + 1 + 1 + 1) false false (.slice none 0 0) (.slice none 0 0) 0 0 0 0 := by
  refine ⟨?_, ⟨?_, ?_, ?_, ?_, num_zero _ _⟩, ⟨?_, ?_, ?_, ?_, num_zero _ _⟩, ⟨?_, ?_, ?_, ?_, (num_zero _ _).wide (by omega)⟩, ⟨?_, ?_, ?_, ?_, (num_zero _ _).wide (by omega)⟩, Nat.le_refl _, by omega, by omega, by omega⟩
  · exact ((((Below.refl _ _).alloc (Nat.le_refl _) _).alloc (by simp) _).alloc (by simp; omega) _).alloc (by simp; omega) _
  all_goals go_simp
theorem Nm.wide {B : Nat} {w : World} {g : Nat} {r : Bool} {u : Value} {z : Int} {m k : Nat} (h : Nm B w g r u z m) (hk : m ≤ k) : Nm B w g r u z k := ⟨h.c0, h.c1, h.f0, h.f1, h.nm.wide hk⟩
theorem SumAt.wide {w wr : World} {g8 g9 g10 g11 : Nat} {r1 r2 : Bool} {u1 u2 : Value} {Q V : Int} {m1 m2 k1 k2 : Nat} (h : SumAt w wr g8 g9 g10 g11 r1 r2 u1 u2 Q V m1 m2) (h1 : m1 ≤ k1) (h2 : m2 ≤ k2) : SumAt w wr g8 g9 g10 g11 r1 r2 u1 u2 Q V k1 k2 :=
  ⟨h.bel, h.z8, h.z9, h.q.wide (by omega), h.v.wide (by omega), h.o1, h.o2, h.o3, h.o4⟩
theorem SumAt.addQ {w wr : World} {g8 g9 g10 g11 : Nat} {r1 r2 r : Bool} {u1 u2 u : Value} {Q V Z : Int} {m1 m2 k : Nat} (h : SumAt w wr g8 g9 g10 g11 r1 r2 u1 u2 Q V m1 m2) (n : IsNum (g11 + 1) wr r u Z (64 + k)) : SumAt w ((wr.setCell ⟨g10, 0, none⟩ (.bool r)).setCell ⟨g10, 1, none⟩ u) g8 g9 g10 g11 r r2 u u2 Z V k m2 := by
  have o1 := h.o1
  have o2 := h.o2
  have o3 := h.o3
  have o4 := h.o4
  have zz : ∀ g, g ≠ g10 → Nm 0 wr g false (.slice none 0 0) 0 0 → Nm 0 ((wr.setCell ⟨g10, 0, none⟩ (.bool r)).setCell ⟨g10, 1, none⟩ u) g false (.slice none 0 0) 0 0 := fun g hg h => by
    have e : ∀ j, ((wr.setCell ⟨g10, 0, none⟩ (.bool r)).setCell ⟨g10, 1, none⟩ u).cell? ⟨g, j, none⟩ = wr.cell? ⟨g, j, none⟩ := fun j => by
      rw [World.cell?_setCell_other _ _ _ _ (by intro e; injection e with e1; exact hg e1.symm), World.cell?_setCell_other _ _ _ _ (by intro e; injection e with e1; exact hg e1.symm)]
    exact ⟨(e 0).trans h.c0, (e 1).trans h.c1, by rw [World.frozen?_setCell, World.frozen?_setCell]; exact h.f0, by rw [World.frozen?_setCell, World.frozen?_setCell]; exact h.f1, num_zero _ _⟩
  exact ⟨(h.bel.setCell (by show _ ≤ g10; omega) _).setCell (by show _ ≤ g10; omega) _, zz g8 (by omega) h.z8, zz g9 (by omega) h.z9, h.q.put (by omega) n, h.v.other (by omega) (by omega) _ _, o1, o2, o3, o4⟩
theorem SumAt.addV {w wr : World} {g8 g9 g10 g11 : Nat} {r1 r2 r : Bool} {u1 u2 u : Value} {Q V Z : Int} {m1 m2 k : Nat} (h : SumAt w wr g8 g9 g10 g11 r1 r2 u1 u2 Q V m1 m2) (n : IsNum (g11 + 1) wr r u Z (128 + k)) : SumAt w ((wr.setCell ⟨g11, 0, none⟩ (.bool r)).setCell ⟨g11, 1, none⟩ u) g8 g9 g10 g11 r1 r u1 u Q Z m1 k := by
  have o1 := h.o1
  have o2 := h.o2
  have o3 := h.o3
  have o4 := h.o4
  have zz : ∀ g, g ≠ g11 → Nm 0 wr g false (.slice none 0 0) 0 0 → Nm 0 ((wr.setCell ⟨g11, 0, none⟩ (.bool r)).setCell ⟨g11, 1, none⟩ u) g false (.slice none 0 0) 0 0 := fun g hg h => by
    have e : ∀ j, ((wr.setCell ⟨g11, 0, none⟩ (.bool r)).setCell ⟨g11, 1, none⟩ u).cell? ⟨g, j, none⟩ = wr.cell? ⟨g, j, none⟩ := fun j => by
      rw [World.cell?_setCell_other _ _ _ _ (by intro e; injection e with e1; exact hg e1.symm), World.cell?_setCell_other _ _ _ _ (by intro e; injection e with e1; exact hg e1.symm)]
    exact ⟨(e 0).trans h.c0, (e 1).trans h.c1, by rw [World.frozen?_setCell, World.frozen?_setCell]; exact h.f0, by rw [World.frozen?_setCell, World.frozen?_setCell]; exact h.f1, num_zero _ _⟩
  exact ⟨(h.bel.setCell (by show _ ≤ g11; omega) _).setCell (by show _ ≤ g11; omega) _, zz g8 (by omega) h.z8, zz g9 (by omega) h.z9, h.q.other (by omega) (by omega) _ _, h.v.put (by omega) n, o1, o2, o3, o4⟩
/-- A number that was just made, in a block that was just made. -/
theorem Nm.new {B : Nat} {w : World} {r : Bool} {u : Value} {z : Int} {m : Nat} (T : TypeId) (h : IsNum B w r u z m) : Nm B (w.alloc (.cells #[.bool r, u] T)) w.heap.size r u z m :=
  ⟨by go_simp, by go_simp, by go_simp, by go_simp, h.below ((Below.refl _ _).alloc (Nat.le_refl _) _)⟩
/-- It is turned about nought in its own block, which is newer than its bits. -/
theorem Nm.turn {B : Nat} {w0 w : World} {g : Nat} {r s : Bool} {u : Value} {z : Int} {m : Nat} (n0 : IsNum B w0 r u z m) (h : Nm B w g r u z m) (b : Below w0.heap.size w0 w) (hg : w0.heap.size ≤ g) (e : s = decide (-z < 0)) : Nm B ((w.setCell ⟨g, 0, none⟩ (.bool s)).setCell ⟨g, 1, none⟩ u) g s u (-z) m := by
  refine ⟨?_, World.cell?_setCell_same' _ _ _ ?_, by rw [World.frozen?_setCell, World.frozen?_setCell]; exact h.f0, by rw [World.frozen?_setCell, World.frozen?_setCell]; exact h.f1, num_sign (n0.below ((b.setCell hg _).setCell hg _)) e⟩
  · rw [World.cell?_setCell_other _ _ _ _ (by intro e; injection e with _ e2; omega)]
    exact World.cell?_setCell_same' _ _ _ (by rw [h.c0]; rfl)
  · rw [World.cell?_setCell_other _ _ _ _ (by intro e; injection e with _ e2; omega), h.c1]; rfl
theorem Nm.mono {B C : Nat} {w : World} {g : Nat} {r : Bool} {u : Value} {z : Int} {m : Nat} (h : Nm B w g r u z m) (hc : C ≤ B) : Nm C w g r u z m := ⟨h.c0, h.c1, h.f0, h.f1, num_mono h.nm hc⟩
theorem num_but {B : Nat} {T : Nat → Prop} {w w' : World} {r : Bool} {u : Value} {z : Int} {m : Nat} (h : IsNum B w r u z m) (k : But T w w') (hT : ∀ i, i < w.heap.size → T i → i < B) : IsNum B w' r u z m := by
  obtain ⟨h0, l, ⟨a, cap, rfl, h1, h2, h3⟩, h4⟩ := h
  refine ⟨h0, l, ⟨a, cap, rfl, h1, h2, fun i hi => ?_⟩, h4⟩
  obtain ⟨b, off, e, hb, hc⟩ := h3 i hi
  have lt := World.block_lt_of_cell? _ _ hc
  exact ⟨b, off, e, hb, by rw [k.cell lt (fun t => by have := hT b lt t; omega)]; exact hc⟩
/-- Block g holds a number that was made in the world w0, its bits from block B on. -/
structure Nw (w : World) (g : Nat) (r : Bool) (u : Value) (z : Int) (m B : Nat) (w0 : World) : Prop where
  c0 : w.cell? ⟨g, 0, none⟩ = some (.bool r)
  c1 : w.cell? ⟨g, 1, none⟩ = some u
  f0 : w.frozen? ⟨g, 0, none⟩ = false
  f1 : w.frozen? ⟨g, 1, none⟩ = false
  nm : IsNum B w0 r u z m
  but : But (fun k => k < B) w0 w
  gb : g < w0.heap.size → g < B
theorem Nw.num {w : World} {g : Nat} {r : Bool} {u : Value} {z : Int} {m B : Nat} {w0 : World} (h : Nw w g r u z m B w0) : IsNum B w r u z m := num_but h.nm h.but (fun _ _ t => t)
theorem Nw.kept {w w1 : World} {g : Nat} {r : Bool} {u : Value} {z : Int} {m B : Nat} {w0 : World} {T : Nat → Prop} (h : Nw w g r u z m B w0) (k : But T w w1) (hT : ∀ i, i < w0.heap.size → T i → i < B) (hg : ¬ T g) : Nw w1 g r u z m B w0 :=
  ⟨(k.cell (World.block_lt_of_cell? _ _ h.c0) hg).trans h.c0, (k.cell (World.block_lt_of_cell? _ _ h.c1) hg).trans h.c1, (k.frozen (World.block_lt_of_cell? _ _ h.c0) hg).trans h.f0, (k.frozen (World.block_lt_of_cell? _ _ h.c1) hg).trans h.f1, h.nm, h.but.trans k hT, h.gb⟩
theorem Nw.below {w w1 : World} {g : Nat} {r : Bool} {u : Value} {z : Int} {m B : Nat} {w0 : World} (h : Nw w g r u z m B w0) (b : Below w.heap.size w w1) : Nw w1 g r u z m B w0 :=
  h.kept (T := fun _ => False) (But.of_below b) (fun _ _ t => t.elim) id
theorem put_but (w : World) (g : Nat) (x y : Value) : But (fun k => k = g) w ((w.setCell ⟨g, 0, none⟩ x).setCell ⟨g, 1, none⟩ y) :=
  (But.setCell (S := fun k => k = g) (But.refl _ w) g 0 x (fun _ => rfl)).setCell g 1 y (fun _ => rfl)
theorem put_cells {w : World} {g : Nat} {x0 y0 : Value} (c0 : w.cell? ⟨g, 0, none⟩ = some x0) (c1 : w.cell? ⟨g, 1, none⟩ = some y0) (x y : Value) : ((w.setCell ⟨g, 0, none⟩ x).setCell ⟨g, 1, none⟩ y).cell? ⟨g, 0, none⟩ = some x ∧ ((w.setCell ⟨g, 0, none⟩ x).setCell ⟨g, 1, none⟩ y).cell? ⟨g, 1, none⟩ = some y := by
  constructor
  · rw [World.cell?_setCell_other _ _ _ _ (by intro e; injection e with _ e2; omega)]
    exact World.cell?_setCell_same' _ _ _ (by rw [c0]; rfl)
  · exact World.cell?_setCell_same' _ _ _ (by rw [World.cell?_setCell_other _ _ _ _ (by intro e; injection e with _ e2; omega), c1]; rfl)
theorem Nw.turn {w : World} {g : Nat} {r s : Bool} {u : Value} {z : Int} {m B : Nat} {w0 : World} (h : Nw w g r u z m B w0) (e : s = decide (-z < 0)) : Nw ((w.setCell ⟨g, 0, none⟩ (.bool s)).setCell ⟨g, 1, none⟩ u) g s u (-z) m B w0 := by
  obtain ⟨k0, k1⟩ := put_cells h.c0 h.c1 (.bool s) u
  exact ⟨k0, k1, by rw [World.frozen?_setCell, World.frozen?_setCell]; exact h.f0, by rw [World.frozen?_setCell, World.frozen?_setCell]; exact h.f1, num_sign h.nm e, h.but.trans (put_but _ _ _ _) (fun i hi t => by have t' : i = g := t; subst t'; exact h.gb hi), h.gb⟩
theorem Nw.new {B : Nat} {w : World} {r : Bool} {u : Value} {z : Int} {m : Nat} (T : TypeId) (h : IsNum B w r u z m) : Nw (w.alloc (.cells #[.bool r, u] T)) w.heap.size r u z m B w :=
  ⟨by go_simp, by go_simp, by go_simp, by go_simp, h, But.of_below ((Below.refl _ _).alloc (Nat.le_refl _) _), fun h => absurd h (by omega)⟩
/-- A number that is put into an older block. -/
theorem Nw.over {B C : Nat} {w : World} {g : Nat} {r s : Bool} {u v : Value} {z y : Int} {m k : Nat} (h : Nm C w g r u z m) (hB : g < B) (n : IsNum B w s v y k) : Nw ((w.setCell ⟨g, 0, none⟩ (.bool s)).setCell ⟨g, 1, none⟩ v) g s v y k B w := by
  obtain ⟨k0, k1⟩ := put_cells h.c0 h.c1 (.bool s) v
  exact ⟨k0, k1, by rw [World.frozen?_setCell, World.frozen?_setCell]; exact h.f0, by rw [World.frozen?_setCell, World.frozen?_setCell]; exact h.f1, n, (put_but _ _ _ _).mono (fun i _ t => by have t' : i = g := t; omega), fun _ => hB⟩
/-- The empty number's block that was laid ahead of a call. -/
theorem zer_new (w : World) (T : TypeId) : Nm 0 (w.alloc (.cells #[.bool false, .slice none 0 0] T)) w.heap.size false (.slice none 0 0) 0 0 := Nm.new T (num_zero _ _)
theorem early {w w8 : World} {T : TypeId} (h : Below (w.alloc (.cells #[.bool false, .slice none 0 0] T)).drew.heap.size (w.alloc (.cells #[.bool false, .slice none 0 0] T)).drew w8) : Below w.heap.size w w8 ∧ Nm 0 w8 w.heap.size false (.slice none 0 0) 0 0 ∧ w.heap.size < w8.heap.size := by
  have z : (w.alloc (.cells #[.bool false, .slice none 0 0] T)).drew.heap.size = w.heap.size + 1 := by simp
  have zs := h.size
  refine ⟨((Below.refl _ _).alloc (Nat.le_refl _) _).drew.trans (h.mono (by omega)), Nm.below (w := (w.alloc (.cells #[.bool false, .slice none 0 0] T)).drew) ?_ h, by omega⟩
  have k := zer_new w T
  exact ⟨k.c0, k.c1, k.f0, k.f1, num_zero _ _⟩
theorem middle {w w9 : World} {T : TypeId} (h : Below (w.alloc (.cells #[.bool false, .slice none 0 0] T)).heap.size (w.alloc (.cells #[.bool false, .slice none 0 0] T)) w9) : Below w.heap.size w w9 ∧ Nm 0 w9 w.heap.size false (.slice none 0 0) 0 0 ∧ w.heap.size < (w.alloc (.cells #[.bool false, .slice none 0 0] T)).heap.size := by
  have z : (w.alloc (.cells #[.bool false, .slice none 0 0] T)).heap.size = w.heap.size + 1 := by simp
  exact ⟨((Below.refl _ _).alloc (Nat.le_refl _) _).trans (h.mono (by omega)), (zer_new w T).below h, by omega⟩
end Go.Proofs.Ytbmmokdccfajmaa.PO
