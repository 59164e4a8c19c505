/-
  The frame 'all blocks but those of S are as they were', and its laws; plain facts on cells and draws.
-/
import Derived.WalkKit
import Derived.WalkSpells
import Derived.WalkLawsBesides
import Derived.ProofKit
import Derived.OpenShut
import Derived.Outline
import Derived.BigQuiet
import Derived.Deep.RegionHeld3
import Derived.Deep.RegionWith
import Derived.Deep.CutRange
import Derived.Deep.CutBlock
import Derived.Deep.DeepCutAuto
import Derived.Deep.LoopGhost
import Derived.Lib.Walk
import Derived.Test.YtdacfnodihannaaGreatRows
namespace Go.Proofs.YtdacfnodihannaaGreat
open Go.ChangeShapes Go.WideShapes Go.ChangeAt Go.RowKit Go.Lib

/-- All blocks but those of S are as they were. -/
structure But (S : Nat → Prop) (w w' : World) : Prop where
  os : w'.os = w.os
  tape : w'.tape = w.tape
  output : w'.output = w.output
  size : w.heap.size ≤ w'.heap.size
  block : ∀ k, k < w.heap.size → ¬ S k → w'.heap[k]? = w.heap[k]?
theorem But.refl (S : Nat → Prop) (w : World) : But S w w := ⟨rfl, rfl, rfl, Nat.le_refl _, fun _ _ _ => rfl⟩
theorem But.trans {S T : Nat → Prop} {a b c : World} (h : But S a b) (k : But T b c) (hT : ∀ i, i < a.heap.size → T i → S i) : But S a c :=
  ⟨k.os.trans h.os, k.tape.trans h.tape, k.output.trans h.output, Nat.le_trans h.size k.size, fun i hi hS => (k.block i (Nat.lt_of_lt_of_le hi h.size) (fun t => hS (hT i hi t))).trans (h.block i hi hS)⟩
theorem But.mono {S T : Nat → Prop} {a b : World} (h : But S a b) (hT : ∀ i, i < a.heap.size → S i → T i) : But T a b := ⟨h.os, h.tape, h.output, h.size, fun i hi hS => h.block i hi (fun t => hS (hT i hi t))⟩
theorem But.of_below {S : Nat → Prop} {a b : World} (h : Below a.heap.size a b) : But S a b := ⟨h.os, h.tape, h.output, h.size, fun i hi _ => h.block i hi⟩
theorem But.below {S : Nat → Prop} {a b : World} {n : Nat} (h : But S a b) (hn : n ≤ a.heap.size) (hS : ∀ i, S i → n ≤ i) : Below n a b :=
  ⟨h.os, h.tape, h.output, h.size, fun i hi => h.block i (Nat.lt_of_lt_of_le hi hn) (fun t => absurd (hS i t) (by omega))⟩
theorem But.cell {S : Nat → Prop} {a b : World} (h : But S a b) {k o : Nat} (hk : k < a.heap.size) (hS : ¬ S k) : b.cell? ⟨k, o, none⟩ = a.cell? ⟨k, o, none⟩ := by
  have := h.block k hk hS
  simp only [World.cell?, this]
theorem But.frozen {S : Nat → Prop} {a b : World} (h : But S a b) {k o : Nat} (hk : k < a.heap.size) (hS : ¬ S k) : b.frozen? ⟨k, o, none⟩ = a.frozen? ⟨k, o, none⟩ := by
  have := h.block k hk hS
  simp only [World.frozen?, this]
theorem heap_setCells (b : Nat) : ∀ (vs : List Value) (o : Nat) (w : World) (k : Nat), k ≠ b → (w.setCells b o vs).heap[k]? = w.heap[k]?
  | [], _, _, _, _ => rfl
  | v :: r, o, w, k, h => by rw [World.setCells, heap_setCells b r _ _ k h]; exact Below.heap_setCell _ _ _ _ h
theorem size_setCells (b : Nat) : ∀ (vs : List Value) (o : Nat) (w : World), (w.setCells b o vs).heap.size = w.heap.size
  | [], _, _ => rfl
  | v :: r, o, w => by rw [World.setCells, size_setCells b r]; simp
theorem rest_setCells (b : Nat) : ∀ (vs : List Value) (o : Nat) (w : World), (w.setCells b o vs).os = w.os ∧ (w.setCells b o vs).tape = w.tape ∧ (w.setCells b o vs).output = w.output
  | [], _, _ => ⟨rfl, rfl, rfl⟩
  | v :: r, o, w => by rw [World.setCells]; exact rest_setCells b r _ _
theorem But.setCells {S : Nat → Prop} {a w : World} (h : But S a w) (b o : Nat) (vs : List Value) (hb : b < a.heap.size → S b) : But S a (w.setCells b o vs) := by
  obtain ⟨e1, e2, e3⟩ := rest_setCells b vs o w
  exact ⟨e1.trans h.os, e2.trans h.tape, e3.trans h.output, by rw [size_setCells]; exact h.size, fun k hk hS => by rw [heap_setCells b vs o w k (fun e => hS (by subst e; exact hb hk))]; exact h.block k hk hS⟩
theorem But.setCell {S : Nat → Prop} {a w : World} (h : But S a w) (b o : Nat) (v : Value) (hb : b < a.heap.size → S b) : But S a (w.setCell ⟨b, o, none⟩ v) :=
  h.setCells b o [v] hb
theorem But.drew {S : Nat → Prop} {a w : World} (h : But S a w) : But S a w.drew := ⟨h.os, h.tape, h.output, h.size, h.block⟩
theorem But.alloc {S : Nat → Prop} {a w : World} (h : But S a w) (o : Obj) : But S a (w.alloc o) :=
  h.trans (T := fun _ => False) (But.of_below ((Below.refl _ w).alloc (Nat.le_refl _) _)) (fun _ _ h => h.elim)
theorem But.drewN {S : Nat → Prop} {a w : World} (h : But S a w) (q : Nat) : But S a (w.drewN q) := ⟨h.os, h.tape, h.output, h.size, h.block⟩

theorem below_drewN (n q : Nat) (w : World) : Below n w (w.drewN q) := ⟨rfl, rfl, rfl, Nat.le_refl _, fun _ _ => rfl⟩
theorem below_more {n : Nat} {a w : World} (h : Below n a w) (q : Nat) : Below n a (w.drewN q) := ⟨h.os, h.tape, h.output, h.size, h.block⟩
/-- A sequence with another thing at place i. -/
def upd {α : Type} (g : Nat → α) (i : Nat) (a : α) : Nat → α := fun j => if j = i then a else g j
theorem upd_same {α : Type} (g : Nat → α) (i : Nat) (a : α) : upd g i a i = a := by simp [upd]
theorem upd_other {α : Type} (g : Nat → α) {i j : Nat} (a : α) (h : j ≠ i) : upd g i a j = g j := by simp [upd, h]
end Go.Proofs.YtdacfnodihannaaGreat
