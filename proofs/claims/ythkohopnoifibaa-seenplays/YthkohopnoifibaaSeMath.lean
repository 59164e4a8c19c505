/-
  Executions that were met, by their names, in plain words: what each call answers, and what was met behind it.
-/
import Derived.Test.YthkohopnoifibaaRunes
import Derived.Test.YthkohopnoifibaaOwnRows
namespace Go.Proofs.Ythkohopnoifibaa.SE
open Go.ChangeShapes Go.WideShapes Go.ChangeAt Go.RowKit

/-- An execution: its order, quantity, price; is it busted? -/
structure Xc where
  o : ByteArray
  q : Int
  p : Int
  k : Bool
/-- The empty one. -/
def x0 : Xc := ⟨⟨#[]⟩, 0, 0, false⟩
/-- What is told of an execution that may be there. -/
def tell (o : Option Xc) : Xc := o.getD x0
/-- An execution as busted, or not. -/
def asB (x : Xc) (k : Bool) : Xc := ⟨x.o, x.q, x.p, k⟩
/-- Executions that were met: the room, how many, each by its name. -/
structure Sn where
  r : Nat
  c : Nat
  L : ByteArray → Option Xc
structure Good (b : Sn) : Prop where
  r1 : 1 ≤ b.r
  r2 : b.r ≤ 4096
  c1 : b.c ≤ b.r
/-- L with another execution at t. -/
def setL (L : ByteArray → Option Xc) (t : ByteArray) (x : Xc) : ByteArray → Option Xc := fun u => if u = t then some x else L u
theorem setL_same (L : ByteArray → Option Xc) (t : ByteArray) (x : Xc) : setL L t x t = some x := if_pos rfl
theorem setL_other (L : ByteArray → Option Xc) {t u : ByteArray} (x : Xc) (h : u ≠ t) : setL L t x u = L u := if_neg h
def newS (r : Nat) : Sn := ⟨r, 0, fun _ => none⟩
/-- Put: its answer, what was met behind it. -/
def putE (b : Sn) (s : ByteArray) : Int := if vldB s = false then 43 else if (b.L s).isSome = true then 41 else if b.r ≤ b.c then 40 else 0
def putS (b : Sn) (s : ByteArray) (x : Xc) : Sn := if putE b s = 0 then ⟨b.r, b.c + 1, setL b.L s (asB x false)⟩ else b
/-- Bust: its answer, what was met behind it. -/
def bstE (b : Sn) (s : ByteArray) : Int := if (b.L s).isSome = false then 42 else if (tell (b.L s)).k = true then 41 else 0
def bstS (b : Sn) (s : ByteArray) : Sn := if bstE b s = 0 then ⟨b.r, b.c, setL b.L s (asB (tell (b.L s)) true)⟩ else b
theorem put_name {b : Sn} {s : ByteArray} (h : vldB s = false) : putE b s = 43 := if_pos h
theorem put_twice {b : Sn} {s : ByteArray} (h : vldB s = true) (h1 : (b.L s).isSome = true) : putE b s = 41 := by
  unfold putE
  rw [if_neg (by rw [h]; exact Bool.noConfusion), if_pos h1]
theorem put_full {b : Sn} {s : ByteArray} (h : vldB s = true) (h1 : (b.L s).isSome = false) (h2 : b.r ≤ b.c) : putE b s = 40 := by
  unfold putE
  rw [if_neg (by rw [h]; exact Bool.noConfusion), if_neg (by rw [h1]; exact Bool.noConfusion), if_pos h2]
theorem put_ok {b : Sn} {s : ByteArray} (h : vldB s = true) (h1 : (b.L s).isSome = false) (h2 : ¬ b.r ≤ b.c) : putE b s = 0 := by
  unfold putE
  rw [if_neg (by rw [h]; exact Bool.noConfusion), if_neg (by rw [h1]; exact Bool.noConfusion), if_neg h2]
theorem put_zero {b : Sn} {s : ByteArray} (h : putE b s = 0) : vldB s = true ∧ (b.L s).isSome = false ∧ b.c < b.r := by
  unfold putE at h
  cases h1 : vldB s
  · rw [if_pos h1] at h; exact absurd h (by omega)
  rw [if_neg (by rw [h1]; exact Bool.noConfusion)] at h
  cases h2 : (b.L s).isSome
  · rw [if_neg (by rw [h2]; exact Bool.noConfusion)] at h
    by_cases h3 : b.r ≤ b.c
    · rw [if_pos h3] at h; exact absurd h (by omega)
    · exact ⟨rfl, rfl, by omega⟩
  · rw [if_pos h2] at h; exact absurd h (by omega)
theorem putS_ok {b : Sn} {s : ByteArray} {x : Xc} (h : putE b s = 0) : putS b s x = ⟨b.r, b.c + 1, setL b.L s (asB x false)⟩ := if_pos h
theorem putS_no {b : Sn} {s : ByteArray} {x : Xc} (h : putE b s ≠ 0) : putS b s x = b := if_neg h
theorem bst_no {b : Sn} {s : ByteArray} (h : (b.L s).isSome = false) : bstE b s = 42 := if_pos h
theorem bst_twice {b : Sn} {s : ByteArray} (h : (b.L s).isSome = true) (h1 : (tell (b.L s)).k = true) : bstE b s = 41 := by
  unfold bstE
  rw [if_neg (by rw [h]; exact Bool.noConfusion), if_pos h1]
theorem bst_ok {b : Sn} {s : ByteArray} (h : (b.L s).isSome = true) (h1 : (tell (b.L s)).k = false) : bstE b s = 0 := by
  unfold bstE
  rw [if_neg (by rw [h]; exact Bool.noConfusion), if_neg (by rw [h1]; exact Bool.noConfusion)]
theorem bstS_ok {b : Sn} {s : ByteArray} (h : bstE b s = 0) : bstS b s = ⟨b.r, b.c, setL b.L s (asB (tell (b.L s)) true)⟩ := if_pos h
theorem bstS_no {b : Sn} {s : ByteArray} (h : bstE b s ≠ 0) : bstS b s = b := if_neg h
theorem new_good {r : Nat} (h1 : 1 ≤ r) (h2 : r ≤ 4096) : Good (newS r) := ⟨h1, h2, Nat.zero_le _⟩
theorem put_room (b : Sn) (s : ByteArray) (x : Xc) : (putS b s x).r = b.r := by unfold putS; split <;> rfl
theorem bst_room (b : Sn) (s : ByteArray) : (bstS b s).r = b.r := by unfold bstS; split <;> rfl
theorem bst_count (b : Sn) (s : ByteArray) : (bstS b s).c = b.c := by unfold bstS; split <;> rfl
theorem Good.put {b : Sn} (h : Good b) (s : ByteArray) (x : Xc) : Good (putS b s x) := by
  by_cases e : putE b s = 0
  · rw [putS_ok e]
    exact ⟨h.r1, h.r2, by have := (put_zero e).2.2; show b.c + 1 ≤ b.r; omega⟩
  · rw [putS_no e]; exact h
theorem Good.bst {b : Sn} (h : Good b) (s : ByteArray) : Good (bstS b s) := ⟨by rw [bst_room]; exact h.r1, by rw [bst_room]; exact h.r2, by rw [bst_room, bst_count]; exact h.c1⟩
end Go.Proofs.Ythkohopnoifibaa.SE
