/-
  Things whose fields lie by places: what a field is, how a list of fields is looked at, written and read (plain); a block that holds a thing of seven cells.
-/
import Derived.Test.YtlgnbnojjfgfmaaBut
import Derived.Test.YtlgnbnojjfgfmaaRunes
import Derived.BigRegion
namespace Go.Proofs.Ytlgnbnojjfgfmaa.PP
open Go.ChangeShapes Go.WideShapes Go.ChangeAt Go.RowKit Go.Lib

abbrev noText : ByteArray := ⟨#[]⟩
/-- A thing: its texts and its numbers, by their places. -/
abbrev ThP := (Nat → ByteArray) × (Nat → Int)
/-- A field: its tag, whether it is a name, its place, its ends. -/
structure Pl where
  tag : Int
  isName : Bool
  off : Nat
  low : Int
  high : Int
/-- A field of a thing is right. -/
def Pl.okB (p : Pl) (t : ThP) : Bool := if p.isName = true then vldB (t.1 p.off) else decide (p.low ≤ t.2 p.off ∧ t.2 p.off ≤ p.high)
/-- The thing without it. -/
def Pl.clr (p : Pl) (t : ThP) : ThP := if p.isName = true then (upd t.1 p.off noText, t.2) else (t.1, upd t.2 p.off 0)
/-- All fields of a list, one behind the other. -/
def rgt : List Pl → Bool → ThP → Bool × ThP
  | [], r, t => (r, t)
  | p :: q, r, t => rgt q (r && p.okB t) (p.clr t)
/-- A thing of a kind of which nothing else is set. -/
def zeroT (k : Int) : ThP := (fun _ => noText, fun j => if j = 0 then k else 0)
/-- A list of fields: their tags differ, their ends are within what numbers may be. -/
structure Good (L : List Pl) : Prop where
  nodup : (35 :: L.map Pl.tag).Nodup
  ends : ∀ p ∈ L, 1 ≤ p.tag ∧ p.tag ≤ 99999 ∧ 0 ≤ p.low ∧ p.high ≤ 1099511627776
  len : L.length ≤ 8
/-- A cell of a thing; nm: which places are names. -/
def cellT (nm : Nat → Bool) (t : ThP) (j : Nat) : Value := if nm j = true then .string (t.1 j) else .int .i64 (t.2 j)
/-- A block that holds a thing. -/
structure ThAt (nm : Nat → Bool) (w : World) (b : Nat) (t : ThP) : Prop where
  cell : ∀ j, j < 7 → w.cell? ⟨b, j, none⟩ = some (cellT nm t j)
  fz : ∀ j, w.frozen? ⟨b, j, none⟩ = false
theorem ThAt.lt {nm : Nat → Bool} {w : World} {b : Nat} {t : ThP} (h : ThAt nm w b t) : b < w.heap.size := World.block_lt_of_cell? _ _ (h.cell 0 (by omega))
theorem ThAt.but {nm : Nat → Bool} {S : Nat → Prop} {w w' : World} {b : Nat} {t : ThP} (h : ThAt nm w b t) (k : But S w w') (hS : ¬ S b) : ThAt nm w' b t :=
  ⟨fun j hj => (k.cell h.lt hS).trans (h.cell j hj), fun j => (k.frozen h.lt hS).trans (h.fz j)⟩
theorem ThAt.still {nm : Nat → Bool} {w w' : World} {b : Nat} {t : ThP} (h : ThAt nm w b t) (k : Below w.heap.size w w') : ThAt nm w' b t := h.but (But.of_below (S := fun _ => False) k) id
theorem ThAt.text {nm : Nat → Bool} {w : World} {b : Nat} {t : ThP} (h : ThAt nm w b t) {j : Nat} (h7 : j < 7) (hn : nm j = true) : w.cell? ⟨b, j, none⟩ = some (.string (t.1 j)) := by
  rw [h.cell _ h7, cellT, if_pos hn]
theorem ThAt.num {nm : Nat → Bool} {w : World} {b : Nat} {t : ThP} (h : ThAt nm w b t) {j : Nat} (h7 : j < 7) (hn : nm j = false) : w.cell? ⟨b, j, none⟩ = some (.int .i64 (t.2 j)) := by
  rw [h.cell _ h7, cellT, if_neg (by rw [hn]; decide)]
theorem ThAt.setText {nm : Nat → Bool} {w : World} {b : Nat} {t : ThP} (h : ThAt nm w b t) {o : Nat} (h7 : o < 7) (hn : nm o = true) (s : ByteArray) : ThAt nm (w.setCell ⟨b, o, none⟩ (.string s)) b (upd t.1 o s, t.2) := by
  refine ⟨fun j hj => ?_, fun j => by rw [World.frozen?_setCell]; exact h.fz j⟩
  by_cases e : j = o
  · subst e
    rw [World.cell?_setCell_same _ _ _ (h.cell _ h7), cellT, if_pos hn]
    dsimp only
    rw [upd_same]
  · rw [World.cell?_setCell_other _ _ _ _ (by simp), h.cell _ hj]
    unfold cellT
    dsimp only
    by_cases c : nm j = true
    · rw [if_pos c, if_pos c, upd_other _ _ e]
    · rw [if_neg c, if_neg c]
theorem ThAt.setNum {nm : Nat → Bool} {w : World} {b : Nat} {t : ThP} (h : ThAt nm w b t) {o : Nat} (h7 : o < 7) (hn : nm o = false) (n : Int) : ThAt nm (w.setCell ⟨b, o, none⟩ (.int .i64 n)) b (t.1, upd t.2 o n) := by
  refine ⟨fun j hj => ?_, fun j => by rw [World.frozen?_setCell]; exact h.fz j⟩
  by_cases e : j = o
  · subst e
    rw [World.cell?_setCell_same _ _ _ (h.cell _ h7), cellT, if_neg (by rw [hn]; decide)]
    dsimp only
    rw [upd_same]
  · rw [World.cell?_setCell_other _ _ _ _ (by simp), h.cell _ hj]
    unfold cellT
    dsimp only
    by_cases c : nm j = true
    · rw [if_pos c, if_pos c]
    · rw [if_neg c, if_neg c, upd_other _ _ e]
/-- A text at a place that the block does not hold. -/
theorem ThAt.beyond {nm : Nat → Bool} {w : World} {b : Nat} {t : ThP} (h : ThAt nm w b t) {o : Nat} (h7 : 7 ≤ o) (s : ByteArray) : ThAt nm w b (upd t.1 o s, t.2) := by
  refine ⟨fun j hj => ?_, h.fz⟩
  rw [h.cell _ hj]
  unfold cellT
  dsimp only
  rw [upd_other _ _ (by omega)]
end Go.Proofs.Ytlgnbnojjfgfmaa.PP
