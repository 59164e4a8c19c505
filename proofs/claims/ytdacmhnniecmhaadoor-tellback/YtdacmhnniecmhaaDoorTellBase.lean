/-
  Tells and the fields of their kinds (plain); a block that holds a tell; the contracts of tell's isKind, refusal and fieldsOf.
-/
import Derived.Test.YtdacmhnniecmhaaDoorBut
import Derived.BigRegion
namespace Go.Proofs.YtdacmhnniecmhaaDoor
open Go.ChangeShapes Go.WideShapes Go.ChangeAt Go.RowKit Go.Lib

/-- A tell: its texts and its numbers, by their places. -/
abbrev TellP := (Nat → ByteArray) × (Nat → Int)
/-- A field of a tell: its tag, whether it is a name, its place, its ends. -/
structure Pl where
  tag : Int
  isName : Bool
  off : Nat
  low : Int
  high : Int
/-- The fields of a kind. -/
def listK (k : Int) : List Pl :=
  if k = 1 then [⟨11, true, 1, 0, 0⟩, ⟨17, true, 2, 0, 0⟩, ⟨39, false, 3, 0, 9⟩, ⟨32, false, 4, 0, 1099511627776⟩, ⟨31, false, 5, 0, 1099511627776⟩, ⟨14, false, 6, 0, 1099511627776⟩, ⟨151, false, 7, 0, 1099511627776⟩, ⟨103, false, 9, 0, 999⟩]
  else if k = 2 then [⟨11, true, 1, 0, 0⟩, ⟨39, false, 3, 0, 9⟩, ⟨103, false, 9, 0, 999⟩]
  else if k = 3 then [⟨371, false, 8, 0, 99999⟩, ⟨373, false, 9, 0, 999⟩]
  else if k = 4 then [⟨371, false, 8, 0, 99999⟩, ⟨380, false, 9, 0, 999⟩]
  else []
theorem listK_1 : listK 1 = [⟨11, true, 1, 0, 0⟩, ⟨17, true, 2, 0, 0⟩, ⟨39, false, 3, 0, 9⟩, ⟨32, false, 4, 0, 1099511627776⟩, ⟨31, false, 5, 0, 1099511627776⟩, ⟨14, false, 6, 0, 1099511627776⟩, ⟨151, false, 7, 0, 1099511627776⟩, ⟨103, false, 9, 0, 999⟩] := rfl
theorem listK_2 : listK 2 = [⟨11, true, 1, 0, 0⟩, ⟨39, false, 3, 0, 9⟩, ⟨103, false, 9, 0, 999⟩] := rfl
theorem listK_3 : listK 3 = [⟨371, false, 8, 0, 99999⟩, ⟨373, false, 9, 0, 999⟩] := rfl
theorem listK_4 : listK 4 = [⟨371, false, 8, 0, 99999⟩, ⟨380, false, 9, 0, 999⟩] := rfl
theorem kinds {k : Int} (h1 : 1 ≤ k) (h4 : k ≤ 4) : k = 1 ∨ k = 2 ∨ k = 3 ∨ k = 4 := by omega
/-- What is known of every list of fields. -/
theorem list_nodup (k : Int) : (35 :: (listK k).map Pl.tag).Nodup := by
  unfold listK
  repeat' split
  all_goals decide
theorem list_ends (k : Int) : ∀ p ∈ listK k, 1 ≤ p.tag ∧ p.tag ≤ 99999 ∧ 0 ≤ p.low ∧ p.high ≤ 1099511627776 ∧ p.off < 10 ∧ 1 ≤ p.off ∧ (p.isName = true ↔ p.off = 1 ∨ p.off = 2) := by
  unfold listK
  repeat' split
  all_goals decide
theorem list_len (k : Int) : (listK k).length ≤ 8 := by
  unfold listK
  repeat' split
  all_goals decide
/-- A cell of a tell. -/
def cellT (t : TellP) (j : Nat) : Value := if j = 1 ∨ j = 2 then .string (t.1 j) else .int .i64 (t.2 j)
/-- A block that holds a tell. -/
structure TellAt (w : World) (b : Nat) (t : TellP) : Prop where
  cell : ∀ j, j < 10 → w.cell? ⟨b, j, none⟩ = some (cellT t j)
  fz : ∀ j, w.frozen? ⟨b, j, none⟩ = false
theorem TellAt.lt {w : World} {b : Nat} {t : TellP} (h : TellAt w b t) : b < w.heap.size := World.block_lt_of_cell? _ _ (h.cell 0 (by omega))
theorem TellAt.kind {w : World} {b : Nat} {t : TellP} (h : TellAt w b t) : w.cell? ⟨b, 0, none⟩ = some (.int .i64 (t.2 0)) := h.cell 0 (by omega)
theorem TellAt.but {S : Nat → Prop} {w w' : World} {b : Nat} {t : TellP} (h : TellAt w b t) (k : But S w w') (hS : ¬ S b) : TellAt w' b t :=
  ⟨fun j hj => (k.cell h.lt hS).trans (h.cell j hj), fun j => (k.frozen h.lt hS).trans (h.fz j)⟩
theorem TellAt.still {w w' : World} {b : Nat} {t : TellP} (h : TellAt w b t) (k : Below w.heap.size w w') : TellAt w' b t := h.but (But.of_below (S := fun _ => False) k) id
theorem TellAt.text {w : World} {b : Nat} {t : TellP} (h : TellAt w b t) {p : Pl} (h10 : p.off < 10) (hn : p.isName = true ↔ p.off = 1 ∨ p.off = 2) (hp : p.isName = true) : w.cell? ⟨b, p.off, none⟩ = some (.string (t.1 p.off)) := by
  rw [h.cell _ h10, cellT, if_pos (hn.1 hp)]
theorem TellAt.num {w : World} {b : Nat} {t : TellP} (h : TellAt w b t) {p : Pl} (h10 : p.off < 10) (hn : p.isName = true ↔ p.off = 1 ∨ p.off = 2) (hp : p.isName = false) : w.cell? ⟨b, p.off, none⟩ = some (.int .i64 (t.2 p.off)) := by
  rw [h.cell _ h10, cellT, if_neg (fun e => by rw [hn.2 e] at hp; cases hp)]
theorem TellAt.setText {w : World} {b : Nat} {t : TellP} (h : TellAt w b t) {p : Pl} (h10 : p.off < 10) (hn : p.isName = true ↔ p.off = 1 ∨ p.off = 2) (hp : p.isName = true) (s : ByteArray) : TellAt (w.setCell ⟨b, p.off, none⟩ (.string s)) b (upd t.1 p.off s, t.2) := by
  refine ⟨fun j hj => ?_, fun j => by rw [World.frozen?_setCell]; exact h.fz j⟩
  by_cases e : j = p.off
  · subst e
    rw [World.cell?_setCell_same _ _ _ (h.cell _ h10), cellT, if_pos (hn.1 hp)]
    dsimp only
    rw [upd_same]
  · rw [World.cell?_setCell_other _ _ _ _ (by simp), h.cell _ hj]
    unfold cellT
    dsimp only
    by_cases c : j = 1 ∨ j = 2
    · rw [if_pos c, if_pos c, upd_other _ _ e]
    · rw [if_neg c, if_neg c]
theorem TellAt.setNum {w : World} {b : Nat} {t : TellP} (h : TellAt w b t) {p : Pl} (h10 : p.off < 10) (hn : p.isName = true ↔ p.off = 1 ∨ p.off = 2) (hp : p.isName = false) (n : Int) : TellAt (w.setCell ⟨b, p.off, none⟩ (.int .i64 n)) b (t.1, upd t.2 p.off n) := by
  have nn : ¬ (p.off = 1 ∨ p.off = 2) := fun e => by rw [hn.2 e] at hp; cases hp
  refine ⟨fun j hj => ?_, fun j => by rw [World.frozen?_setCell]; exact h.fz j⟩
  by_cases e : j = p.off
  · subst e
    rw [World.cell?_setCell_same _ _ _ (h.cell _ h10), cellT, if_neg nn]
    dsimp only
    rw [upd_same]
  · rw [World.cell?_setCell_other _ _ _ _ (by simp), h.cell _ hj]
    unfold cellT
    dsimp only
    by_cases c : j = 1 ∨ j = 2
    · rw [if_pos c, if_pos c]
    · rw [if_neg c, if_neg c, upd_other _ _ e]
theorem TellAt.all {w : World} {b : Nat} {t : TellP} (h : TellAt w b t) : w.cell? ⟨b, 0, none⟩ = some (.int .i64 (t.2 0)) ∧ w.cell? ⟨b, 1, none⟩ = some (.string (t.1 1)) ∧ w.cell? ⟨b, 2, none⟩ = some (.string (t.1 2)) ∧ w.cell? ⟨b, 3, none⟩ = some (.int .i64 (t.2 3)) ∧ w.cell? ⟨b, 4, none⟩ = some (.int .i64 (t.2 4)) ∧ w.cell? ⟨b, 5, none⟩ = some (.int .i64 (t.2 5)) ∧ w.cell? ⟨b, 6, none⟩ = some (.int .i64 (t.2 6)) ∧ w.cell? ⟨b, 7, none⟩ = some (.int .i64 (t.2 7)) ∧ w.cell? ⟨b, 8, none⟩ = some (.int .i64 (t.2 8)) ∧ w.cell? ⟨b, 9, none⟩ = some (.int .i64 (t.2 9)) := ⟨h.cell 0 (by omega), h.cell 1 (by omega), h.cell 2 (by omega), h.cell 3 (by omega), h.cell 4 (by omega), h.cell 5 (by omega), h.cell 6 (by omega), h.cell 7 (by omega), h.cell 8 (by omega), h.cell 9 (by omega)⟩
/-- A new block that holds a tell. -/
abbrev boxT (w : World) (t : TellP) : World := w.alloc (.cells #[.int .i64 (t.2 0), .string (t.1 1), .string (t.1 2), .int .i64 (t.2 3), .int .i64 (t.2 4), .int .i64 (t.2 5), .int .i64 (t.2 6), .int .i64 (t.2 7), .int .i64 (t.2 8), .int .i64 (t.2 9)] 23)
theorem boxT_below (w : World) (t : TellP) : Below w.heap.size w (boxT w t) := (Below.refl _ w).alloc (Nat.le_refl _) _
theorem TellAt.box (w : World) (t : TellP) : TellAt (boxT w t) w.heap.size t := by
  refine ⟨fun j hj => ?_, fun j => by simp⟩
  rcases (show j = 0 ∨ j = 1 ∨ j = 2 ∨ j = 3 ∨ j = 4 ∨ j = 5 ∨ j = 6 ∨ j = 7 ∨ j = 8 ∨ j = 9 by omega) with rfl | rfl | rfl | rfl | rfl | rfl | rfl | rfl | rfl | rfl <;> simp [cellT]
set_option maxHeartbeats 1000000 in
theorem isKind_any (k : Int) (w : World) : Calls Tryd.prog 22 #[.int .i64 k] w fun e w' => e = .returned (.bool (decide (1 ≤ k ∧ k ≤ 4))) ∧ w' = w := by
  by_cases h1 : 1 ≤ k
  · by_cases h2 : k ≤ 4
    · rw [decide_eq_true ⟨h1, h2⟩]
      go_enter Tryd.func22, Tryd.ntmps22
      go_wp2
      go_ret
      exact ⟨rfl, rfl⟩
    · rw [decide_eq_false (fun h => h2 h.2)]
      go_enter Tryd.func22, Tryd.ntmps22
      go_wp2
      go_ret
      exact ⟨rfl, rfl⟩
  · rw [decide_eq_false (fun h => h1 h.1)]
    go_enter Tryd.func22, Tryd.ntmps22
    go_wp2
    go_ret
    exact ⟨rfl, rfl⟩
/-- The cells of a field: a pointer into the block b, to a name or to a number. -/
def plCells (b : Nat) (p : Pl) : List Value := [.int .i64 p.tag, .pointer (if p.isName = true then some ⟨b, p.off, none⟩ else none), .pointer (if p.isName = true then none else some ⟨b, p.off, none⟩), .int .i64 p.low, .int .i64 p.high]
/-- A block that holds a list of fields. -/
def Pls (w : World) (sb b : Nat) (L : List Pl) : Prop := ∀ i, (h : i < L.length) → ∀ j, j < 5 → w.cell? ⟨sb, i * 5 + j, none⟩ = (plCells b L[i])[j]?
set_option maxHeartbeats 4000000 in
theorem refusal_any (b : Nat) (g : Int) (w : World) :
    Calls Tryd.prog 58 #[.pointer (some ⟨b, 0, none⟩), .int .i64 g] w fun e w' => e = .returned (.slice (some ⟨w.heap.size, 0, none⟩) 2 2) ∧ Pls w' w.heap.size b [⟨371, false, 8, 0, 99999⟩, ⟨g, false, 9, 0, 999⟩] ∧ Below w.heap.size w w' := by
  go_enter Tryd.func58, Tryd.ntmps58
  go_wp2_with fail
  go_region
  all_goals (
    go_wp2_with fail
    go_ret
    refine ⟨rfl, ?_, ?_⟩
    · intro i hi j hj
      rcases (show i = 0 ∨ i = 1 by simp at hi; omega) with rfl | rfl <;> rcases (show j = 0 ∨ j = 1 ∨ j = 2 ∨ j = 3 ∨ j = 4 by omega) with rfl | rfl | rfl | rfl | rfl <;> simp [plCells]
    · first | exact (below_drewN _ 1 w).alloc (Nat.le_refl _) _ | trace_state)
/-- What fieldsOf answers. -/
def FldsOf (b : Nat) (L : List Pl) (w : World) (e : Ending) (w' : World) : Prop := e = .returned (.slice (some ⟨w.heap.size, 0, none⟩) L.length L.length) ∧ Pls w' w.heap.size b L ∧ Below w.heap.size w w'
set_option maxRecDepth 100000 in
set_option maxHeartbeats 8000000 in
theorem fieldsOf_1 (b : Nat) (w : World) (c0 : w.cell? ⟨b, 0, none⟩ = some (.int .i64 1)) :
    Calls Tryd.prog 39 #[.pointer (some ⟨b, 0, none⟩)] w (FldsOf b (listK 1) w) := by
  rw [listK_1]
  go_enter Tryd.func39, Tryd.ntmps39
  go_wp2_with fail
  go_region
  all_goals (
    go_wp2_with fail
    go_ret
    refine ⟨rfl, ?_, (below_drewN _ 1 w).alloc (Nat.le_refl _) _⟩
    intro i hi j hj
    rcases (show i = 0 ∨ i = 1 ∨ i = 2 ∨ i = 3 ∨ i = 4 ∨ i = 5 ∨ i = 6 ∨ i = 7 by simp at hi; omega) with rfl | rfl | rfl | rfl | rfl | rfl | rfl | rfl <;> rcases (show j = 0 ∨ j = 1 ∨ j = 2 ∨ j = 3 ∨ j = 4 by omega) with rfl | rfl | rfl | rfl | rfl <;> simp [plCells])
set_option maxRecDepth 100000 in
set_option maxHeartbeats 8000000 in
theorem fieldsOf_2 (b : Nat) (w : World) (c0 : w.cell? ⟨b, 0, none⟩ = some (.int .i64 2)) :
    Calls Tryd.prog 39 #[.pointer (some ⟨b, 0, none⟩)] w (FldsOf b (listK 2) w) := by
  rw [listK_2]
  go_enter Tryd.func39, Tryd.ntmps39
  go_wp2_with fail
  go_region
  all_goals (
    go_wp2_with fail
    go_ret
    refine ⟨rfl, ?_, (below_drewN _ 1 w).alloc (Nat.le_refl _) _⟩
    intro i hi j hj
    rcases (show i = 0 ∨ i = 1 ∨ i = 2 by simp at hi; omega) with rfl | rfl | rfl <;> rcases (show j = 0 ∨ j = 1 ∨ j = 2 ∨ j = 3 ∨ j = 4 by omega) with rfl | rfl | rfl | rfl | rfl <;> simp [plCells])
set_option maxHeartbeats 2000000 in
theorem fieldsOf_3 (b : Nat) (w : World) (c0 : w.cell? ⟨b, 0, none⟩ = some (.int .i64 3)) :
    Calls Tryd.prog 39 #[.pointer (some ⟨b, 0, none⟩)] w (FldsOf b (listK 3) w) := by
  rw [listK_3]
  have F := refusal_any b 373 w
  go_enter Tryd.func39, Tryd.ntmps39
  go_wp2_with fail
  refine F.mono ?_
  rintro e w1 ⟨rfl, h1, b1⟩
  go_wp2_with fail
  go_ret
  exact ⟨rfl, h1, b1⟩
set_option maxHeartbeats 2000000 in
theorem fieldsOf_4 (b : Nat) (w : World) (c0 : w.cell? ⟨b, 0, none⟩ = some (.int .i64 4)) :
    Calls Tryd.prog 39 #[.pointer (some ⟨b, 0, none⟩)] w (FldsOf b (listK 4) w) := by
  rw [listK_4]
  have F := refusal_any b 380 w
  go_enter Tryd.func39, Tryd.ntmps39
  go_wp2_with fail
  refine F.mono ?_
  rintro e w1 ⟨rfl, h1, b1⟩
  go_wp2_with fail
  go_ret
  exact ⟨rfl, h1, b1⟩
theorem fieldsOf_any {k : Int} (h1 : 1 ≤ k) (h4 : k ≤ 4) (b : Nat) (w : World) (c0 : w.cell? ⟨b, 0, none⟩ = some (.int .i64 k)) :
    Calls Tryd.prog 39 #[.pointer (some ⟨b, 0, none⟩)] w (FldsOf b (listK k) w) := by
  rcases kinds h1 h4 with rfl | rfl | rfl | rfl
  · exact fieldsOf_1 b w c0
  · exact fieldsOf_2 b w c0
  · exact fieldsOf_3 b w c0
  · exact fieldsOf_4 b w c0
end Go.Proofs.YtdacmhnniecmhaaDoor
