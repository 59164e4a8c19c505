/-
  A body's form in memory, and the contracts of what only looks at it: made, Kind, Has, Done.
-/
import Derived.Test.YtdacmhnniecmhaaDoorBodyMap
import Derived.Test.YtdacmhnniecmhaaDoorIntRows
import Derived.Test.YtdacmhnniecmhaaDoorTagForm
import Derived.Deep.QuietTactic
import Derived.Laws.Cover3
namespace Go.Proofs.YtdacmhnniecmhaaDoor
open Go.ChangeShapes Go.WideShapes Go.ChangeAt Go.RowKit Go.Lib

/-- A form at block fb: its map at block bm, its tags' slice tv, the first error and its tag; all of it from block n0 on. -/
structure Frm (n0 : Nat) (w : World) (fb bm n : Nat) (tv : Value) (tags : List Int) (L : Int → Option (ByteArray × Bool)) (at_ e : Int) : Prop where
  c0 : w.cell? ⟨fb, 0, none⟩ = some (.map (some bm))
  c1 : w.cell? ⟨fb, 1, none⟩ = some tv
  c2 : w.cell? ⟨fb, 2, none⟩ = some (.int .i64 at_)
  c3 : w.cell? ⟨fb, 3, none⟩ = some (.int .i64 e)
  f1 : w.frozen? ⟨fb, 1, none⟩ = false
  f2 : w.frozen? ⟨fb, 2, none⟩ = false
  f3 : w.frozen? ⟨fb, 3, none⟩ = false
  map : FMap w bm n L
  own : w.ownsRow n0 3 1 tv tags.length (its tags)
  lof : n0 ≤ fb
  lom : n0 ≤ bm
  ne : bm ≠ fb
  nf : tv.ownBlock ≠ some fb
theorem Frm.lt {n0 : Nat} {w : World} {fb bm n : Nat} {tv : Value} {tags : List Int} {L : Int → Option (ByteArray × Bool)} {at_ e : Int} (h : Frm n0 w fb bm n tv tags L at_ e) : fb < w.heap.size := World.block_lt_of_cell? _ _ h.c0
theorem Frm.nm {n0 : Nat} {w : World} {fb bm n : Nat} {tv : Value} {tags : List Int} {L : Int → Option (ByteArray × Bool)} {at_ e : Int} (h : Frm n0 w fb bm n tv tags L at_ e) : tv.ownBlock ≠ some bm := by
  intro k
  obtain ⟨D, ⟨es, clock, hb, _⟩, _⟩ := h.map
  rcases h.own.2 with ⟨rfl, _⟩ | ⟨g, cap, cur, rfl, _, hg, _⟩
  · simp [Value.ownBlock] at k
  · simp only [Value.ownBlock, Option.some.injEq] at k
    subst k
    rw [hb] at hg
    simp at hg
theorem Frm.kept {n0 : Nat} {w w' : World} {fb bm n : Nat} {tv : Value} {tags : List Int} {L : Int → Option (ByteArray × Bool)} {at_ e : Int} {S : Nat → Prop} (h : Frm n0 w fb bm n tv tags L at_ e) (k : But S w w') (hS : ∀ i, n0 ≤ i → i < w.heap.size → ¬ S i) : Frm n0 w' fb bm n tv tags L at_ e where
  c0 := (k.cell h.lt (hS _ h.lof h.lt)).trans h.c0
  c1 := (k.cell h.lt (hS _ h.lof h.lt)).trans h.c1
  c2 := (k.cell h.lt (hS _ h.lof h.lt)).trans h.c2
  c3 := (k.cell h.lt (hS _ h.lof h.lt)).trans h.c3
  f1 := (k.frozen h.lt (hS _ h.lof h.lt)).trans h.f1
  f2 := (k.frozen h.lt (hS _ h.lof h.lt)).trans h.f2
  f3 := (k.frozen h.lt (hS _ h.lof h.lt)).trans h.f3
  map := h.map.kept k (hS _ h.lom h.map.lt)
  own := own_kept h.own k (fun g hg => hS g (h.own.lt g hg).1 (h.own.lt g hg).2)
  lof := h.lof
  lom := h.lom
  ne := h.ne
  nf := h.nf
theorem Frm.still {n0 : Nat} {w w' : World} {fb bm n : Nat} {tv : Value} {tags : List Int} {L : Int → Option (ByteArray × Bool)} {at_ e : Int} (h : Frm n0 w fb bm n tv tags L at_ e) (k : Below w.heap.size w w') : Frm n0 w' fb bm n tv tags L at_ e :=
  h.kept (But.of_below (S := fun _ => False) k) (fun _ _ _ => id)

theorem map_some (bm : Nat) (w : World) : (binOp .neq 95 (.map (some bm)) (.map none)).run Tryd.prog w = .ok (.bool true) w := run_neq_map_nil (P := Tryd.prog) w _ _ _ (some bm) Tryd.underlying95
theorem map_none (w : World) : (binOp .neq 95 (.map none) (.map none)).run Tryd.prog w = .ok (.bool false) w := run_neq_map_nil (P := Tryd.prog) w _ _ _ none Tryd.underlying95
set_option maxHeartbeats 1000000 in
theorem made_yes {n0 : Nat} {w : World} {fb bm n : Nat} {tv : Value} {tags : List Int} {L : Int → Option (ByteArray × Bool)} {at_ e : Int} (h : Frm n0 w fb bm n tv tags L at_ e) :
    Calls Tryd.prog 50 #[.pointer (some ⟨fb, 0, none⟩)] w fun e w' => e = .returned (.bool true) ∧ w' = w := by
  have c0 := h.c0
  have m1 := map_some bm
  clear h
  go_enter Tryd.func50, Tryd.ntmps50
  go_wp2_with fail
  go_ret
  exact ⟨rfl, rfl⟩
/-- No form: nil, or one that Read did not make. -/
def NoFrm (w : World) (p : Value) : Prop := p = .pointer none ∨ ∃ fb, p = .pointer (some ⟨fb, 0, none⟩) ∧ w.cell? ⟨fb, 0, none⟩ = some (.map none)
theorem NoFrm.still {w w' : World} {p : Value} (h : NoFrm w p) (k : Below w.heap.size w w') : NoFrm w' p := by
  rcases h with h | ⟨fb, h, c⟩
  · exact .inl h
  · exact .inr ⟨fb, h, (k.cell (World.block_lt_of_cell? _ _ c)).trans c⟩
set_option maxHeartbeats 1000000 in
theorem made_no {w : World} {p : Value} (h : NoFrm w p) :
    Calls Tryd.prog 50 #[p] w fun e w' => e = .returned (.bool false) ∧ w' = w := by
  rcases h with rfl | ⟨fb, rfl, c⟩
  · go_enter Tryd.func50, Tryd.ntmps50
    go_wp2_with fail
    go_ret
    exact ⟨rfl, rfl⟩
  · have m1 := map_none
    go_enter Tryd.func50, Tryd.ntmps50
    go_wp2_with fail
    go_ret
    exact ⟨rfl, rfl⟩
end Go.Proofs.YtdacmhnniecmhaaDoor
