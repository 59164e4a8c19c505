/-
  A form that is asked for one field after another, beside other memory: what its texts are, what Done tells (for whatever is read out of a form).
-/
import Derived.BigRegion
import Derived.Test.YtdacmhnniecmhaaDoorGE
import Derived.Test.YtdacmhnniecmhaaDoorGD
import Derived.Test.YtdacmhnniecmhaaDoorGA
namespace Go.Proofs.YtdacmhnniecmhaaDoor
open Go.ChangeShapes Go.WideShapes Go.ChangeAt Go.RowKit Go.Lib

abbrev noText : ByteArray := ⟨#[]⟩
theorem name_fits {s : ByteArray} (h : vldB s = true) : Want.err .name s = 0 := if_pos h
theorem num_fits {n low high : Int} (h0 : 0 ≤ low) (h : low ≤ n ∧ n ≤ high) (hh : high ≤ 1099511627776) : Want.err (.int low high) (numT n) = 0 := by
  show (intVE (numT n) low high).2 = 0
  rw [numT_read (by omega) (by omega) h]
/-- The text of a tag. -/
def textOf (l : List Fd) (t : Int) : ByteArray := match lookF l t with
  | some (s, _) => s
  | none => noText
theorem textOf_mem {l : List Fd} (hn : (l.map Prod.fst).Nodup) {t : Int} {v : ByteArray} (h : (t, v) ∈ l) : textOf l t = v := by
  unfold textOf
  rw [lookF_mem (p := (t, v)) hn h]
theorem fits_text {l : List Fd} {t : Int} {w : Want} (h : Fits (lookF l) (t, w)) : w.err (textOf l t) = 0 := by
  obtain ⟨s, b, h1, h2⟩ := h
  unfold textOf
  dsimp only at h1
  rw [h1]
  exact h2
theorem num_text {n low high : Int} (h0 : 0 ≤ low) (h : low ≤ n ∧ n ≤ high) (hh : high ≤ 1099511627776) : ((intVE (numT n) low high).1 : Int) = n := by
  rw [numT_read (by omega) (by omega) h]
  show ((n.toNat : Nat) : Int) = n
  omega
theorem Frm.keepS {n0 : Nat} {w w' : World} {fb bm n : Nat} {tv : Value} {tags : List Int} {L : Int → Option (ByteArray × Bool)} {at_ e : Int} {S : Nat → Prop} (h : Frm n0 w fb bm n tv tags L at_ e) (k : But S w w') (h1 : ¬ S fb) (h2 : ¬ S bm) (h3 : ∀ g, tv.ownBlock = some g → ¬ S g) : Frm n0 w' fb bm n tv tags L at_ e where
  c0 := (k.cell h.lt h1).trans h.c0
  c1 := (k.cell h.lt h1).trans h.c1
  c2 := (k.cell h.lt h1).trans h.c2
  c3 := (k.cell h.lt h1).trans h.c3
  f1 := (k.frozen h.lt h1).trans h.f1
  f2 := (k.frozen h.lt h1).trans h.f2
  f3 := (k.frozen h.lt h1).trans h.f3
  map := h.map.kept k h2
  own := own_kept h.own k h3
  lof := h.lof
  lom := h.lom
  ne := h.ne
  nf := h.nf
/-- No text of a form is too long. -/
def SmallL (L : Int → Option (ByteArray × Bool)) : Prop := ∀ t s b, L t = some (s, b) → s.size ≤ 1000000
theorem small_step {x : StP} (h : SmallL x.1) (p : Int × Want) : SmallL (stepW x p).1 := by
  unfold stepW
  by_cases he : x.2.2 = 0
  · rw [he]
    cases hL : x.1 p.1 with
    | none => rw [askS_miss _ hL]; exact h
    | some q =>
      obtain ⟨s, b⟩ := q
      by_cases hs : p.2.err s = 0
      · rw [askS_good hL hs]
        intro t s' b' e
        by_cases ht : t = p.1
        · subst ht
          dsimp only at e
          rw [updI_same] at e
          simp only [Option.some.injEq, Prod.mk.injEq] at e
          rw [← e.1]
          exact h _ _ _ hL
        · dsimp only at e
          rw [updI_other _ _ ht] at e
          exact h _ _ _ e
      · rw [askS_bad hL hs]; exact h
  · rw [askS_err _ he]; exact h
/-- What a form tells behind other asks. -/
def gotN (x : StP) (ws : List (Int × Want)) (t : Int) : ByteArray := askV (runS x ws).1 (runS x ws).2.2 t nameVE id ⟨#[]⟩
def gotI (x : StP) (ws : List (Int × Want)) (t lo hi : Int) : Int := askV (runS x ws).1 (runS x ws).2.2 t (fun s => (intVE s lo hi).2) (fun s => ((intVE s lo hi).1 : Int)) 0
/-- A form that is new. -/
abbrev x0F (l : List Fd) : StP := (lookF l, 0, 0)
/-- What is told where no error came, by then and behind. -/
theorem told_at {α : Type} {l : List Fd} (ws1 : List (Int × Want)) (p : Int × Want) (ws2 : List (Int × Want)) (val : ByteArray → α) (zero : α) (h : (runS (x0F l) (ws1 ++ p :: ws2)).2.2 = 0) : askV (runS (x0F l) ws1).1 (runS (x0F l) ws1).2.2 p.1 p.2.err val zero = val (textOf l p.1) := by
  have all := runS_fresh_ok (ws1 ++ p :: ws2) h
  have h1 := runS_fresh (L := lookF l) (at_ := 0) ws1 (fun q hq => all q (by simp [hq]))
  obtain ⟨s, b, e1, e2⟩ := all p (by simp)
  show askV (runS (lookF l, 0, 0) ws1).1 (runS (lookF l, 0, 0) ws1).2.2 p.1 p.2.err val zero = _
  rw [h1]
  dsimp only
  rw [told_fits e1 e2]
  unfold textOf
  rw [e1]
/-- What Done tells of a form. -/
def doneE (y : StP) (tags : List Int) : Int × Int := if y.2.2 = 0 then spareE y.1 tags else (y.2.1, y.2.2)
theorem done_run {y : StP} {tags : List Int} (h : (doneE y tags).2 = 0) : y.2.2 = 0 ∧ doneE y tags = (0, 0) ∧ spareE y.1 tags = (0, 0) := by
  unfold doneE at *
  by_cases e : y.2.2 = 0
  · rw [if_pos e] at h ⊢
    rcases spare_cases y.1 tags with ⟨h1, _⟩ | h1
    · exact ⟨e, h1, h1⟩
    · rw [h1] at h
      simp at h
  · rw [if_neg e] at h
    exact absurd h e
theorem done_any {n0 : Nat} {w : World} {fb bm n : Nat} {tv : Value} {tags : List Int} {x : StP} (h : Frm n0 w fb bm n tv tags x.1 x.2.1 x.2.2) (hr : ∀ t ∈ tags, -9223372036854775808 ≤ t ∧ t ≤ 9223372036854775807) :
    Calls Tryd.prog 33 #[.pointer (some ⟨fb, 0, none⟩)] w fun e w' => e = .returned (.tuple #[.int .i64 (doneE x tags).1, .int .i64 (doneE x tags).2]) ∧ Below w.heap.size w w' := by
  unfold doneE
  by_cases e : x.2.2 = 0
  · rw [if_pos e]
    rw [e] at h
    exact (done_ok h hr).mono fun e w' ⟨he, hw⟩ => ⟨he, by rw [hw]; exact Below.refl _ _⟩
  · rw [if_neg e]
    exact done_err h e
theorem small_fields (l : List UInt8) : SmallL (lookF (fieldsL l).1) := by
  intro t s b h
  obtain ⟨new, n, h1, _, _, _, h5, _⟩ := fieldsA_one 64 l [] 0
  have e : (fieldsL l).1 = new := by unfold fieldsL; rw [h1]; simp
  rw [e] at h
  unfold lookF at h
  cases hf : new.find? (fun f => f.1 == t) with
  | none => rw [hf] at h; simp at h
  | some f =>
    rw [hf] at h
    simp only [Option.some.injEq, Prod.mk.injEq] at h
    have hm := List.mem_of_find?_eq_some hf
    obtain ⟨_, _, a3, _⟩ := formE_ok (ok_form (h5 f hm))
    have := a3.2.1
    rw [← h.1, size_eq]
    omega
theorem read_head {l : List UInt8} (h : readE l = 0) : (fieldsL l).2.2 = 0 ∧ (∃ V r, (fieldsL l).1 = (35, V) :: r) ∧ ((fieldsL l).1.map Prod.fst).Nodup := by
  unfold readE at h
  by_cases h0 : (fieldsL l).2.2 = 0
  · rw [if_neg (by omega)] at h
    by_cases h1 : ((fieldsL l).1.map Prod.fst).head? = some 35
    · rw [if_pos h1] at h
      refine ⟨h0, ?_, ?_⟩
      · cases hl : (fieldsL l).1 with
        | nil => rw [hl] at h1; simp at h1
        | cons f r =>
          rw [hl] at h1
          obtain ⟨T, V⟩ := f
          simp at h1
          exact ⟨V, r, by rw [h1]⟩
      · by_cases hn : ((fieldsL l).1.map Prod.fst).Nodup
        · exact hn
        · rw [if_neg hn] at h
          simp at h
    · rw [if_neg h1] at h
      simp at h
  · rw [if_pos h0] at h
    exact absurd h h0
theorem kind_text {l : List UInt8} (h : readE l = 0) : lookF (fieldsL l).1 35 = some (textOf (fieldsL l).1 35, true) := by
  obtain ⟨_, ⟨V, r, e⟩, hn⟩ := read_head h
  have m : ((35 : Int), V) ∈ (fieldsL l).1 := by rw [e]; simp
  rw [textOf_mem hn m, lookF_mem hn m]
  rfl
theorem fields_cat12 {L : List Fd} (h : AllOk L) (hl : L.length ≤ 64) : fieldsL (cat L) = (L, (cat L).length, 0) := by
  unfold fieldsL
  rw [fieldsA_back L 64 [] 0 h hl]
  simp
end Go.Proofs.YtdacmhnniecmhaaDoor
/-
  Tells and the fields of their kinds (plain); a block that holds a tell; the contracts of tell's isKind, refusal and fieldsOf.
-/
namespace Go.Proofs.YtdacmhnniecmhaaDoor
open Go.ChangeShapes Go.WideShapes Go.ChangeAt Go.RowKit Go.Lib

/-- A tell: its texts and its numbers, by their places. -/
abbrev TellP := (Nat → ByteArray) × (Nat → Int)
/-- A field of a tell: its tag, whether it is a name, its place, its ends. -/
structure Pl where
  tag : Int
  isName : Bool
  off : Nat
  low : Int
  high : Int
/-- The fields of a kind. -/
def listK (k : Int) : List Pl :=
  if k = 1 then [⟨11, true, 1, 0, 0⟩, ⟨17, true, 2, 0, 0⟩, ⟨39, false, 3, 0, 9⟩, ⟨32, false, 4, 0, 1099511627776⟩, ⟨31, false, 5, 0, 1099511627776⟩, ⟨14, false, 6, 0, 1099511627776⟩, ⟨151, false, 7, 0, 1099511627776⟩, ⟨103, false, 9, 0, 999⟩]
  else if k = 2 then [⟨11, true, 1, 0, 0⟩, ⟨39, false, 3, 0, 9⟩, ⟨103, false, 9, 0, 999⟩]
  else if k = 3 then [⟨371, false, 8, 0, 99999⟩, ⟨373, false, 9, 0, 999⟩]
  else if k = 4 then [⟨371, false, 8, 0, 99999⟩, ⟨380, false, 9, 0, 999⟩]
  else []
theorem listK_1 : listK 1 = [⟨11, true, 1, 0, 0⟩, ⟨17, true, 2, 0, 0⟩, ⟨39, false, 3, 0, 9⟩, ⟨32, false, 4, 0, 1099511627776⟩, ⟨31, false, 5, 0, 1099511627776⟩, ⟨14, false, 6, 0, 1099511627776⟩, ⟨151, false, 7, 0, 1099511627776⟩, ⟨103, false, 9, 0, 999⟩] := rfl
theorem listK_2 : listK 2 = [⟨11, true, 1, 0, 0⟩, ⟨39, false, 3, 0, 9⟩, ⟨103, false, 9, 0, 999⟩] := rfl
theorem listK_3 : listK 3 = [⟨371, false, 8, 0, 99999⟩, ⟨373, false, 9, 0, 999⟩] := rfl
theorem listK_4 : listK 4 = [⟨371, false, 8, 0, 99999⟩, ⟨380, false, 9, 0, 999⟩] := rfl
theorem kinds {k : Int} (h1 : 1 ≤ k) (h4 : k ≤ 4) : k = 1 ∨ k = 2 ∨ k = 3 ∨ k = 4 := by omega
/-- What is known of every list of fields. -/
theorem list_nodup (k : Int) : (35 :: (listK k).map Pl.tag).Nodup := by
  unfold listK
  repeat' split
  all_goals decide
theorem list_ends (k : Int) : ∀ p ∈ listK k, 1 ≤ p.tag ∧ p.tag ≤ 99999 ∧ 0 ≤ p.low ∧ p.high ≤ 1099511627776 ∧ p.off < 10 ∧ 1 ≤ p.off ∧ (p.isName = true ↔ p.off = 1 ∨ p.off = 2) := by
  unfold listK
  repeat' split
  all_goals decide
theorem list_len (k : Int) : (listK k).length ≤ 8 := by
  unfold listK
  repeat' split
  all_goals decide
/-- A cell of a tell. -/
def cellT (t : TellP) (j : Nat) : Value := if j = 1 ∨ j = 2 then .string (t.1 j) else .int .i64 (t.2 j)
/-- A block that holds a tell. -/
structure TellAt (w : World) (b : Nat) (t : TellP) : Prop where
  cell : ∀ j, j < 10 → w.cell? ⟨b, j, none⟩ = some (cellT t j)
  fz : ∀ j, w.frozen? ⟨b, j, none⟩ = false
theorem TellAt.lt {w : World} {b : Nat} {t : TellP} (h : TellAt w b t) : b < w.heap.size := World.block_lt_of_cell? _ _ (h.cell 0 (by omega))
theorem TellAt.kind {w : World} {b : Nat} {t : TellP} (h : TellAt w b t) : w.cell? ⟨b, 0, none⟩ = some (.int .i64 (t.2 0)) := h.cell 0 (by omega)
theorem TellAt.but {S : Nat → Prop} {w w' : World} {b : Nat} {t : TellP} (h : TellAt w b t) (k : But S w w') (hS : ¬ S b) : TellAt w' b t :=
  ⟨fun j hj => (k.cell h.lt hS).trans (h.cell j hj), fun j => (k.frozen h.lt hS).trans (h.fz j)⟩
theorem TellAt.still {w w' : World} {b : Nat} {t : TellP} (h : TellAt w b t) (k : Below w.heap.size w w') : TellAt w' b t := h.but (But.of_below (S := fun _ => False) k) id
theorem TellAt.text {w : World} {b : Nat} {t : TellP} (h : TellAt w b t) {p : Pl} (h10 : p.off < 10) (hn : p.isName = true ↔ p.off = 1 ∨ p.off = 2) (hp : p.isName = true) : w.cell? ⟨b, p.off, none⟩ = some (.string (t.1 p.off)) := by
  rw [h.cell _ h10, cellT, if_pos (hn.1 hp)]
theorem TellAt.num {w : World} {b : Nat} {t : TellP} (h : TellAt w b t) {p : Pl} (h10 : p.off < 10) (hn : p.isName = true ↔ p.off = 1 ∨ p.off = 2) (hp : p.isName = false) : w.cell? ⟨b, p.off, none⟩ = some (.int .i64 (t.2 p.off)) := by
  rw [h.cell _ h10, cellT, if_neg (fun e => by rw [hn.2 e] at hp; cases hp)]
theorem TellAt.setText {w : World} {b : Nat} {t : TellP} (h : TellAt w b t) {p : Pl} (h10 : p.off < 10) (hn : p.isName = true ↔ p.off = 1 ∨ p.off = 2) (hp : p.isName = true) (s : ByteArray) : TellAt (w.setCell ⟨b, p.off, none⟩ (.string s)) b (upd t.1 p.off s, t.2) := by
  refine ⟨fun j hj => ?_, fun j => by rw [World.frozen?_setCell]; exact h.fz j⟩
  by_cases e : j = p.off
  · subst e
    rw [World.cell?_setCell_same _ _ _ (h.cell _ h10), cellT, if_pos (hn.1 hp)]
    dsimp only
    rw [upd_same]
  · rw [World.cell?_setCell_other _ _ _ _ (by simp), h.cell _ hj]
    unfold cellT
    dsimp only
    by_cases c : j = 1 ∨ j = 2
    · rw [if_pos c, if_pos c, upd_other _ _ e]
    · rw [if_neg c, if_neg c]
theorem TellAt.setNum {w : World} {b : Nat} {t : TellP} (h : TellAt w b t) {p : Pl} (h10 : p.off < 10) (hn : p.isName = true ↔ p.off = 1 ∨ p.off = 2) (hp : p.isName = false) (n : Int) : TellAt (w.setCell ⟨b, p.off, none⟩ (.int .i64 n)) b (t.1, upd t.2 p.off n) := by
  have nn : ¬ (p.off = 1 ∨ p.off = 2) := fun e => by rw [hn.2 e] at hp; cases hp
  refine ⟨fun j hj => ?_, fun j => by rw [World.frozen?_setCell]; exact h.fz j⟩
  by_cases e : j = p.off
  · subst e
    rw [World.cell?_setCell_same _ _ _ (h.cell _ h10), cellT, if_neg nn]
    dsimp only
    rw [upd_same]
  · rw [World.cell?_setCell_other _ _ _ _ (by simp), h.cell _ hj]
    unfold cellT
    dsimp only
    by_cases c : j = 1 ∨ j = 2
    · rw [if_pos c, if_pos c]
    · rw [if_neg c, if_neg c, upd_other _ _ e]
theorem TellAt.all {w : World} {b : Nat} {t : TellP} (h : TellAt w b t) : w.cell? ⟨b, 0, none⟩ = some (.int .i64 (t.2 0)) ∧ w.cell? ⟨b, 1, none⟩ = some (.string (t.1 1)) ∧ w.cell? ⟨b, 2, none⟩ = some (.string (t.1 2)) ∧ w.cell? ⟨b, 3, none⟩ = some (.int .i64 (t.2 3)) ∧ w.cell? ⟨b, 4, none⟩ = some (.int .i64 (t.2 4)) ∧ w.cell? ⟨b, 5, none⟩ = some (.int .i64 (t.2 5)) ∧ w.cell? ⟨b, 6, none⟩ = some (.int .i64 (t.2 6)) ∧ w.cell? ⟨b, 7, none⟩ = some (.int .i64 (t.2 7)) ∧ w.cell? ⟨b, 8, none⟩ = some (.int .i64 (t.2 8)) ∧ w.cell? ⟨b, 9, none⟩ = some (.int .i64 (t.2 9)) := ⟨h.cell 0 (by omega), h.cell 1 (by omega), h.cell 2 (by omega), h.cell 3 (by omega), h.cell 4 (by omega), h.cell 5 (by omega), h.cell 6 (by omega), h.cell 7 (by omega), h.cell 8 (by omega), h.cell 9 (by omega)⟩
/-- A new block that holds a tell. -/
abbrev boxT (w : World) (t : TellP) : World := w.alloc (.cells #[.int .i64 (t.2 0), .string (t.1 1), .string (t.1 2), .int .i64 (t.2 3), .int .i64 (t.2 4), .int .i64 (t.2 5), .int .i64 (t.2 6), .int .i64 (t.2 7), .int .i64 (t.2 8), .int .i64 (t.2 9)] 23)
theorem boxT_below (w : World) (t : TellP) : Below w.heap.size w (boxT w t) := (Below.refl _ w).alloc (Nat.le_refl _) _
theorem TellAt.box (w : World) (t : TellP) : TellAt (boxT w t) w.heap.size t := by
  refine ⟨fun j hj => ?_, fun j => by simp⟩
  rcases (show j = 0 ∨ j = 1 ∨ j = 2 ∨ j = 3 ∨ j = 4 ∨ j = 5 ∨ j = 6 ∨ j = 7 ∨ j = 8 ∨ j = 9 by omega) with rfl | rfl | rfl | rfl | rfl | rfl | rfl | rfl | rfl | rfl <;> simp [cellT]
set_option maxHeartbeats 1000000 in
theorem isKind_any (k : Int) (w : World) : Calls Tryd.prog 22 #[.int .i64 k] w fun e w' => e = .returned (.bool (decide (1 ≤ k ∧ k ≤ 4))) ∧ w' = w := by
  by_cases h1 : 1 ≤ k
  · by_cases h2 : k ≤ 4
    · rw [decide_eq_true ⟨h1, h2⟩]
      go_enter Tryd.func22, Tryd.ntmps22
      go_wp2
      go_ret
      exact ⟨rfl, rfl⟩
    · rw [decide_eq_false (fun h => h2 h.2)]
      go_enter Tryd.func22, Tryd.ntmps22
      go_wp2
      go_ret
      exact ⟨rfl, rfl⟩
  · rw [decide_eq_false (fun h => h1 h.1)]
    go_enter Tryd.func22, Tryd.ntmps22
    go_wp2
    go_ret
    exact ⟨rfl, rfl⟩
/-- The cells of a field: a pointer into the block b, to a name or to a number. -/
def plCells (b : Nat) (p : Pl) : List Value := [.int .i64 p.tag, .pointer (if p.isName = true then some ⟨b, p.off, none⟩ else none), .pointer (if p.isName = true then none else some ⟨b, p.off, none⟩), .int .i64 p.low, .int .i64 p.high]
/-- A block that holds a list of fields. -/
def Pls (w : World) (sb b : Nat) (L : List Pl) : Prop := ∀ i, (h : i < L.length) → ∀ j, j < 5 → w.cell? ⟨sb, i * 5 + j, none⟩ = (plCells b L[i])[j]?
set_option maxHeartbeats 4000000 in
theorem refusal_any (b : Nat) (g : Int) (w : World) :
    Calls Tryd.prog 58 #[.pointer (some ⟨b, 0, none⟩), .int .i64 g] w fun e w' => e = .returned (.slice (some ⟨w.heap.size, 0, none⟩) 2 2) ∧ Pls w' w.heap.size b [⟨371, false, 8, 0, 99999⟩, ⟨g, false, 9, 0, 999⟩] ∧ Below w.heap.size w w' := by
  go_enter Tryd.func58, Tryd.ntmps58
  go_wp2_with fail
  go_region
  all_goals (
    go_wp2_with fail
    go_ret
    refine ⟨rfl, ?_, ?_⟩
    · intro i hi j hj
      rcases (show i = 0 ∨ i = 1 by simp at hi; omega) with rfl | rfl <;> rcases (show j = 0 ∨ j = 1 ∨ j = 2 ∨ j = 3 ∨ j = 4 by omega) with rfl | rfl | rfl | rfl | rfl <;> simp [plCells]
    · first | exact (below_drewN _ 1 w).alloc (Nat.le_refl _) _ | trace_state)
/-- What fieldsOf answers. -/
def FldsOf (b : Nat) (L : List Pl) (w : World) (e : Ending) (w' : World) : Prop := e = .returned (.slice (some ⟨w.heap.size, 0, none⟩) L.length L.length) ∧ Pls w' w.heap.size b L ∧ Below w.heap.size w w'
set_option maxRecDepth 100000 in
set_option maxHeartbeats 8000000 in
theorem fieldsOf_1 (b : Nat) (w : World) (c0 : w.cell? ⟨b, 0, none⟩ = some (.int .i64 1)) :
    Calls Tryd.prog 39 #[.pointer (some ⟨b, 0, none⟩)] w (FldsOf b (listK 1) w) := by
  rw [listK_1]
  go_enter Tryd.func39, Tryd.ntmps39
  go_wp2_with fail
  go_region
  all_goals (
    go_wp2_with fail
    go_ret
    refine ⟨rfl, ?_, (below_drewN _ 1 w).alloc (Nat.le_refl _) _⟩
    intro i hi j hj
    rcases (show i = 0 ∨ i = 1 ∨ i = 2 ∨ i = 3 ∨ i = 4 ∨ i = 5 ∨ i = 6 ∨ i = 7 by simp at hi; omega) with rfl | rfl | rfl | rfl | rfl | rfl | rfl | rfl <;> rcases (show j = 0 ∨ j = 1 ∨ j = 2 ∨ j = 3 ∨ j = 4 by omega) with rfl | rfl | rfl | rfl | rfl <;> simp [plCells])
set_option maxRecDepth 100000 in
set_option maxHeartbeats 8000000 in
theorem fieldsOf_2 (b : Nat) (w : World) (c0 : w.cell? ⟨b, 0, none⟩ = some (.int .i64 2)) :
    Calls Tryd.prog 39 #[.pointer (some ⟨b, 0, none⟩)] w (FldsOf b (listK 2) w) := by
  rw [listK_2]
  go_enter Tryd.func39, Tryd.ntmps39
  go_wp2_with fail
  go_region
  all_goals (
    go_wp2_with fail
    go_ret
    refine ⟨rfl, ?_, (below_drewN _ 1 w).alloc (Nat.le_refl _) _⟩
    intro i hi j hj
    rcases (show i = 0 ∨ i = 1 ∨ i = 2 by simp at hi; omega) with rfl | rfl | rfl <;> rcases (show j = 0 ∨ j = 1 ∨ j = 2 ∨ j = 3 ∨ j = 4 by omega) with rfl | rfl | rfl | rfl | rfl <;> simp [plCells])
set_option maxHeartbeats 2000000 in
theorem fieldsOf_3 (b : Nat) (w : World) (c0 : w.cell? ⟨b, 0, none⟩ = some (.int .i64 3)) :
    Calls Tryd.prog 39 #[.pointer (some ⟨b, 0, none⟩)] w (FldsOf b (listK 3) w) := by
  rw [listK_3]
  have F := refusal_any b 373 w
  go_enter Tryd.func39, Tryd.ntmps39
  go_wp2_with fail
  refine F.mono ?_
  rintro e w1 ⟨rfl, h1, b1⟩
  go_wp2_with fail
  go_ret
  exact ⟨rfl, h1, b1⟩
set_option maxHeartbeats 2000000 in
theorem fieldsOf_4 (b : Nat) (w : World) (c0 : w.cell? ⟨b, 0, none⟩ = some (.int .i64 4)) :
    Calls Tryd.prog 39 #[.pointer (some ⟨b, 0, none⟩)] w (FldsOf b (listK 4) w) := by
  rw [listK_4]
  have F := refusal_any b 380 w
  go_enter Tryd.func39, Tryd.ntmps39
  go_wp2_with fail
  refine F.mono ?_
  rintro e w1 ⟨rfl, h1, b1⟩
  go_wp2_with fail
  go_ret
  exact ⟨rfl, h1, b1⟩
theorem fieldsOf_any {k : Int} (h1 : 1 ≤ k) (h4 : k ≤ 4) (b : Nat) (w : World) (c0 : w.cell? ⟨b, 0, none⟩ = some (.int .i64 k)) :
    Calls Tryd.prog 39 #[.pointer (some ⟨b, 0, none⟩)] w (FldsOf b (listK k) w) := by
  rcases kinds h1 h4 with rfl | rfl | rfl | rfl
  · exact fieldsOf_1 b w c0
  · exact fieldsOf_2 b w c0
  · exact fieldsOf_3 b w c0
  · exact fieldsOf_4 b w c0
end Go.Proofs.YtdacmhnniecmhaaDoor
/-
  Tells, their fields, how they are read again (plain).
-/
namespace Go.Proofs.YtdacmhnniecmhaaDoor
open Go.Lib

/-- What a field is asked for as. -/
def Pl.want (p : Pl) : Int × Want := (p.tag, if p.isName = true then .name else .int p.low p.high)
/-- A field of a tell is right. -/
def Pl.okB (p : Pl) (t : TellP) : Bool := if p.isName = true then vldB (t.1 p.off) else decide (p.low ≤ t.2 p.off ∧ t.2 p.off ≤ p.high)
/-- Its text. -/
def Pl.text (p : Pl) (t : TellP) : ByteArray := if p.isName = true then t.1 p.off else numT (t.2 p.off)
/-- The tell without it. -/
def Pl.clr (p : Pl) (t : TellP) : TellP := if p.isName = true then (upd t.1 p.off noText, t.2) else (t.1, upd t.2 p.off 0)
/-- The tell with it as a form tells it. -/
def Pl.got (p : Pl) (x : StP) (t : TellP) : TellP := if p.isName = true then (upd t.1 p.off (askV x.1 x.2.2 p.tag nameVE id ⟨#[]⟩), t.2) else (t.1, upd t.2 p.off (askV x.1 x.2.2 p.tag (fun s => (intVE s p.low p.high).2) (fun s => ((intVE s p.low p.high).1 : Int)) 0))
/-- The tell with it as a body's fields say it. -/
def Pl.told (p : Pl) (l : List Fd) (t : TellP) : TellP := if p.isName = true then (upd t.1 p.off (textOf l p.tag), t.2) else (t.1, upd t.2 p.off ((intVE (textOf l p.tag) p.low p.high).1 : Int))
/-- All fields of a list, one behind the other. -/
def rgt : List Pl → Bool → TellP → Bool × TellP
  | [], r, t => (r, t)
  | p :: q, r, t => rgt q (r && p.okB t) (p.clr t)
def fil : List Pl → StP → TellP → StP × TellP
  | [], x, t => (x, t)
  | p :: q, x, t => fil q (stepW x p.want) (p.got x t)
def tolds : List Pl → List Fd → TellP → TellP
  | [], _, t => t
  | p :: q, l, t => tolds q l (p.told l t)
theorem fil_st : ∀ (L : List Pl) (x : StP) (t : TellP), (fil L x t).1 = runS x (L.map Pl.want)
  | [], _, _ => rfl
  | p :: q, x, t => by rw [fil, fil_st q, List.map_cons, runS_cons]
theorem got_told {l : List Fd} (pre : List Pl) (p : Pl) (q : List Pl) (t : TellP) (h : (runS (x0F l) ((pre ++ p :: q).map Pl.want)).2.2 = 0) : p.got (runS (x0F l) (pre.map Pl.want)) t = p.told l t := by
  rw [List.map_append, List.map_cons] at h
  obtain ⟨tag, nm, off, low, high⟩ := p
  cases nm with
  | true =>
    have := told_at (pre.map Pl.want) (tag, .name) (q.map Pl.want) id (⟨#[]⟩ : ByteArray) h
    show (upd t.1 off (askV _ _ tag nameVE id ⟨#[]⟩), t.2) = (upd t.1 off (textOf l tag), t.2)
    rw [show askV (runS (x0F l) (pre.map Pl.want)).1 (runS (x0F l) (pre.map Pl.want)).2.2 tag nameVE id ⟨#[]⟩ = textOf l tag from this]
  | false =>
    have := told_at (pre.map Pl.want) (tag, .int low high) (q.map Pl.want) (fun s => ((intVE s low high).1 : Int)) 0 h
    show (t.1, upd t.2 off (askV _ _ tag (fun s => (intVE s low high).2) (fun s => ((intVE s low high).1 : Int)) 0)) = (t.1, upd t.2 off ((intVE (textOf l tag) low high).1 : Int))
    rw [show askV (runS (x0F l) (pre.map Pl.want)).1 (runS (x0F l) (pre.map Pl.want)).2.2 tag (fun s => (intVE s low high).2) (fun s => ((intVE s low high).1 : Int)) 0 = ((intVE (textOf l tag) low high).1 : Int) from this]
theorem fil_told {l : List Fd} : ∀ (q pre : List Pl) (t : TellP), (runS (x0F l) ((pre ++ q).map Pl.want)).2.2 = 0 → (fil q (runS (x0F l) (pre.map Pl.want)) t).2 = tolds q l t
  | [], _, _, _ => rfl
  | p :: q, pre, t, h => by
    rw [fil, tolds, got_told pre p q t h]
    have e : stepW (runS (x0F l) (pre.map Pl.want)) p.want = runS (x0F l) ((pre ++ [p]).map Pl.want) := by rw [List.map_append, runS_append]; rfl
    rw [e]
    exact fil_told q (pre ++ [p]) _ (by rw [List.append_assoc]; exact h)
/-- A tell of a kind of which nothing else is set. -/
def zeroT (k : Int) : TellP := (fun _ => noText, fun j => if j = 0 then k else 0)
/-- A tell as a value. -/
def tellV (t : TellP) : Value := .agg #[.int .i64 (t.2 0), .string (t.1 1), .string (t.1 2), .int .i64 (t.2 3), .int .i64 (t.2 4), .int .i64 (t.2 5), .int .i64 (t.2 6), .int .i64 (t.2 7), .int .i64 (t.2 8), .int .i64 (t.2 9)]
/-- Two tells are the same. -/
structure Same (t u : TellP) : Prop where
  k : t.2 0 = u.2 0
  i : t.1 1 = u.1 1
  x : t.1 2 = u.1 2
  s : t.2 3 = u.2 3
  l : t.2 4 = u.2 4
  p : t.2 5 = u.2 5
  c : t.2 6 = u.2 6
  e : t.2 7 = u.2 7
  g : t.2 8 = u.2 8
  r : t.2 9 = u.2 9
theorem Same.refl (t : TellP) : Same t t := ⟨rfl, rfl, rfl, rfl, rfl, rfl, rfl, rfl, rfl, rfl⟩
theorem Same.symm {t u : TellP} (h : Same t u) : Same u t := ⟨h.k.symm, h.i.symm, h.x.symm, h.s.symm, h.l.symm, h.p.symm, h.c.symm, h.e.symm, h.g.symm, h.r.symm⟩
theorem Same.trans {t u v : TellP} (h : Same t u) (h' : Same u v) : Same t v := ⟨h.k.trans h'.k, h.i.trans h'.i, h.x.trans h'.x, h.s.trans h'.s, h.l.trans h'.l, h.p.trans h'.p, h.c.trans h'.c, h.e.trans h'.e, h.g.trans h'.g, h.r.trans h'.r⟩
theorem Same.val {t u : TellP} (h : Same t u) : tellV t = tellV u := by
  unfold tellV
  rw [h.k, h.i, h.x, h.s, h.l, h.p, h.c, h.e, h.g, h.r]
/-- Nothing but the kind is set. -/
def zeroB (t : TellP) : Bool := decide (t.1 1 = noText ∧ t.1 2 = noText ∧ t.2 3 = 0 ∧ t.2 4 = 0 ∧ t.2 5 = 0 ∧ t.2 6 = 0 ∧ t.2 7 = 0 ∧ t.2 8 = 0 ∧ t.2 9 = 0)
/-- What the program says of a tell. -/
def rightB (t : TellP) : Bool := decide (1 ≤ t.2 0 ∧ t.2 0 ≤ 4) && ((rgt (listK (t.2 0)) true t).1 && zeroB (rgt (listK (t.2 0)) true t).2)
/-- A tell that is right. -/
structure RightP (t : TellP) : Prop where
  kind : 1 ≤ t.2 0 ∧ t.2 0 ≤ 4
  all : ∀ p ∈ listK (t.2 0), p.okB t = true
  rep : t.2 0 ≠ 1 → t.1 2 = noText ∧ t.2 4 = 0 ∧ t.2 5 = 0 ∧ t.2 6 = 0 ∧ t.2 7 = 0
  name : 3 ≤ t.2 0 → t.1 1 = noText ∧ t.2 3 = 0
  tag : t.2 0 ≤ 2 → t.2 8 = 0
theorem right_iff (t : TellP) : rightB t = true ↔ RightP t := by
  unfold rightB
  by_cases hk : 1 ≤ t.2 0 ∧ t.2 0 ≤ 4
  · rw [decide_eq_true hk, Bool.true_and]
    rcases kinds hk.1 hk.2 with e | e | e | e
    · constructor
      · intro h
        rw [e, listK_1] at h
        simp [rgt, Pl.okB, Pl.clr, upd, zeroB] at h
        refine ⟨hk, ?_, fun n => absurd e n, fun n => by omega, fun _ => h.2⟩
        rw [e, listK_1]
        simp [Pl.okB]
        exact ⟨h.1.1.1.1.1.1.1.1, h.1.1.1.1.1.1.1.2, h.1.1.1.1.1.1.2, h.1.1.1.1.1.2, h.1.1.1.1.2, h.1.1.1.2, h.1.1.2, h.1.2⟩
      · intro h
        have a := h.all
        have g := h.tag (by omega)
        rw [e, listK_1] at a ⊢
        simp [Pl.okB] at a
        simp [rgt, Pl.okB, Pl.clr, upd, zeroB]
        simp [a, g]
    · constructor
      · intro h
        rw [e, listK_2] at h
        simp [rgt, Pl.okB, Pl.clr, upd, zeroB] at h
        refine ⟨hk, ?_, fun _ => ?_, fun n => by omega, fun _ => ?_⟩
        · rw [e, listK_2]
          simp [Pl.okB]
          simp [h]
        · simp [h]
        · simp [h]
      · intro h
        have a := h.all
        have g := h.tag (by omega)
        have r := h.rep (by omega)
        rw [e, listK_2] at a ⊢
        simp [Pl.okB] at a
        simp [rgt, Pl.okB, Pl.clr, upd, zeroB]
        simp [a, g, r]
    · constructor
      · intro h
        rw [e, listK_3] at h
        simp [rgt, Pl.okB, Pl.clr, upd, zeroB] at h
        refine ⟨hk, ?_, fun _ => ?_, fun _ => ?_, fun n => by omega⟩
        · rw [e, listK_3]
          simp [Pl.okB]
          simp [h]
        · simp [h]
        · simp [h]
      · intro h
        have a := h.all
        have g := h.name (by omega)
        have r := h.rep (by omega)
        rw [e, listK_3] at a ⊢
        simp [Pl.okB] at a
        simp [rgt, Pl.okB, Pl.clr, upd, zeroB]
        simp [a, g, r]
    · constructor
      · intro h
        rw [e, listK_4] at h
        simp [rgt, Pl.okB, Pl.clr, upd, zeroB] at h
        refine ⟨hk, ?_, fun _ => ?_, fun _ => ?_, fun n => by omega⟩
        · rw [e, listK_4]
          simp [Pl.okB]
          simp [h]
        · simp [h]
        · simp [h]
      · intro h
        have a := h.all
        have g := h.name (by omega)
        have r := h.rep (by omega)
        rw [e, listK_4] at a ⊢
        simp [Pl.okB] at a
        simp [rgt, Pl.okB, Pl.clr, upd, zeroB]
        simp [a, g, r]
  · rw [decide_eq_false hk, Bool.false_and]
    exact ⟨fun h => by simp at h, fun h => absurd h.kind hk⟩
/-- A kind's word. -/
def wordT (k : Int) : ByteArray := if k = 1 then ⟨#[56]⟩ else if k = 2 then ⟨#[57]⟩ else if k = 3 then ⟨#[51]⟩ else ⟨#[106]⟩
/-- The kind that a word says, or 0. -/
def kindOf (w : ByteArray) : Int := if w = ⟨#[56]⟩ then 1 else if w = ⟨#[57]⟩ then 2 else if w = ⟨#[51]⟩ then 3 else if w = ⟨#[106]⟩ then 4 else 0
theorem kind_word {k : Int} (h1 : 1 ≤ k) (h2 : k ≤ 4) : kindOf (wordT k) = k := by
  rcases kinds h1 h2 with rfl | rfl | rfl | rfl <;> decide
theorem kind_range (w : ByteArray) : 0 ≤ kindOf w ∧ kindOf w ≤ 4 := by
  unfold kindOf
  repeat' split
  all_goals omega
theorem word_val {k : Int} (h1 : 1 ≤ k) (h2 : k ≤ 4) : ValOk (wordT k).data.toList := by
  refine valB_true.1 ?_
  rcases kinds h1 h2 with rfl | rfl | rfl | rfl <;> decide +kernel
/-- A tell's fields. -/
def fieldsT (t : TellP) : List Fd := (35, wordT (t.2 0)) :: (listK (t.2 0)).map fun p => (p.tag, p.text t)
theorem fields_tags (t : TellP) : (fieldsT t).map Prod.fst = 35 :: (listK (t.2 0)).map Pl.tag := by
  unfold fieldsT
  rw [List.map_cons, List.map_map]
  rfl
theorem fields_nodup (t : TellP) : ((fieldsT t).map Prod.fst).Nodup := by rw [fields_tags]; exact list_nodup _
theorem field_mem {t : TellP} {p : Pl} (h : p ∈ listK (t.2 0)) : (p.tag, p.text t) ∈ fieldsT t := List.mem_cons_of_mem _ (List.mem_map.2 ⟨p, h, rfl⟩)
theorem text_fits {t : TellP} {p : Pl} (he : 0 ≤ p.low ∧ p.high ≤ 1099511627776) (ok : p.okB t = true) : p.want.2.err (p.text t) = 0 := by
  obtain ⟨tag, nm, off, low, high⟩ := p
  cases nm with
  | true => exact name_fits ok
  | false => exact num_fits he.1 (of_decide_eq_true ok) he.2
theorem right_fits {t : TellP} (R : RightP t) : ∀ w ∈ (listK (t.2 0)).map Pl.want, Fits (lookF (fieldsT t)) w := by
  intro w hw
  obtain ⟨p, hp, rfl⟩ := List.mem_map.1 hw
  have e := list_ends _ p hp
  exact fits_mem (fields_nodup t) (field_mem hp) (text_fits ⟨e.2.2.1, e.2.2.2.1⟩ (R.all p hp))
theorem want_tags (L : List Pl) : (L.map Pl.want).map Prod.fst = L.map Pl.tag := by rw [List.map_map]; rfl
/-- A right tell's fields all have forms. -/
theorem right_allOk {t : TellP} (R : RightP t) : AllOk (fieldsT t) ∧ (fieldsT t).length ≤ 64 := by
  constructor
  · intro f hf
    unfold fieldsT at hf
    rcases List.mem_cons.1 hf with rfl | hf
    · exact form_val (t := 35) (by omega) (by omega) (word_val R.kind.1 R.kind.2)
    · obtain ⟨p, hp, rfl⟩ := List.mem_map.1 hf
      have e := list_ends _ p hp
      refine form_val (by omega) (by omega) ?_
      have ok := R.all p hp
      obtain ⟨tag, nm, off, low, high⟩ := p
      cases nm with
      | true => exact name_val ok
      | false =>
        have := of_decide_eq_true ok
        dsimp only at this e
        exact numT_val (n := t.2 off) (by omega)
  · unfold fieldsT
    have := list_len (t.2 0)
    simp
    omega
/-- A field of a right tell is told as it was. -/
theorem told_text {t u : TellP} {p : Pl} (hp : p ∈ listK (t.2 0)) (R : RightP t) : p.told (fieldsT t) u = if p.isName = true then (upd u.1 p.off (t.1 p.off), u.2) else (u.1, upd u.2 p.off (t.2 p.off)) := by
  have e := list_ends _ p hp
  have ok := R.all p hp
  have tx := textOf_mem (fields_nodup t) (field_mem hp)
  unfold Pl.told
  rw [tx]
  obtain ⟨tag, nm, off, low, high⟩ := p
  cases nm with
  | true => rfl
  | false =>
    have ok' := of_decide_eq_true ok
    dsimp only at ok' e
    show (u.1, upd u.2 off ((intVE (numT (t.2 off)) low high).1 : Int)) = (u.1, upd u.2 off (t.2 off))
    rw [num_text e.2.2.1 ok' e.2.2.2.1]
/-- The fields of a list as another tell has them. -/
def sets : List Pl → TellP → TellP → TellP
  | [], _, u => u
  | p :: q, t, u => sets q t (if p.isName = true then (upd u.1 p.off (t.1 p.off), u.2) else (u.1, upd u.2 p.off (t.2 p.off)))
theorem tolds_sets {t : TellP} {F : List Fd} : ∀ (L : List Pl) (u : TellP), (∀ p ∈ L, ∀ u, p.told F u = if p.isName = true then (upd u.1 p.off (t.1 p.off), u.2) else (u.1, upd u.2 p.off (t.2 p.off))) → tolds L F u = sets L t u
  | [], _, _ => rfl
  | p :: q, u, h => by
    rw [tolds, sets, h p (by simp)]
    exact tolds_sets q _ (fun r hr => h r (by simp [hr]))
/-- What a right tell's body says is the tell. -/
theorem tell_back {t : TellP} (R : RightP t) : Same (tolds (listK (t.2 0)) (fieldsT t) (zeroT (t.2 0))) t := by
  rw [tolds_sets (t := t) _ _ (fun p hp u => told_text hp R)]
  rcases kinds R.kind.1 R.kind.2 with e | e | e | e
  · have g := R.tag (by omega)
    rw [e, listK_1]
    constructor <;> simp [sets, zeroT, upd, e, g]
  · have g := R.tag (by omega)
    have r := R.rep (by omega)
    rw [e, listK_2]
    constructor <;> simp [sets, zeroT, upd, e, g, r]
  · have n := R.name (by omega)
    have r := R.rep (by omega)
    rw [e, listK_3]
    constructor <;> simp [sets, zeroT, upd, e, n, r]
  · have n := R.name (by omega)
    have r := R.rep (by omega)
    rw [e, listK_4]
    constructor <;> simp [sets, zeroT, upd, e, n, r]
/-- What fits is right. -/
theorem name_of {l : List Fd} {t : Int} (h : Fits (lookF l) (t, .name)) : vldB (textOf l t) = true := by
  have := fits_text h
  by_cases hv : vldB (textOf l t) = true
  · exact hv
  · have e : Want.err .name (textOf l t) = 43 := if_neg hv
    rw [e] at this
    simp at this
theorem int_of {l : List Fd} {t lo hi : Int} (h : Fits (lookF l) (t, .int lo hi)) : lo ≤ ((intVE (textOf l t) lo hi).1 : Int) ∧ ((intVE (textOf l t) lo hi).1 : Int) ≤ hi := by
  have := int_back (fits_text h)
  exact ⟨this.1, this.2.1⟩
theorem tell_sound {k : Int} {l : List Fd} (h1 : 1 ≤ k) (h4 : k ≤ 4) (h : ∀ w ∈ (listK k).map Pl.want, Fits (lookF l) w) : RightP (tolds (listK k) l (zeroT k)) := by
  have N : ∀ tag off low high, (⟨tag, true, off, low, high⟩ : Pl) ∈ listK k → vldB (textOf l tag) = true := fun tag off low high hp => name_of (h _ (List.mem_map.2 ⟨_, hp, rfl⟩))
  have I : ∀ tag off low high, (⟨tag, false, off, low, high⟩ : Pl) ∈ listK k → low ≤ ((intVE (textOf l tag) low high).1 : Int) ∧ ((intVE (textOf l tag) low high).1 : Int) ≤ high := fun tag off low high hp => int_of (h _ (List.mem_map.2 ⟨_, hp, rfl⟩))
  clear h
  rcases kinds h1 h4 with rfl | rfl | rfl | rfl
  · rw [listK_1] at N I
    have a1 := N 11 1 0 0 (by simp)
    have a2 := N 17 2 0 0 (by simp)
    have a3 := I 39 3 0 9 (by simp)
    have a4 := I 32 4 0 1099511627776 (by simp)
    have a5 := I 31 5 0 1099511627776 (by simp)
    have a6 := I 14 6 0 1099511627776 (by simp)
    have a7 := I 151 7 0 1099511627776 (by simp)
    have a8 := I 103 9 0 999 (by simp)
    have hk : (tolds (listK 1) l (zeroT 1)).2 0 = 1 := by simp [listK_1, tolds, Pl.told, zeroT, upd]
    refine ⟨by rw [hk]; omega, ?_, fun n => absurd hk n, fun n => by omega, fun _ => by simp [listK_1, tolds, Pl.told, zeroT, upd]⟩
    rw [hk, listK_1]
    simp [tolds, Pl.told, zeroT, upd, Pl.okB]
    simp at a3 a4 a5 a6 a7 a8
    exact ⟨a1, a2, a3, a4, a5, a6, a7, a8⟩
  · rw [listK_2] at N I
    have a1 := N 11 1 0 0 (by simp)
    have a3 := I 39 3 0 9 (by simp)
    have a8 := I 103 9 0 999 (by simp)
    have hk : (tolds (listK 2) l (zeroT 2)).2 0 = 2 := by simp [listK_2, tolds, Pl.told, zeroT, upd]
    refine ⟨by rw [hk]; omega, ?_, fun _ => by simp [listK_2, tolds, Pl.told, zeroT, upd], fun n => by omega, fun _ => by simp [listK_2, tolds, Pl.told, zeroT, upd]⟩
    rw [hk, listK_2]
    simp [tolds, Pl.told, zeroT, upd, Pl.okB]
    simp at a3 a8
    exact ⟨a1, a3, a8⟩
  · rw [listK_3] at N I
    have a3 := I 371 8 0 99999 (by simp)
    have a8 := I 373 9 0 999 (by simp)
    have hk : (tolds (listK 3) l (zeroT 3)).2 0 = 3 := by simp [listK_3, tolds, Pl.told, zeroT, upd]
    refine ⟨by rw [hk]; omega, ?_, fun _ => by simp [listK_3, tolds, Pl.told, zeroT, upd], fun _ => by simp [listK_3, tolds, Pl.told, zeroT, upd], fun n => by omega⟩
    rw [hk, listK_3]
    simp [tolds, Pl.told, zeroT, upd, Pl.okB]
    simp at a3 a8
    exact ⟨a3, a8⟩
  · rw [listK_4] at N I
    have a3 := I 371 8 0 99999 (by simp)
    have a8 := I 380 9 0 999 (by simp)
    have hk : (tolds (listK 4) l (zeroT 4)).2 0 = 4 := by simp [listK_4, tolds, Pl.told, zeroT, upd]
    refine ⟨by rw [hk]; omega, ?_, fun _ => by simp [listK_4, tolds, Pl.told, zeroT, upd], fun _ => by simp [listK_4, tolds, Pl.told, zeroT, upd], fun n => by omega⟩
    rw [hk, listK_4]
    simp [tolds, Pl.told, zeroT, upd, Pl.okB]
    simp at a3 a8
    exact ⟨a3, a8⟩
/-- The form behind all asks for a kind. -/
def decS (k : Int) (l : List Fd) : StP := runS (x0F l) ((listK k).map Pl.want)
/-- The tag and the error's number of a body's fields. -/
def decE (l : List Fd) : Int × Int := if kindOf (textOf l 35) = 0 then (35, 120) else doneE (decS (kindOf (textOf l 35)) l) (l.map Prod.fst)
/-- The tag and the error's number of a text. -/
def decT (l : List UInt8) : Int × Int := if readE l ≠ 0 then (0, (readE l : Int)) else decE (fieldsL l).1
/-- The tell of a text. -/
def decA (l : List UInt8) : TellP := if (decT l).2 = 0 then tolds (listK (kindOf (textOf (fieldsL l).1 35))) (fieldsL l).1 (zeroT (kindOf (textOf (fieldsL l).1 35))) else zeroT 0
theorem dec_zero {l : List Fd} (h : (decE l).2 = 0) : decE l = (0, 0) := by
  unfold decE at *
  split at h
  · simp at h
  · rename_i n1
    rw [if_neg n1]
    exact (done_run h).2.1
theorem decT_zero {l : List UInt8} (h : (decT l).2 = 0) : decT l = (0, 0) := by
  unfold decT at *
  split at h
  · rename_i n1
    dsimp only at h
    omega
  · rename_i n1
    rw [if_neg n1]
    exact dec_zero h
/-- What is encoded is decoded as it was. -/
theorem dec_right {t : TellP} (R : RightP t) : decT (cat (fieldsT t)) = (0, 0) ∧ Same (decA (cat (fieldsT t))) t := by
  obtain ⟨ok, l64⟩ := right_allOk R
  have hf := fields_cat12 ok l64
  have hn := fields_nodup t
  have hE : readE (cat (fieldsT t)) = 0 := by
    unfold readE
    rw [hf]
    dsimp only
    rw [if_neg (by simp), if_pos (by rw [fields_tags]; simp), if_pos hn]
  have h35 : textOf (fieldsT t) 35 = wordT (t.2 0) := textOf_mem hn (by unfold fieldsT; simp)
  have hk : kindOf (textOf (fieldsT t) 35) = t.2 0 := by rw [h35]; exact kind_word R.kind.1 R.kind.2
  have hS : decS (t.2 0) (fieldsT t) = (markAll (lookF (fieldsT t)) ((listK (t.2 0)).map Pl.tag), 0, 0) := by
    unfold decS
    rw [← want_tags]
    exact runS_fresh _ (right_fits R)
  have hD : doneE (decS (t.2 0) (fieldsT t)) ((fieldsT t).map Prod.fst) = (0, 0) := by
    unfold doneE
    rw [hS]
    dsimp only
    rw [if_pos rfl]
    exact done_all hn (fun u hu => by
      rw [fields_tags] at hu
      exact List.mem_cons.1 hu)
  have hT : decT (cat (fieldsT t)) = (0, 0) := by
    unfold decT
    rw [if_neg (by omega), hf]
    dsimp only
    unfold decE
    rw [hk, if_neg (by have := R.kind.1; omega), hD]
  refine ⟨hT, ?_⟩
  unfold decA
  rw [hT, if_pos rfl, hf]
  dsimp only
  rw [hk]
  exact tell_back R
/-- What is decoded is right. -/
theorem dec_sound {l : List UInt8} (h : (decT l).2 = 0) : RightP (decA l) := by
  have hA : decA l = tolds (listK (kindOf (textOf (fieldsL l).1 35))) (fieldsL l).1 (zeroT (kindOf (textOf (fieldsL l).1 35))) := if_pos h
  have hE : readE l = 0 := by
    unfold decT at h
    by_cases e : readE l = 0
    · exact e
    · rw [if_pos e] at h
      dsimp only at h
      omega
  have hT : decT l = decE (fieldsL l).1 := by unfold decT; rw [if_neg (by omega)]
  rw [hT] at h
  rw [hA]
  generalize (fieldsL l).1 = F at *
  have hk0 : kindOf (textOf F 35) ≠ 0 := fun e => by
    unfold decE at h
    rw [if_pos e] at h
    simp at h
  have hr := kind_range (textOf F 35)
  unfold decE at h
  rw [if_neg hk0] at h
  generalize kindOf (textOf F 35) = K at *
  have h0 := (done_run h).1
  exact tell_sound (by omega) (by omega) (runS_fresh_ok _ h0)
theorem Same.right {t u : TellP} (h : Same t u) (R : RightP t) : RightP u := by
  have e := h.k
  refine ⟨by rw [← e]; exact R.kind, ?_, fun n => ?_, fun n => ?_, fun n => ?_⟩
  · intro p hp
    rw [← e] at hp
    have a := R.all p hp
    have l := list_ends _ p hp
    obtain ⟨tag, nm, off, low, high⟩ := p
    dsimp only at l
    have so : nm = true → t.1 off = u.1 off := fun n => by
      rcases l.2.2.2.2.2.2.1 n with rfl | rfl
      · exact h.i
      · exact h.x
    have si : ¬ nm = true → t.2 off = u.2 off := fun n => by
      have n1 : off ≠ 1 := fun e => n (l.2.2.2.2.2.2.2 (.inl e))
      have n2 : off ≠ 2 := fun e => n (l.2.2.2.2.2.2.2 (.inr e))
      rcases (show off = 3 ∨ off = 4 ∨ off = 5 ∨ off = 6 ∨ off = 7 ∨ off = 8 ∨ off = 9 by omega) with rfl | rfl | rfl | rfl | rfl | rfl | rfl
      · exact h.s
      · exact h.l
      · exact h.p
      · exact h.c
      · exact h.e
      · exact h.g
      · exact h.r
    unfold Pl.okB at a ⊢
    dsimp only at a ⊢
    by_cases n : nm = true
    · rw [if_pos n] at a ⊢
      rw [← so n]
      exact a
    · rw [if_neg n] at a ⊢
      rw [← si n]
      exact a
  · have := R.rep (by rw [e]; exact n)
    rw [← h.x, ← h.l, ← h.p, ← h.c, ← h.e]
    exact this
  · have := R.name (by rw [e]; exact n)
    rw [← h.i, ← h.s]
    exact this
  · have := R.tag (by rw [e]; exact n)
    rw [← h.g]
    exact this
end Go.Proofs.YtdacmhnniecmhaaDoor
/-
  The contract of tell's eachField, for whatever two functions it is handed.
-/
namespace Go.Proofs.YtdacmhnniecmhaaDoor
open Go.ChangeShapes Go.WideShapes Go.ChangeAt Go.RowKit Go.Lib

theorem Pls.at {w : World} {sb b : Nat} {L : List Pl} (h : Pls w sb b L) {i : Nat} (hi : i < L.length) :
    w.cell? ⟨sb, i * 5, none⟩ = some (.int .i64 (L[i]).tag) ∧ w.cell? ⟨sb, i * 5 + 1, none⟩ = some (.pointer (if (L[i]).isName = true then some ⟨b, (L[i]).off, none⟩ else none)) ∧ w.cell? ⟨sb, i * 5 + 2, none⟩ = some (.pointer (if (L[i]).isName = true then none else some ⟨b, (L[i]).off, none⟩)) ∧ w.cell? ⟨sb, i * 5 + 3, none⟩ = some (.int .i64 (L[i]).low) ∧ w.cell? ⟨sb, i * 5 + 4, none⟩ = some (.int .i64 (L[i]).high) :=
  ⟨h i hi 0 (by omega), h i hi 1 (by omega), h i hi 2 (by omega), h i hi 3 (by omega), h i hi 4 (by omega)⟩
/-- What one of the two functions does at a field. -/
def Steps (sb : Nat) (J : Nat → World → Prop) (i : Nat) (wa : World) (e : Ending) (wb : World) : Prop := e = .returned (.tuple #[]) ∧ J (i + 1) wb ∧ ∀ o, wb.cell? ⟨sb, o, none⟩ = wa.cell? ⟨sb, o, none⟩
set_option maxRecDepth 100000 in
set_option maxHeartbeats 4000000 in
theorem eachRight {w : World} {b cb : Nat} {k : Int} (h1 : 1 ≤ k) (h4 : k ≤ 4) (c0 : w.cell? ⟨b, 0, none⟩ = some (.int .i64 k)) (J : Nat → World → Prop)
    (start : ∀ w', Below w.heap.size w w' → J 0 w')
    (keep : ∀ i wa wb, J i wa → Below wa.heap.size wa wb → J i wb)
    (name : ∀ i, (h : i < (listK k).length) → ((listK k)[i]).isName = true → ∀ wa, J i wa → w.heap.size < wa.heap.size → Calls Tryd.prog 23 #[.int .i64 ((listK k)[i]).tag, .pointer (some ⟨b, ((listK k)[i]).off, none⟩), .pointer (some ⟨cb, 0, none⟩)] wa (Steps w.heap.size J i wa))
    (num : ∀ i, (h : i < (listK k).length) → ((listK k)[i]).isName = false → ∀ wa, J i wa → w.heap.size < wa.heap.size → Calls Tryd.prog 25 #[.int .i64 ((listK k)[i]).tag, .pointer (some ⟨b, ((listK k)[i]).off, none⟩), .int .i64 ((listK k)[i]).low, .int .i64 ((listK k)[i]).high, .pointer (some ⟨cb, 0, none⟩)] wa (Steps w.heap.size J i wa)) :
    Calls Tryd.prog 15 #[.pointer (some ⟨b, 0, none⟩), .func (.func 23) #[] #[.pointer (some ⟨cb, 0, none⟩)], .func (.func 25) #[] #[.pointer (some ⟨cb, 0, none⟩)]] w fun e w' => e = .returned (.tuple #[]) ∧ J (listK k).length w' := by
  have FO := fieldsOf_any h1 h4 b w c0
  have hlen := list_len k
  generalize listK k = L at *
  go_enter Tryd.func15, Tryd.ntmps15
  go_wp2_with fail
  refine FO.mono ?_
  rintro e w1 ⟨rfl, P1, b1⟩
  have J1 := start w1 b1
  clear FO start b1
  go_wp2_with fail
  go_loopw [11] (fun i wr => ∃ m : Nat, i = .int .i64 (m : Int) ∧ m ≤ L.length ∧ J m wr ∧ Pls wr w.heap.size b L) (fun i _ => L.length - (RowKit.intOf i).toNat)
  case atStart => exact ⟨0, rfl, by omega, J1, P1⟩
  case round =>
    clear P1 J1
    obtain ⟨m, rfl, hm, Jm, Pm⟩ := hrel
    by_cases hlt : m < L.length
    · have t0 : (m : Int) < (L.length : Int) := by omega
      obtain ⟨d0, d1, d2, d3, d4⟩ := Pm.at hlt
      have NM := name m hlt
      have NU := num m hlt
      have HP : Hid (Pls wr w.heap.size b L) := Pm
      have HJ : Hid (J m wr) := Jm
      obtain ⟨p, hp⟩ : ∃ p, L[m] = p := ⟨_, rfl⟩
      rw [hp] at d0 d1 d2 d3 d4 NM NU
      clear name num hp Pm Jm
      obtain ⟨tag, nm, off, low, high⟩ := p
      dsimp only at d0 d1 d2 d3 d4 NM NU
      cases nm with
      | true =>
        rw [if_pos rfl] at d1 d2
        have NM1 := NM rfl
        have lz := World.block_lt_of_cell? _ _ d0
        have bA : Below wr.heap.size wr (wr.alloc (.cells #[.int .i64 tag, .pointer (some ⟨b, off, none⟩), .pointer none, .int .i64 low, .int .i64 high] 76)) := (Below.refl _ wr).alloc (Nat.le_refl _) _
        have JA := keep m _ _ HJ.out bA
        have F := NM1 _ JA (by have lz' : w.heap.size < wr.heap.size := lz; simp; omega)
        have HA : Hid (∀ o, (wr.alloc (.cells #[.int .i64 tag, .pointer (some ⟨b, off, none⟩), .pointer none, .int .i64 low, .int .i64 high] 76)).cell? ⟨w.heap.size, o, none⟩ = wr.cell? ⟨w.heap.size, o, none⟩) := fun o => bA.cell (p := ⟨w.heap.size, o, none⟩) lz
        clear NM NU NM1 JA bA
        go_wp2_with fail
        refine F.mono ?_
        rintro e w2 ⟨rfl, J2, k2⟩
        have HP2 : Hid (Pls w2 w.heap.size b L) := fun i hi j hj => by rw [k2, HA.out]; exact HP.out i hi j hj
        have HJ2 : Hid (J (m + 1) w2) := J2
        clear F J2 k2
        go_wp2_with fail
        go_roundw
        case rel => exact ⟨m + 1, by simp, by omega, HJ2.out, HP2.out⟩
        case measure => simp [RowKit.intOf]; omega
      | false =>
        rw [if_neg (by decide)] at d1 d2
        have NM1 := NU rfl
        have lz := World.block_lt_of_cell? _ _ d0
        have bA : Below wr.heap.size wr (wr.alloc (.cells #[.int .i64 tag, .pointer none, .pointer (some ⟨b, off, none⟩), .int .i64 low, .int .i64 high] 76)) := (Below.refl _ wr).alloc (Nat.le_refl _) _
        have JA := keep m _ _ HJ.out bA
        have F := NM1 _ JA (by have lz' : w.heap.size < wr.heap.size := lz; simp; omega)
        have HA : Hid (∀ o, (wr.alloc (.cells #[.int .i64 tag, .pointer none, .pointer (some ⟨b, off, none⟩), .int .i64 low, .int .i64 high] 76)).cell? ⟨w.heap.size, o, none⟩ = wr.cell? ⟨w.heap.size, o, none⟩) := fun o => bA.cell (p := ⟨w.heap.size, o, none⟩) lz
        clear NM NU NM1 JA bA
        go_wp2_with fail
        refine F.mono ?_
        rintro e w2 ⟨rfl, J2, k2⟩
        have HP2 : Hid (Pls w2 w.heap.size b L) := fun i hi j hj => by rw [k2, HA.out]; exact HP.out i hi j hj
        have HJ2 : Hid (J (m + 1) w2) := J2
        clear F J2 k2
        go_wp2_with fail
        go_roundw
        case rel => exact ⟨m + 1, by simp, by omega, HJ2.out, HP2.out⟩
        case measure => simp [RowKit.intOf]; omega
    · obtain rfl : m = L.length := by omega
      have t0 : ¬ (L.length : Int) < (L.length : Int) := by omega
      clear name num Pm
      go_wp2_with fail
      go_end0
      exact ⟨rfl, Jm⟩
set_option maxRecDepth 100000 in
set_option maxHeartbeats 4000000 in
theorem eachEncode {w : World} {b cb : Nat} {k : Int} (h1 : 1 ≤ k) (h4 : k ≤ 4) (c0 : w.cell? ⟨b, 0, none⟩ = some (.int .i64 k)) (J : Nat → World → Prop)
    (start : ∀ w', Below w.heap.size w w' → J 0 w')
    (keep : ∀ i wa wb, J i wa → Below wa.heap.size wa wb → J i wb)
    (name : ∀ i, (h : i < (listK k).length) → ((listK k)[i]).isName = true → ∀ wa, J i wa → w.heap.size < wa.heap.size → Calls Tryd.prog 16 #[.int .i64 ((listK k)[i]).tag, .pointer (some ⟨b, ((listK k)[i]).off, none⟩), .pointer (some ⟨cb, 0, none⟩)] wa (Steps w.heap.size J i wa))
    (num : ∀ i, (h : i < (listK k).length) → ((listK k)[i]).isName = false → ∀ wa, J i wa → w.heap.size < wa.heap.size → Calls Tryd.prog 17 #[.int .i64 ((listK k)[i]).tag, .pointer (some ⟨b, ((listK k)[i]).off, none⟩), .int .i64 ((listK k)[i]).low, .int .i64 ((listK k)[i]).high, .pointer (some ⟨cb, 0, none⟩)] wa (Steps w.heap.size J i wa)) :
    Calls Tryd.prog 15 #[.pointer (some ⟨b, 0, none⟩), .func (.func 16) #[] #[.pointer (some ⟨cb, 0, none⟩)], .func (.func 17) #[] #[.pointer (some ⟨cb, 0, none⟩)]] w fun e w' => e = .returned (.tuple #[]) ∧ J (listK k).length w' := by
  have FO := fieldsOf_any h1 h4 b w c0
  have hlen := list_len k
  generalize listK k = L at *
  go_enter Tryd.func15, Tryd.ntmps15
  go_wp2_with fail
  refine FO.mono ?_
  rintro e w1 ⟨rfl, P1, b1⟩
  have J1 := start w1 b1
  clear FO start b1
  go_wp2_with fail
  go_loopw [11] (fun i wr => ∃ m : Nat, i = .int .i64 (m : Int) ∧ m ≤ L.length ∧ J m wr ∧ Pls wr w.heap.size b L) (fun i _ => L.length - (RowKit.intOf i).toNat)
  case atStart => exact ⟨0, rfl, by omega, J1, P1⟩
  case round =>
    clear P1 J1
    obtain ⟨m, rfl, hm, Jm, Pm⟩ := hrel
    by_cases hlt : m < L.length
    · have t0 : (m : Int) < (L.length : Int) := by omega
      obtain ⟨d0, d1, d2, d3, d4⟩ := Pm.at hlt
      have NM := name m hlt
      have NU := num m hlt
      have HP : Hid (Pls wr w.heap.size b L) := Pm
      have HJ : Hid (J m wr) := Jm
      obtain ⟨p, hp⟩ : ∃ p, L[m] = p := ⟨_, rfl⟩
      rw [hp] at d0 d1 d2 d3 d4 NM NU
      clear name num hp Pm Jm
      obtain ⟨tag, nm, off, low, high⟩ := p
      dsimp only at d0 d1 d2 d3 d4 NM NU
      cases nm with
      | true =>
        rw [if_pos rfl] at d1 d2
        have NM1 := NM rfl
        have lz := World.block_lt_of_cell? _ _ d0
        have bA : Below wr.heap.size wr (wr.alloc (.cells #[.int .i64 tag, .pointer (some ⟨b, off, none⟩), .pointer none, .int .i64 low, .int .i64 high] 76)) := (Below.refl _ wr).alloc (Nat.le_refl _) _
        have JA := keep m _ _ HJ.out bA
        have F := NM1 _ JA (by have lz' : w.heap.size < wr.heap.size := lz; simp; omega)
        have HA : Hid (∀ o, (wr.alloc (.cells #[.int .i64 tag, .pointer (some ⟨b, off, none⟩), .pointer none, .int .i64 low, .int .i64 high] 76)).cell? ⟨w.heap.size, o, none⟩ = wr.cell? ⟨w.heap.size, o, none⟩) := fun o => bA.cell (p := ⟨w.heap.size, o, none⟩) lz
        clear NM NU NM1 JA bA
        go_wp2_with fail
        refine F.mono ?_
        rintro e w2 ⟨rfl, J2, k2⟩
        have HP2 : Hid (Pls w2 w.heap.size b L) := fun i hi j hj => by rw [k2, HA.out]; exact HP.out i hi j hj
        have HJ2 : Hid (J (m + 1) w2) := J2
        clear F J2 k2
        go_wp2_with fail
        go_roundw
        case rel => exact ⟨m + 1, by simp, by omega, HJ2.out, HP2.out⟩
        case measure => simp [RowKit.intOf]; omega
      | false =>
        rw [if_neg (by decide)] at d1 d2
        have NM1 := NU rfl
        have lz := World.block_lt_of_cell? _ _ d0
        have bA : Below wr.heap.size wr (wr.alloc (.cells #[.int .i64 tag, .pointer none, .pointer (some ⟨b, off, none⟩), .int .i64 low, .int .i64 high] 76)) := (Below.refl _ wr).alloc (Nat.le_refl _) _
        have JA := keep m _ _ HJ.out bA
        have F := NM1 _ JA (by have lz' : w.heap.size < wr.heap.size := lz; simp; omega)
        have HA : Hid (∀ o, (wr.alloc (.cells #[.int .i64 tag, .pointer none, .pointer (some ⟨b, off, none⟩), .int .i64 low, .int .i64 high] 76)).cell? ⟨w.heap.size, o, none⟩ = wr.cell? ⟨w.heap.size, o, none⟩) := fun o => bA.cell (p := ⟨w.heap.size, o, none⟩) lz
        clear NM NU NM1 JA bA
        go_wp2_with fail
        refine F.mono ?_
        rintro e w2 ⟨rfl, J2, k2⟩
        have HP2 : Hid (Pls w2 w.heap.size b L) := fun i hi j hj => by rw [k2, HA.out]; exact HP.out i hi j hj
        have HJ2 : Hid (J (m + 1) w2) := J2
        clear F J2 k2
        go_wp2_with fail
        go_roundw
        case rel => exact ⟨m + 1, by simp, by omega, HJ2.out, HP2.out⟩
        case measure => simp [RowKit.intOf]; omega
    · obtain rfl : m = L.length := by omega
      have t0 : ¬ (L.length : Int) < (L.length : Int) := by omega
      clear name num Pm
      go_wp2_with fail
      go_end0
      exact ⟨rfl, Jm⟩
set_option maxRecDepth 100000 in
set_option maxHeartbeats 4000000 in
theorem eachRead {w : World} {b cb : Nat} {k : Int} (h1 : 1 ≤ k) (h4 : k ≤ 4) (c0 : w.cell? ⟨b, 0, none⟩ = some (.int .i64 k)) (J : Nat → World → Prop)
    (start : ∀ w', Below w.heap.size w w' → J 0 w')
    (keep : ∀ i wa wb, J i wa → Below wa.heap.size wa wb → J i wb)
    (name : ∀ i, (h : i < (listK k).length) → ((listK k)[i]).isName = true → ∀ wa, J i wa → w.heap.size < wa.heap.size → Calls Tryd.prog 51 #[.int .i64 ((listK k)[i]).tag, .pointer (some ⟨b, ((listK k)[i]).off, none⟩), .pointer (some ⟨cb, 0, none⟩)] wa (Steps w.heap.size J i wa))
    (num : ∀ i, (h : i < (listK k).length) → ((listK k)[i]).isName = false → ∀ wa, J i wa → w.heap.size < wa.heap.size → Calls Tryd.prog 53 #[.int .i64 ((listK k)[i]).tag, .pointer (some ⟨b, ((listK k)[i]).off, none⟩), .int .i64 ((listK k)[i]).low, .int .i64 ((listK k)[i]).high, .pointer (some ⟨cb, 0, none⟩)] wa (Steps w.heap.size J i wa)) :
    Calls Tryd.prog 15 #[.pointer (some ⟨b, 0, none⟩), .func (.func 51) #[] #[.pointer (some ⟨cb, 0, none⟩)], .func (.func 53) #[] #[.pointer (some ⟨cb, 0, none⟩)]] w fun e w' => e = .returned (.tuple #[]) ∧ J (listK k).length w' := by
  have FO := fieldsOf_any h1 h4 b w c0
  have hlen := list_len k
  generalize listK k = L at *
  go_enter Tryd.func15, Tryd.ntmps15
  go_wp2_with fail
  refine FO.mono ?_
  rintro e w1 ⟨rfl, P1, b1⟩
  have J1 := start w1 b1
  clear FO start b1
  go_wp2_with fail
  go_loopw [11] (fun i wr => ∃ m : Nat, i = .int .i64 (m : Int) ∧ m ≤ L.length ∧ J m wr ∧ Pls wr w.heap.size b L) (fun i _ => L.length - (RowKit.intOf i).toNat)
  case atStart => exact ⟨0, rfl, by omega, J1, P1⟩
  case round =>
    clear P1 J1
    obtain ⟨m, rfl, hm, Jm, Pm⟩ := hrel
    by_cases hlt : m < L.length
    · have t0 : (m : Int) < (L.length : Int) := by omega
      obtain ⟨d0, d1, d2, d3, d4⟩ := Pm.at hlt
      have NM := name m hlt
      have NU := num m hlt
      have HP : Hid (Pls wr w.heap.size b L) := Pm
      have HJ : Hid (J m wr) := Jm
      obtain ⟨p, hp⟩ : ∃ p, L[m] = p := ⟨_, rfl⟩
      rw [hp] at d0 d1 d2 d3 d4 NM NU
      clear name num hp Pm Jm
      obtain ⟨tag, nm, off, low, high⟩ := p
      dsimp only at d0 d1 d2 d3 d4 NM NU
      cases nm with
      | true =>
        rw [if_pos rfl] at d1 d2
        have NM1 := NM rfl
        have lz := World.block_lt_of_cell? _ _ d0
        have bA : Below wr.heap.size wr (wr.alloc (.cells #[.int .i64 tag, .pointer (some ⟨b, off, none⟩), .pointer none, .int .i64 low, .int .i64 high] 76)) := (Below.refl _ wr).alloc (Nat.le_refl _) _
        have JA := keep m _ _ HJ.out bA
        have F := NM1 _ JA (by have lz' : w.heap.size < wr.heap.size := lz; simp; omega)
        have HA : Hid (∀ o, (wr.alloc (.cells #[.int .i64 tag, .pointer (some ⟨b, off, none⟩), .pointer none, .int .i64 low, .int .i64 high] 76)).cell? ⟨w.heap.size, o, none⟩ = wr.cell? ⟨w.heap.size, o, none⟩) := fun o => bA.cell (p := ⟨w.heap.size, o, none⟩) lz
        clear NM NU NM1 JA bA
        go_wp2_with fail
        refine F.mono ?_
        rintro e w2 ⟨rfl, J2, k2⟩
        have HP2 : Hid (Pls w2 w.heap.size b L) := fun i hi j hj => by rw [k2, HA.out]; exact HP.out i hi j hj
        have HJ2 : Hid (J (m + 1) w2) := J2
        clear F J2 k2
        go_wp2_with fail
        go_roundw
        case rel => exact ⟨m + 1, by simp, by omega, HJ2.out, HP2.out⟩
        case measure => simp [RowKit.intOf]; omega
      | false =>
        rw [if_neg (by decide)] at d1 d2
        have NM1 := NU rfl
        have lz := World.block_lt_of_cell? _ _ d0
        have bA : Below wr.heap.size wr (wr.alloc (.cells #[.int .i64 tag, .pointer none, .pointer (some ⟨b, off, none⟩), .int .i64 low, .int .i64 high] 76)) := (Below.refl _ wr).alloc (Nat.le_refl _) _
        have JA := keep m _ _ HJ.out bA
        have F := NM1 _ JA (by have lz' : w.heap.size < wr.heap.size := lz; simp; omega)
        have HA : Hid (∀ o, (wr.alloc (.cells #[.int .i64 tag, .pointer none, .pointer (some ⟨b, off, none⟩), .int .i64 low, .int .i64 high] 76)).cell? ⟨w.heap.size, o, none⟩ = wr.cell? ⟨w.heap.size, o, none⟩) := fun o => bA.cell (p := ⟨w.heap.size, o, none⟩) lz
        clear NM NU NM1 JA bA
        go_wp2_with fail
        refine F.mono ?_
        rintro e w2 ⟨rfl, J2, k2⟩
        have HP2 : Hid (Pls w2 w.heap.size b L) := fun i hi j hj => by rw [k2, HA.out]; exact HP.out i hi j hj
        have HJ2 : Hid (J (m + 1) w2) := J2
        clear F J2 k2
        go_wp2_with fail
        go_roundw
        case rel => exact ⟨m + 1, by simp, by omega, HJ2.out, HP2.out⟩
        case measure => simp [RowKit.intOf]; omega
    · obtain rfl : m = L.length := by omega
      have t0 : ¬ (L.length : Int) < (L.length : Int) := by omega
      clear name num Pm
      go_wp2_with fail
      go_end0
      exact ⟨rfl, Jm⟩
end Go.Proofs.YtdacmhnniecmhaaDoor
/-
  Two tells held against each other.
-/
namespace Go.Proofs.YtdacmhnniecmhaaDoor
open Go.ChangeShapes Go.WideShapes Go.ChangeAt Go.RowKit Go.Lib

/-- Whether two tells are the same. -/
def sameB (t u : TellP) : Bool := decide (t.2 0 = u.2 0 ∧ t.1 1 = u.1 1 ∧ t.1 2 = u.1 2 ∧ t.2 3 = u.2 3 ∧ t.2 4 = u.2 4 ∧ t.2 5 = u.2 5 ∧ t.2 6 = u.2 6 ∧ t.2 7 = u.2 7 ∧ t.2 8 = u.2 8 ∧ t.2 9 = u.2 9)
theorem same_iff {t u : TellP} : sameB t u = true ↔ Same t u := by
  unfold sameB
  rw [decide_eq_true_eq]
  exact ⟨fun ⟨a, b, c, d, e, f, g, h, i, j⟩ => ⟨a, b, c, d, e, f, g, h, i, j⟩, fun h => ⟨h.k, h.i, h.x, h.s, h.l, h.p, h.c, h.e, h.g, h.r⟩⟩
theorem zero_same (t : TellP) (k : Int) (h : t.2 0 = k) : sameB t (zeroT k) = zeroB t := by
  unfold sameB zeroB zeroT
  simp [h]
theorem bytes_iff (a b : ByteArray) : a.toList = b.toList ↔ a = b := by
  have h := beq_bytes a b
  constructor
  · intro e
    rw [e, beq_self_eq_true] at h
    exact of_decide_eq_true h.symm
  · intro e
    rw [e]
set_option maxRecDepth 100000 in
set_option maxHeartbeats 4000000 in
theorem tell_eq (k k' : Int) (i i' x x' : ByteArray) (s s' l l' p p' c c' e e' g g' r r' : Int) (w : World) : (Op.equalIn 10000 23 (.agg #[.int .i64 k, .string i, .string x, .int .i64 s, .int .i64 l, .int .i64 p, .int .i64 c, .int .i64 e, .int .i64 g, .int .i64 r]) (.agg #[.int .i64 k', .string i', .string x', .int .i64 s', .int .i64 l', .int .i64 p', .int .i64 c', .int .i64 e', .int .i64 g', .int .i64 r'])).run Tryd.prog w = .ok (decide (k = k' ∧ i = i' ∧ x = x' ∧ s = s' ∧ l = l' ∧ p = p' ∧ c = c' ∧ e = e' ∧ g = g' ∧ r = r')) w := by
  have q1 : i.toList = i'.toList ↔ i = i' := bytes_iff i i'
  have q2 : x.toList = x'.toList ↔ x = x' := bytes_iff x x'
  rw [show (10000 : Nat) = 9999 + 1 from rfl, run_equalIn_struct (P := Tryd.prog) w 9999 _ _ _ (by kernel_rfl) (by kernel_rfl)]
  simp [Program.fieldsOf, Tryd.underlying23, Op.eqFields, go_sem, Tryd.underlying3, Tryd.underlying9]
  simp only [q1, q2]
  by_cases hk : k = k'
  case neg => simp [hk]
  by_cases hi : i = i'
  case neg => simp [hi]
  by_cases hx : x = x'
  case neg => simp [hx]
  by_cases hs : s = s'
  case neg => simp [hs]
  by_cases hl : l = l'
  case neg => simp [hl]
  by_cases hp : p = p'
  case neg => simp [hp]
  by_cases hc : c = c'
  case neg => simp [hc]
  by_cases he : e = e'
  case neg => simp [he]
  by_cases hg : g = g'
  case neg => simp [hg]
  by_cases hr : r = r'
  case neg => simp [hr]
  simp [hk, hi, hx, hs, hl, hp, hc, he, hg, hr]
set_option maxRecDepth 100000 in
set_option maxHeartbeats 4000000 in
theorem refTell_eq (k k' : Int) (i i' x x' : ByteArray) (s s' l l' p p' c c' e e' g g' r r' : Int) (w : World) : (Op.equalIn 10000 31 (.agg #[.int .i64 k, .string i, .string x, .int .i64 s, .int .i64 l, .int .i64 p, .int .i64 c, .int .i64 e, .int .i64 g, .int .i64 r]) (.agg #[.int .i64 k', .string i', .string x', .int .i64 s', .int .i64 l', .int .i64 p', .int .i64 c', .int .i64 e', .int .i64 g', .int .i64 r'])).run Tryd.prog w = .ok (decide (k = k' ∧ i = i' ∧ x = x' ∧ s = s' ∧ l = l' ∧ p = p' ∧ c = c' ∧ e = e' ∧ g = g' ∧ r = r')) w := by
  have q1 : i.toList = i'.toList ↔ i = i' := bytes_iff i i'
  have q2 : x.toList = x'.toList ↔ x = x' := bytes_iff x x'
  rw [show (10000 : Nat) = 9999 + 1 from rfl, run_equalIn_struct (P := Tryd.prog) w 9999 _ _ _ (by kernel_rfl) (by kernel_rfl)]
  simp [Program.fieldsOf, Tryd.underlying31, Op.eqFields, go_sem, Tryd.underlying3, Tryd.underlying9]
  simp only [q1, q2]
  by_cases hk : k = k'
  case neg => simp [hk]
  by_cases hi : i = i'
  case neg => simp [hi]
  by_cases hx : x = x'
  case neg => simp [hx]
  by_cases hs : s = s'
  case neg => simp [hs]
  by_cases hl : l = l'
  case neg => simp [hl]
  by_cases hp : p = p'
  case neg => simp [hp]
  by_cases hc : c = c'
  case neg => simp [hc]
  by_cases he : e = e'
  case neg => simp [he]
  by_cases hg : g = g'
  case neg => simp [hg]
  by_cases hr : r = r'
  case neg => simp [hr]
  simp [hk, hi, hx, hs, hl, hp, hc, he, hg, hr]
end Go.Proofs.YtdacmhnniecmhaaDoor
/-
  The contract of tell's Right, for every tell.
-/
namespace Go.Proofs.YtdacmhnniecmhaaDoor
open Go.ChangeShapes Go.WideShapes Go.ChangeAt Go.RowKit Go.Lib

/-- A tell in block b beside a bool in block cb. -/
structure RT (w : World) (b cb : Nat) (r : Bool) (t : TellP) : Prop where
  at_ : TellAt w b t
  cell : w.cell? ⟨cb, 0, none⟩ = some (.bool r)
  fz : w.frozen? ⟨cb, 0, none⟩ = false
  ne : b ≠ cb
theorem RT.still {w w' : World} {b cb : Nat} {r : Bool} {t : TellP} (h : RT w b cb r t) (k : Below w.heap.size w w') : RT w' b cb r t :=
  ⟨h.at_.still k, (k.cell (p := ⟨cb, 0, none⟩) (World.block_lt_of_cell? _ _ h.cell)).trans h.cell, (k.frozen (p := ⟨cb, 0, none⟩) (World.block_lt_of_cell? _ _ h.cell)).trans h.fz, h.ne⟩
def TwoB (b cb j : Nat) : Prop := j = b ∨ j = cb
theorem RT.setBool {w : World} {b cb : Nat} {r : Bool} {t : TellP} (h : RT w b cb r t) (x : Bool) : RT (w.setCell ⟨cb, 0, none⟩ (.bool x)) b cb x t ∧ But (TwoB b cb) w (w.setCell ⟨cb, 0, none⟩ (.bool x)) := by
  have hB : But (fun j => j = cb) w (w.setCell ⟨cb, 0, none⟩ (.bool x)) := (But.refl _ w).setCell cb 0 _ (fun _ => rfl)
  exact ⟨⟨h.at_.but hB h.ne, World.cell?_setCell_same _ _ _ h.cell, by rw [World.frozen?_setCell]; exact h.fz, h.ne⟩, hB.mono (fun i _ e => .inr e)⟩
theorem RT.setText {w : World} {b cb : Nat} {r : Bool} {t : TellP} (h : RT w b cb r t) {p : Pl} (h10 : p.off < 10) (hn : p.isName = true ↔ p.off = 1 ∨ p.off = 2) (hp : p.isName = true) : RT (w.setCell ⟨b, p.off, none⟩ (.string ⟨#[]⟩)) b cb r (p.clr t) ∧ But (TwoB b cb) w (w.setCell ⟨b, p.off, none⟩ (.string ⟨#[]⟩)) := by
  have hB : But (fun j => j = b) w (w.setCell ⟨b, p.off, none⟩ (.string ⟨#[]⟩)) := (But.refl _ w).setCell b p.off _ (fun _ => rfl)
  have lc := World.block_lt_of_cell? _ _ h.cell
  refine ⟨⟨?_, (hB.cell lc (fun e => h.ne e.symm)).trans h.cell, (hB.frozen lc (fun e => h.ne e.symm)).trans h.fz, h.ne⟩, hB.mono (fun i _ e => .inl e)⟩
  unfold Pl.clr
  rw [if_pos hp]
  exact h.at_.setText h10 hn hp _
theorem RT.setNum {w : World} {b cb : Nat} {r : Bool} {t : TellP} (h : RT w b cb r t) {p : Pl} (h10 : p.off < 10) (hn : p.isName = true ↔ p.off = 1 ∨ p.off = 2) (hp : p.isName = false) : RT (w.setCell ⟨b, p.off, none⟩ (.int .i64 0)) b cb r (p.clr t) ∧ But (TwoB b cb) w (w.setCell ⟨b, p.off, none⟩ (.int .i64 0)) := by
  have hB : But (fun j => j = b) w (w.setCell ⟨b, p.off, none⟩ (.int .i64 0)) := (But.refl _ w).setCell b p.off _ (fun _ => rfl)
  have lc := World.block_lt_of_cell? _ _ h.cell
  refine ⟨⟨?_, (hB.cell lc (fun e => h.ne e.symm)).trans h.cell, (hB.frozen lc (fun e => h.ne e.symm)).trans h.fz, h.ne⟩, hB.mono (fun i _ e => .inl e)⟩
  unfold Pl.clr
  rw [if_neg (by rw [hp]; decide)]
  exact h.at_.setNum h10 hn hp _
set_option maxHeartbeats 4000000 in
theorem right1_any {w : World} {b cb : Nat} {r : Bool} {t : TellP} (h : RT w b cb r t) {p : Pl} (h10 : p.off < 10) (hn : p.isName = true ↔ p.off = 1 ∨ p.off = 2) (hp : p.isName = true) :
    Calls Tryd.prog 23 #[.int .i64 p.tag, .pointer (some ⟨b, p.off, none⟩), .pointer (some ⟨cb, 0, none⟩)] w fun e w' => e = .returned (.tuple #[]) ∧ RT w' b cb (r && p.okB t) (p.clr t) ∧ But (TwoB b cb) w w' := by
  have c0 := h.cell
  have c1 := h.at_.text h10 hn hp
  have ok : p.okB t = vldB (t.1 p.off) := by unfold Pl.okB; rw [if_pos hp]
  rw [ok]
  cases r with
  | true =>
    have F := valid_any (t.1 p.off) w
    have HH : Hid (RT w b cb true t) := h
    rw [Bool.true_and]
    clear h ok
    generalize vldB (t.1 p.off) = V at *
    go_enter Tryd.func23, Tryd.ntmps23
    go_wp2_with fail
    refine F.mono ?_
    rintro e w1 ⟨rfl, b1⟩
    have h1 := HH.out.still b1
    have d0 := h1.cell
    have f0 := h1.fz
    obtain ⟨R1, B1⟩ := h1.setBool V
    have c2 := R1.at_.text h10 hn hp
    have f2 := R1.at_.fz p.off
    obtain ⟨R2, B2⟩ := R1.setText h10 hn hp
    have HR : Hid (RT ((w1.setCell ⟨cb, 0, none⟩ (.bool V)).setCell ⟨b, p.off, none⟩ (.string ⟨#[]⟩)) b cb V (p.clr t) ∧ But (TwoB b cb) w ((w1.setCell ⟨cb, 0, none⟩ (.bool V)).setCell ⟨b, p.off, none⟩ (.string ⟨#[]⟩))) := ⟨R2, (But.of_below b1).trans (B1.trans B2 (fun _ _ e => e)) (fun _ _ e => e)⟩
    clear h1 R1 B1 R2 B2 c0 c1 F b1 HH
    go_wp2_with fail
    go_end0
    exact ⟨rfl, HR.out⟩
  | false =>
    have f0 := h.fz
    obtain ⟨R1, B1⟩ := h.setBool false
    have c2 := R1.at_.text h10 hn hp
    have f2 := R1.at_.fz p.off
    obtain ⟨R2, B2⟩ := R1.setText h10 hn hp
    have HR : Hid (RT ((w.setCell ⟨cb, 0, none⟩ (.bool false)).setCell ⟨b, p.off, none⟩ (.string ⟨#[]⟩)) b cb false (p.clr t) ∧ But (TwoB b cb) w ((w.setCell ⟨cb, 0, none⟩ (.bool false)).setCell ⟨b, p.off, none⟩ (.string ⟨#[]⟩))) := ⟨R2, B1.trans B2 (fun _ _ e => e)⟩
    clear h R1 B1 R2 B2 ok
    rw [Bool.false_and]
    go_enter Tryd.func23, Tryd.ntmps23
    go_wp2_with fail
    go_end0
    exact ⟨rfl, HR.out⟩
set_option maxHeartbeats 4000000 in
theorem right2_any {w : World} {b cb : Nat} {r : Bool} {t : TellP} (h : RT w b cb r t) {p : Pl} (h10 : p.off < 10) (hn : p.isName = true ↔ p.off = 1 ∨ p.off = 2) (hp : p.isName = false) :
    Calls Tryd.prog 25 #[.int .i64 p.tag, .pointer (some ⟨b, p.off, none⟩), .int .i64 p.low, .int .i64 p.high, .pointer (some ⟨cb, 0, none⟩)] w fun e w' => e = .returned (.tuple #[]) ∧ RT w' b cb (r && p.okB t) (p.clr t) ∧ But (TwoB b cb) w w' := by
  have c0 := h.cell
  have f0 := h.fz
  have c1 := h.at_.num h10 hn hp
  have ok : p.okB t = decide (p.low ≤ t.2 p.off ∧ t.2 p.off ≤ p.high) := by unfold Pl.okB; rw [if_neg (by rw [hp]; decide)]
  have fb := h.at_.fz p.off
  obtain ⟨R1, B1⟩ := h.setBool (r && p.okB t)
  have c2 := R1.at_.num h10 hn hp
  obtain ⟨R2, B2⟩ := R1.setNum h10 hn hp
  have HR : Hid (RT ((w.setCell ⟨cb, 0, none⟩ (.bool (r && p.okB t))).setCell ⟨b, p.off, none⟩ (.int .i64 0)) b cb (r && p.okB t) (p.clr t) ∧ But (TwoB b cb) w ((w.setCell ⟨cb, 0, none⟩ (.bool (r && p.okB t))).setCell ⟨b, p.off, none⟩ (.int .i64 0))) := ⟨R2, B1.trans B2 (fun _ _ e => e)⟩
  clear h R1 B1 R2 B2
  generalize p.okB t = V at *
  generalize t.2 p.off = n at *
  generalize p.low = lo at *
  generalize p.high = hi at *
  cases r with
  | true =>
    rw [Bool.true_and] at HR c2 ⊢
    by_cases h1 : lo ≤ n
    · by_cases h2 : n ≤ hi
      · rw [decide_eq_true ⟨h1, h2⟩] at ok
        subst ok
        go_enter Tryd.func25, Tryd.ntmps25
        go_wp2_with fail
        go_end0
        exact ⟨rfl, HR.out⟩
      · rw [decide_eq_false (fun e => h2 e.2)] at ok
        subst ok
        go_enter Tryd.func25, Tryd.ntmps25
        go_wp2_with fail
        go_end0
        exact ⟨rfl, HR.out⟩
    · rw [decide_eq_false (fun e => h1 e.1)] at ok
      subst ok
      go_enter Tryd.func25, Tryd.ntmps25
      go_wp2_with fail
      go_end0
      exact ⟨rfl, HR.out⟩
  | false =>
    clear ok
    rw [Bool.false_and] at HR c2 ⊢
    go_enter Tryd.func25, Tryd.ntmps25
    go_wp2_with fail
    go_end0
    exact ⟨rfl, HR.out⟩
theorem clr_kind {p : Pl} (h : 1 ≤ p.off) (t : TellP) : (p.clr t).2 0 = t.2 0 := by
  unfold Pl.clr
  split
  · rfl
  · exact upd_other _ _ (by omega)
/-- Where Right stands behind some fields. -/
def RJ (W : World) (b cb : Nat) (L : List Pl) (T : TellP) (i : Nat) (w : World) : Prop := ∃ r u, RT w b cb r u ∧ rgt (L.drop i) r u = rgt L true T ∧ u.2 0 = T.2 0 ∧ Below W.heap.size W w
theorem drop_pl {L : List Pl} {k : Nat} (h : k < L.length) : L.drop k = L[k] :: L.drop (k + 1) := List.drop_eq_getElem_cons h
theorem RJ.next {W wa wb : World} {b cb : Nat} {L : List Pl} {T : TellP} {i : Nat} (h : i < L.length) {r : Bool} {u : TellP} (hg : rgt (L.drop i) r u = rgt L true T) (hk : u.2 0 = T.2 0) (h1 : 1 ≤ (L[i]).off) (hB : Below W.heap.size W wa) (lb : W.heap.size ≤ b) (lc : W.heap.size ≤ cb) (R : RT wb b cb (r && (L[i]).okB u) ((L[i]).clr u)) (B : But (TwoB b cb) wa wb) : RJ W b cb L T (i + 1) wb := by
  refine ⟨_, _, R, ?_, (clr_kind h1 u).trans hk, hB.trans (B.below hB.size (fun j e => by rcases e with rfl | rfl <;> omega))⟩
  rw [drop_pl h, rgt] at hg
  exact hg
set_option maxHeartbeats 4000000 in
theorem right_each {W w : World} {b cb : Nat} {t : TellP} (h : RT w b cb true t) (h1 : 1 ≤ t.2 0) (h4 : t.2 0 ≤ 4) (hB : Below W.heap.size W w) (lb : W.heap.size ≤ b) (lc : W.heap.size ≤ cb) :
    Calls Tryd.prog 15 #[.pointer (some ⟨b, 0, none⟩), .func (.func 23) #[] #[.pointer (some ⟨cb, 0, none⟩)], .func (.func 25) #[] #[.pointer (some ⟨cb, 0, none⟩)]] w fun e w' => ∃ r u, e = .returned (.tuple #[]) ∧ RT w' b cb r u ∧ rgt (listK (t.2 0)) true t = (r, u) ∧ u.2 0 = t.2 0 ∧ Below W.heap.size W w' := by
  have nb : w.heap.size ≠ b := by have := h.at_.lt; omega
  have nc : w.heap.size ≠ cb := by have := World.block_lt_of_cell? _ _ h.cell; dsimp only at this; omega
  refine (eachRight h1 h4 h.at_.kind (RJ W b cb (listK (t.2 0)) t) (fun w' k => ⟨true, t, h.still k, by rw [List.drop_zero], rfl, hB.trans (k.mono hB.size)⟩) ?_ ?_ ?_).mono ?_
  · rintro i wa wb ⟨r, u, R, hg, hk, B⟩ k
    exact ⟨r, u, R.still k, hg, hk, B.trans (k.mono B.size)⟩
  · rintro i hi hn wa ⟨r, u, R, hg, hk, B⟩ lw
    obtain ⟨_, _, _, _, e5, e6, e7⟩ := list_ends _ _ (List.getElem_mem hi)
    refine (right1_any R e5 e7 hn).mono ?_
    rintro e wb ⟨rfl, R2, B2⟩
    exact ⟨rfl, RJ.next hi hg hk e6 B lb lc R2 B2, fun o => B2.cell lw (fun e => e.elim nb nc)⟩
  · rintro i hi hn wa ⟨r, u, R, hg, hk, B⟩ lw
    obtain ⟨_, _, _, _, e5, e6, e7⟩ := list_ends _ _ (List.getElem_mem hi)
    refine (right2_any R e5 e7 hn).mono ?_
    rintro e wb ⟨rfl, R2, B2⟩
    exact ⟨rfl, RJ.next hi hg hk e6 B lb lc R2 B2, fun o => B2.cell lw (fun e => e.elim nb nc)⟩
  · rintro e w' ⟨rfl, r, u, R, hg, hk, B⟩
    rw [List.drop_length, rgt] at hg
    exact ⟨r, u, rfl, R, hg.symm, hk, B⟩
set_option maxHeartbeats 4000000 in
theorem right_any (t : TellP) (w : World) :
    Calls Tryd.prog 11 #[.agg #[.int .i64 (t.2 0), .string (t.1 1), .string (t.1 2), .int .i64 (t.2 3), .int .i64 (t.2 4), .int .i64 (t.2 5), .int .i64 (t.2 6), .int .i64 (t.2 7), .int .i64 (t.2 8), .int .i64 (t.2 9)]] w fun e w' => e = .returned (.bool (rightB t)) ∧ Below w.heap.size w w' := by
  have HB0 : Hid (Below w.heap.size w (boxT w t)) := boxT_below w t
  have K := isKind_any (t.2 0) (boxT w t)
  by_cases hk : 1 ≤ t.2 0 ∧ t.2 0 ≤ 4
  case neg =>
    have e : rightB t = false := by unfold rightB; rw [decide_eq_false hk, Bool.false_and]
    rw [e]
    rw [decide_eq_false hk] at K
    clear hk
    go_enter Tryd.func11, Tryd.ntmps11
    go_wp2_with fail
    refine K.mono ?_
    rintro e w1 ⟨rfl, rfl⟩
    go_wp2_with fail
    go_ret
    exact ⟨rfl, HB0.out⟩
  case pos =>
    have er : rightB t = ((rgt (listK (t.2 0)) true t).1 && zeroB (rgt (listK (t.2 0)) true t).2) := by unfold rightB; rw [decide_eq_true hk, Bool.true_and]
    rw [er]
    rw [decide_eq_true hk] at K
    have hR : RT ((boxT w t).alloc (.cells #[.bool true] 4)) w.heap.size (w.heap.size + 1) true t := by
      have b1 : Below (boxT w t).heap.size (boxT w t) ((boxT w t).alloc (.cells #[.bool true] 4)) := (Below.refl _ _).alloc (Nat.le_refl _) _
      have hz : (boxT w t).heap.size = w.heap.size + 1 := by simp
      refine ⟨(TellAt.box w t).still b1, ?_, ?_, by omega⟩
      · rw [← hz]; simp
      · rw [← hz]; simp
    have E := right_each (W := w) hR hk.1 hk.2 (HB0.out.alloc HB0.out.size _) (Nat.le_refl _) (by omega)
    obtain ⟨r0, u0, hg0⟩ : ∃ r0 u0, rgt (listK (t.2 0)) true t = (r0, u0) := ⟨_, _, rfl⟩
    rw [hg0]
    dsimp only
    rw [hg0] at E
    clear hk hR er hg0
    cases r0 with
    | false =>
      rw [Bool.false_and]
      go_enter Tryd.func11, Tryd.ntmps11
      go_wp2_with fail
      refine K.mono ?_
      rintro e w1 ⟨rfl, rfl⟩
      go_wp2_with fail
      refine E.mono ?_
      rintro e w2 ⟨r, u, rfl, R2, hg, hk0, B2⟩
      clear hk0
      simp only [Prod.mk.injEq] at hg
      obtain ⟨rfl, rfl⟩ := hg
      have HB2 : Hid (Below w.heap.size w w2) := B2
      have c0 := R2.cell
      obtain ⟨d0, d1, d2, d3, d4, d5, d6, d7, d8, d9⟩ := R2.at_.all
      clear E K R2 B2
      go_wp2_with fail
      go_ret
      exact ⟨rfl, HB2.out⟩
    | true =>
      have Q := fun w => tell_eq (u0.2 0) (u0.2 0) (u0.1 1) ⟨#[]⟩ (u0.1 2) ⟨#[]⟩ (u0.2 3) 0 (u0.2 4) 0 (u0.2 5) 0 (u0.2 6) 0 (u0.2 7) 0 (u0.2 8) 0 (u0.2 9) 0 w
      have ez : decide (u0.2 0 = u0.2 0 ∧ u0.1 1 = ⟨#[]⟩ ∧ u0.1 2 = ⟨#[]⟩ ∧ u0.2 3 = 0 ∧ u0.2 4 = 0 ∧ u0.2 5 = 0 ∧ u0.2 6 = 0 ∧ u0.2 7 = 0 ∧ u0.2 8 = 0 ∧ u0.2 9 = 0) = zeroB u0 := by
        unfold zeroB
        simp only [true_and]
      rw [ez] at Q
      rw [Bool.true_and]
      generalize zeroB u0 = z at *
      clear ez
      go_enter Tryd.func11, Tryd.ntmps11
      go_wp2_with fail
      refine K.mono ?_
      rintro e w1 ⟨rfl, rfl⟩
      go_wp2_with fail
      refine E.mono ?_
      rintro e w2 ⟨r, u, rfl, R2, hg, hk0, B2⟩
      clear hk0
      simp only [Prod.mk.injEq] at hg
      obtain ⟨rfl, rfl⟩ := hg
      have HB2 : Hid (Below w.heap.size w w2) := B2
      have c0 := R2.cell
      obtain ⟨d0, d1, d2, d3, d4, d5, d6, d7, d8, d9⟩ := R2.at_.all
      clear E K R2 B2
      go_wp2_with fail
      go_ret
      exact ⟨rfl, HB2.out⟩
end Go.Proofs.YtdacmhnniecmhaaDoor
