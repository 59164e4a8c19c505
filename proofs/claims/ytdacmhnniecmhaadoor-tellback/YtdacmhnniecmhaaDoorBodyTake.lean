/-
  Contracts of body's take, at numbers and at texts, out of the contract of what reads a value.
-/
import Derived.Test.YtdacmhnniecmhaaDoorBodyLook
namespace Go.Proofs.YtdacmhnniecmhaaDoor
open Go.ChangeShapes Go.WideShapes Go.ChangeAt Go.RowKit Go.Lib

/-- The blocks that an ask may write. -/
abbrev Two (fb bm : Nat) : Nat → Prop := fun k => k = fb ∨ k = bm
/-- The form with another error, written in both cells. -/
theorem Frm.fail {n0 : Nat} {w : World} {fb bm n : Nat} {tv : Value} {tags : List Int} {L : Int → Option (ByteArray × Bool)} {at_ e : Int} (h : Frm n0 w fb bm n tv tags L at_ e) (t e1 : Int) :
    Frm n0 ((w.setCell ⟨fb, 2, none⟩ (.int .i64 t)).setCell ⟨fb, 3, none⟩ (.int .i64 e1)) fb bm n tv tags L t e1 where
  c0 := by rw [World.cell?_setCell_other, World.cell?_setCell_other]; exact h.c0; all_goals simp
  c1 := by rw [World.cell?_setCell_other, World.cell?_setCell_other]; exact h.c1; all_goals simp
  c2 := by rw [World.cell?_setCell_other]; exact World.cell?_setCell_same _ _ _ h.c2; simp
  c3 := World.cell?_setCell_same _ _ _ (show (w.setCell ⟨fb, 2, none⟩ (.int .i64 t)).cell? ⟨fb, 3, none⟩ = some (.int .i64 e) by rw [World.cell?_setCell_other]; exact h.c3; simp)
  f1 := by rw [World.frozen?_setCell, World.frozen?_setCell]; exact h.f1
  f2 := by rw [World.frozen?_setCell, World.frozen?_setCell]; exact h.f2
  f3 := by rw [World.frozen?_setCell, World.frozen?_setCell]; exact h.f3
  map := h.map.kept (S := fun k => k = fb) (((But.refl (fun k => k = fb) w).setCell fb 2 _ (fun _ => rfl)).setCell fb 3 _ (fun _ => rfl)) h.ne
  own := own_kept (S := fun k => k = fb) h.own (((But.refl (fun k => k = fb) w).setCell fb 2 _ (fun _ => rfl)).setCell fb 3 _ (fun _ => rfl)) (fun g hg e => h.nf (by rw [hg, e]))
  lof := h.lof
  lom := h.lom
  ne := h.ne
  nf := h.nf
/-- The form with another field in its map. -/
theorem Frm.stored {n0 : Nat} {w w' : World} {fb bm n m : Nat} {tv : Value} {tags : List Int} {L L' : Int → Option (ByteArray × Bool)} {at_ e : Int} (h : Frm n0 w fb bm n tv tags L at_ e) (k : But (fun i => i = bm) w w') (hm : FMap w' bm m L') :
    Frm n0 w' fb bm m tv tags L' at_ e where
  c0 := (k.cell h.lt (fun e => h.ne e.symm)).trans h.c0
  c1 := (k.cell h.lt (fun e => h.ne e.symm)).trans h.c1
  c2 := (k.cell h.lt (fun e => h.ne e.symm)).trans h.c2
  c3 := (k.cell h.lt (fun e => h.ne e.symm)).trans h.c3
  f1 := (k.frozen h.lt (fun e => h.ne e.symm)).trans h.f1
  f2 := (k.frozen h.lt (fun e => h.ne e.symm)).trans h.f2
  f3 := (k.frozen h.lt (fun e => h.ne e.symm)).trans h.f3
  map := hm
  own := own_kept h.own k (fun g hg e => h.nm (by rw [hg, e]))
  lof := h.lof
  lom := h.lom
  ne := h.ne
  nf := h.nf

set_option maxRecDepth 1000000 in
set_option maxHeartbeats 4000000 in
theorem takeI_good {n0 : Nat} {w : World} {fb bm n : Nat} {tv : Value} {tags : List Int} {L : Int → Option (ByteArray × Bool)} {at_ : Int} (h : Frm n0 w fb bm n tv tags L at_ 0) (hn : n ≤ 1000000) (t : Int) (h1 : -9223372036854775808 ≤ t) (h2 : t ≤ 9223372036854775807) (s : ByteArray) (b : Bool) (hL : L t = some (s, b)) (b1 b2 : Nat) (x : Int)
    (R : ∀ w1, Below w.heap.size w w1 → Calls Tryd.prog 68 #[.string s, .pointer (some ⟨b1, 0, none⟩), .pointer (some ⟨b2, 0, none⟩)] w1 fun e w2 => e = .returned (.tuple #[.int .i64 x, .int .i64 0]) ∧ Below w1.heap.size w1 w2) :
    Calls Tryd.prog 67 #[.pointer (some ⟨fb, 0, none⟩), .int .i64 t, .func (.func 68) #[] #[.pointer (some ⟨b1, 0, none⟩), .pointer (some ⟨b2, 0, none⟩)]] w fun e w' => e = .returned (.int .i64 x) ∧ Frm n0 w' fb bm (n + 1) tv tags (updI L t (s, true)) at_ 0 ∧ But (Two fb bm) w w' := by
  have F := made_yes h
  have lk := h.map.look_ok t h1 h2
  rw [hL, show fldV (some (s, b)) = .agg #[.string s, .bool b] from rfl, show (some (s, b)).isSome = true from rfl] at lk
  have c0 := h.c0
  have c3 := h.c3
  have lt := h.lt
  have HF : Hid (Frm n0 w fb bm n tv tags L at_ 0) := h
  have HL : Hid (L t = some (s, b)) := hL
  have A1 : Below w.heap.size w (w.alloc (.cells #[.string s, .bool b] 100)) := (Below.refl _ w).alloc (Nat.le_refl _) _
  have R1 := R _ A1
  clear h hL R
  go_enter Tryd.func67, Tryd.ntmps67
  go_wp2_with fail
  refine F.mono ?_
  rintro e w1 ⟨rfl, rfl⟩
  clear F
  go_wp2_with fail
  refine R1.mono ?_
  rintro e w2 ⟨rfl, hb⟩
  clear R1
  have o0 : w2.cell? ⟨w1.heap.size, 0, none⟩ = some (.string s) := (hb.cell (p := ⟨w1.heap.size, 0, none⟩) (by simp)).trans (by simp)
  have o1 : w2.cell? ⟨w1.heap.size, 1, none⟩ = some (.bool b) := (hb.cell (p := ⟨w1.heap.size, 1, none⟩) (by simp)).trans (by simp)
  have of1 : w2.frozen? ⟨w1.heap.size, 1, none⟩ = false := (hb.frozen (p := ⟨w1.heap.size, 1, none⟩) (by simp)).trans (by simp)
  have B2 : Below w1.heap.size w1 w2 := A1.trans (hb.mono (by simp))
  obtain ⟨w3, hw3⟩ : ∃ w3, w3 = w2.setCell ⟨w1.heap.size, 1, none⟩ (.bool true) := ⟨_, rfl⟩
  have B3 : Below w1.heap.size w1 w3 := by rw [hw3]; exact B2.setCell (Nat.le_refl _) _
  have G3 := HF.out.still B3
  have q0 : w3.cell? ⟨w1.heap.size, 0, none⟩ = some (.string s) := by rw [hw3, World.cell?_setCell_other]; exact o0; simp
  have q1 : w3.cell? ⟨w1.heap.size, 1, none⟩ = some (.bool true) := by rw [hw3]; exact World.cell?_setCell_same _ _ _ o1
  obtain ⟨W, hW, hW2⟩ := G3.map.stores hn t h1 h2 s true
  have d0 := G3.c0
  have HG : Hid (Frm n0 w3 fb bm n tv tags L at_ 0) := G3
  have HW : Hid (∀ m, FMap (W m) bm (n + 1) (updI L t (s, true)) ∧ But (fun k => k = bm) w3 (W m)) := hW2
  have HB : Hid (Below w1.heap.size w1 w3) := B3
  clear hW2 G3 B3 B2 hb c0 c3 lk A1
  have HW3 : Hid (w3 = w2.setCell ⟨w1.heap.size, 1, none⟩ (.bool true)) := hw3
  clear hw3
  go_wp2_with fail
  rw [← HW3.out]
  clear o0 o1 of1
  have hW1 : (Instr.mapUpdate 95 (.map (some bm)) (.int .i64 t) (.agg #[.string s, .bool true])).run Tryd.prog w3.drew = .ok () (W 1) := hW 1
  clear hW HW3
  go_region
  go_wp2_with fail
  go_ret
  exact ⟨rfl, HG.out.stored (HW.out 1).2 (HW.out 1).1, (But.of_below HB.out).trans (HW.out 1).2 (fun _ _ e => .inr e)⟩
set_option maxRecDepth 1000000 in
set_option maxHeartbeats 4000000 in
theorem takeI_bad {n0 : Nat} {w : World} {fb bm n : Nat} {tv : Value} {tags : List Int} {L : Int → Option (ByteArray × Bool)} {at_ : Int} (h : Frm n0 w fb bm n tv tags L at_ 0) (t : Int) (h1 : -9223372036854775808 ≤ t) (h2 : t ≤ 9223372036854775807) (s : ByteArray) (b : Bool) (hL : L t = some (s, b)) (b1 b2 : Nat) (x e1 : Int) (he : e1 ≠ 0)
    (R : ∀ w1, Below w.heap.size w w1 → Calls Tryd.prog 68 #[.string s, .pointer (some ⟨b1, 0, none⟩), .pointer (some ⟨b2, 0, none⟩)] w1 fun e w2 => e = .returned (.tuple #[.int .i64 x, .int .i64 e1]) ∧ Below w1.heap.size w1 w2) :
    Calls Tryd.prog 67 #[.pointer (some ⟨fb, 0, none⟩), .int .i64 t, .func (.func 68) #[] #[.pointer (some ⟨b1, 0, none⟩), .pointer (some ⟨b2, 0, none⟩)]] w fun e w' => e = .returned (.int .i64 0) ∧ Frm n0 w' fb bm n tv tags L t e1 ∧ But (Two fb bm) w w' := by
  have F := made_yes h
  have lk := h.map.look_ok t h1 h2
  rw [hL, show fldV (some (s, b)) = .agg #[.string s, .bool b] from rfl, show (some (s, b)).isSome = true from rfl] at lk
  have c0 := h.c0
  have c3 := h.c3
  have lt := h.lt
  have HF : Hid (Frm n0 w fb bm n tv tags L at_ 0) := h
  have A1 : Below w.heap.size w (w.alloc (.cells #[.string s, .bool b] 100)) := (Below.refl _ w).alloc (Nat.le_refl _) _
  have R1 := R _ A1
  have te : (e1 == 0) = false := beq_false_of_ne he
  clear h hL R
  go_enter Tryd.func67, Tryd.ntmps67
  go_wp2_with fail
  refine F.mono ?_
  rintro e w1 ⟨rfl, rfl⟩
  clear F
  go_wp2_with fail
  refine R1.mono ?_
  rintro e w2 ⟨rfl, hb⟩
  clear R1
  have B2 : Below w1.heap.size w1 w2 := A1.trans (hb.mono (by simp))
  have G2 := HF.out.still B2
  have d0 := G2.c0
  have d2 := G2.c2
  have d3 := G2.c3
  have g2 := G2.f2
  have g3 := G2.f3
  have HG : Hid (Frm n0 w2 fb bm n tv tags L at_ 0) := G2
  have HB : Hid (Below w1.heap.size w1 w2) := B2
  clear G2 B2 hb c0 c3 lk A1
  go_wp2_with fail
  go_ret
  exact ⟨rfl, HG.out.fail t e1, (((But.of_below HB.out).setCell fb 2 _ (fun _ => .inl rfl)).setCell fb 3 _ (fun _ => .inl rfl))⟩
set_option maxRecDepth 1000000 in
set_option maxHeartbeats 4000000 in
theorem takeS_good {n0 : Nat} {w : World} {fb bm n : Nat} {tv : Value} {tags : List Int} {L : Int → Option (ByteArray × Bool)} {at_ : Int} (h : Frm n0 w fb bm n tv tags L at_ 0) (hn : n ≤ 1000000) (t : Int) (h1 : -9223372036854775808 ≤ t) (h2 : t ≤ 9223372036854775807) (s : ByteArray) (b : Bool) (hL : L t = some (s, b)) (x : ByteArray)
    (R : ∀ w1, Below w.heap.size w w1 → Calls Tryd.prog 66 #[.string s] w1 fun e w2 => e = .returned (.tuple #[.string x, .int .i64 0]) ∧ Below w1.heap.size w1 w2) :
    Calls Tryd.prog 65 #[.pointer (some ⟨fb, 0, none⟩), .int .i64 t, .func (.func 66) #[] #[]] w fun e w' => e = .returned (.string x) ∧ Frm n0 w' fb bm (n + 1) tv tags (updI L t (s, true)) at_ 0 ∧ But (Two fb bm) w w' := by
  have F := made_yes h
  have lk := h.map.look_ok t h1 h2
  rw [hL, show fldV (some (s, b)) = .agg #[.string s, .bool b] from rfl, show (some (s, b)).isSome = true from rfl] at lk
  have c0 := h.c0
  have c3 := h.c3
  have lt := h.lt
  have HF : Hid (Frm n0 w fb bm n tv tags L at_ 0) := h
  have HL : Hid (L t = some (s, b)) := hL
  have A1 : Below w.heap.size w (w.alloc (.cells #[.string s, .bool b] 100)) := (Below.refl _ w).alloc (Nat.le_refl _) _
  have R1 := R _ A1
  clear h hL R
  go_enter Tryd.func65, Tryd.ntmps65
  go_wp2_with fail
  refine F.mono ?_
  rintro e w1 ⟨rfl, rfl⟩
  clear F
  go_wp2_with fail
  refine R1.mono ?_
  rintro e w2 ⟨rfl, hb⟩
  clear R1
  have o0 : w2.cell? ⟨w1.heap.size, 0, none⟩ = some (.string s) := (hb.cell (p := ⟨w1.heap.size, 0, none⟩) (by simp)).trans (by simp)
  have o1 : w2.cell? ⟨w1.heap.size, 1, none⟩ = some (.bool b) := (hb.cell (p := ⟨w1.heap.size, 1, none⟩) (by simp)).trans (by simp)
  have of1 : w2.frozen? ⟨w1.heap.size, 1, none⟩ = false := (hb.frozen (p := ⟨w1.heap.size, 1, none⟩) (by simp)).trans (by simp)
  have B2 : Below w1.heap.size w1 w2 := A1.trans (hb.mono (by simp))
  obtain ⟨w3, hw3⟩ : ∃ w3, w3 = w2.setCell ⟨w1.heap.size, 1, none⟩ (.bool true) := ⟨_, rfl⟩
  have B3 : Below w1.heap.size w1 w3 := by rw [hw3]; exact B2.setCell (Nat.le_refl _) _
  have G3 := HF.out.still B3
  have q0 : w3.cell? ⟨w1.heap.size, 0, none⟩ = some (.string s) := by rw [hw3, World.cell?_setCell_other]; exact o0; simp
  have q1 : w3.cell? ⟨w1.heap.size, 1, none⟩ = some (.bool true) := by rw [hw3]; exact World.cell?_setCell_same _ _ _ o1
  obtain ⟨W, hW, hW2⟩ := G3.map.stores hn t h1 h2 s true
  have d0 := G3.c0
  have HG : Hid (Frm n0 w3 fb bm n tv tags L at_ 0) := G3
  have HW : Hid (∀ m, FMap (W m) bm (n + 1) (updI L t (s, true)) ∧ But (fun k => k = bm) w3 (W m)) := hW2
  have HB : Hid (Below w1.heap.size w1 w3) := B3
  clear hW2 G3 B3 B2 hb c0 c3 lk A1
  have HW3 : Hid (w3 = w2.setCell ⟨w1.heap.size, 1, none⟩ (.bool true)) := hw3
  clear hw3
  go_wp2_with fail
  rw [← HW3.out]
  clear o0 o1 of1
  have hW1 : (Instr.mapUpdate 95 (.map (some bm)) (.int .i64 t) (.agg #[.string s, .bool true])).run Tryd.prog w3.drew = .ok () (W 1) := hW 1
  clear hW HW3
  go_region
  go_wp2_with fail
  go_ret
  exact ⟨rfl, HG.out.stored (HW.out 1).2 (HW.out 1).1, (But.of_below HB.out).trans (HW.out 1).2 (fun _ _ e => .inr e)⟩
set_option maxRecDepth 1000000 in
set_option maxHeartbeats 4000000 in
theorem takeS_bad {n0 : Nat} {w : World} {fb bm n : Nat} {tv : Value} {tags : List Int} {L : Int → Option (ByteArray × Bool)} {at_ : Int} (h : Frm n0 w fb bm n tv tags L at_ 0) (t : Int) (h1 : -9223372036854775808 ≤ t) (h2 : t ≤ 9223372036854775807) (s : ByteArray) (b : Bool) (hL : L t = some (s, b)) (x : ByteArray) (e1 : Int) (he : e1 ≠ 0)
    (R : ∀ w1, Below w.heap.size w w1 → Calls Tryd.prog 66 #[.string s] w1 fun e w2 => e = .returned (.tuple #[.string x, .int .i64 e1]) ∧ Below w1.heap.size w1 w2) :
    Calls Tryd.prog 65 #[.pointer (some ⟨fb, 0, none⟩), .int .i64 t, .func (.func 66) #[] #[]] w fun e w' => e = .returned (.string ⟨#[]⟩) ∧ Frm n0 w' fb bm n tv tags L t e1 ∧ But (Two fb bm) w w' := by
  have F := made_yes h
  have lk := h.map.look_ok t h1 h2
  rw [hL, show fldV (some (s, b)) = .agg #[.string s, .bool b] from rfl, show (some (s, b)).isSome = true from rfl] at lk
  have c0 := h.c0
  have c3 := h.c3
  have lt := h.lt
  have HF : Hid (Frm n0 w fb bm n tv tags L at_ 0) := h
  have A1 : Below w.heap.size w (w.alloc (.cells #[.string s, .bool b] 100)) := (Below.refl _ w).alloc (Nat.le_refl _) _
  have R1 := R _ A1
  have te : (e1 == 0) = false := beq_false_of_ne he
  clear h hL R
  go_enter Tryd.func65, Tryd.ntmps65
  go_wp2_with fail
  refine F.mono ?_
  rintro e w1 ⟨rfl, rfl⟩
  clear F
  go_wp2_with fail
  refine R1.mono ?_
  rintro e w2 ⟨rfl, hb⟩
  clear R1
  have B2 : Below w1.heap.size w1 w2 := A1.trans (hb.mono (by simp))
  have G2 := HF.out.still B2
  have d0 := G2.c0
  have d2 := G2.c2
  have d3 := G2.c3
  have g2 := G2.f2
  have g3 := G2.f3
  have HG : Hid (Frm n0 w2 fb bm n tv tags L at_ 0) := G2
  have HB : Hid (Below w1.heap.size w1 w2) := B2
  clear G2 B2 hb c0 c3 lk A1
  go_wp2_with fail
  go_ret
  exact ⟨rfl, HG.out.fail t e1, (((But.of_below HB.out).setCell fb 2 _ (fun _ => .inl rfl)).setCell fb 3 _ (fun _ => .inl rfl))⟩
end Go.Proofs.YtdacmhnniecmhaaDoor
