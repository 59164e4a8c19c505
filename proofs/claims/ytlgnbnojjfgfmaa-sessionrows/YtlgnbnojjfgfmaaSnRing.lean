/-
  Orders in memory, a ring of orders in memory, and the contracts of ring's New, made, cell, Len, Peek.
-/
import Derived.Test.YtlgnbnojjfgfmaaBut
namespace Go.Proofs.Ytlgnbnojjfgfmaa.SN
open Go.ChangeShapes Go.WideShapes Go.ChangeAt Go.RowKit Go.Lib

/-- An order. -/
structure Od where
  k : Int
  s : Int
  i : ByteArray
  y : ByteArray
  d : Int
  q : Int
  p : Int
/-- No order. -/
def o0 : Od := ⟨0, 0, ⟨#[]⟩, ⟨#[]⟩, 0, 0, 0⟩
/-- Its cells. -/
def oc (x : Od) (j : Nat) : Value := if j = 0 then .int .i64 x.k else if j = 1 then .int .i64 x.s else if j = 2 then .string x.i else if j = 3 then .string x.y else if j = 4 then .int .i64 x.d else if j = 5 then .int .i64 x.q else .int .i64 x.p
/-- Its value. -/
abbrev oV (x : Od) : Value := .agg #[.int .i64 x.k, .int .i64 x.s, .string x.i, .string x.y, .int .i64 x.d, .int .i64 x.q, .int .i64 x.p]
/-- Seven cells from cell a of block b on hold it. -/
def Sev (w : World) (b a : Nat) (x : Od) : Prop := ∀ j, j < 7 → w.cell? ⟨b, a + j, none⟩ = some (oc x j)
theorem Sev.all {w : World} {b a : Nat} {x : Od} (h : Sev w b a x) : w.cell? ⟨b, a, none⟩ = some (.int .i64 x.k) ∧ w.cell? ⟨b, a + 1, none⟩ = some (.int .i64 x.s) ∧ w.cell? ⟨b, a + 2, none⟩ = some (.string x.i) ∧ w.cell? ⟨b, a + 3, none⟩ = some (.string x.y) ∧ w.cell? ⟨b, a + 4, none⟩ = some (.int .i64 x.d) ∧ w.cell? ⟨b, a + 5, none⟩ = some (.int .i64 x.q) ∧ w.cell? ⟨b, a + 6, none⟩ = some (.int .i64 x.p) :=
  ⟨h 0 (by omega), h 1 (by omega), h 2 (by omega), h 3 (by omega), h 4 (by omega), h 5 (by omega), h 6 (by omega)⟩
theorem Sev.all0 {w : World} {b : Nat} {x : Od} (h : Sev w b 0 x) : w.cell? ⟨b, 0, none⟩ = some (.int .i64 x.k) ∧ w.cell? ⟨b, 1, none⟩ = some (.int .i64 x.s) ∧ w.cell? ⟨b, 2, none⟩ = some (.string x.i) ∧ w.cell? ⟨b, 3, none⟩ = some (.string x.y) ∧ w.cell? ⟨b, 4, none⟩ = some (.int .i64 x.d) ∧ w.cell? ⟨b, 5, none⟩ = some (.int .i64 x.q) ∧ w.cell? ⟨b, 6, none⟩ = some (.int .i64 x.p) :=
  ⟨h 0 (by omega), h 1 (by omega), h 2 (by omega), h 3 (by omega), h 4 (by omega), h 5 (by omega), h 6 (by omega)⟩
theorem Sev.lt {w : World} {b a : Nat} {x : Od} (h : Sev w b a x) : b < w.heap.size := World.block_lt_of_cell? _ _ (h 0 (by omega))
theorem Sev.kept {T : Nat → Prop} {w w' : World} {b a : Nat} {x : Od} (h : Sev w b a x) (k : But T w w') (hb : ¬ T b) : Sev w' b a x := fun j hj => (k.cell h.lt hb).trans (h j hj)
theorem Sev.below {w w' : World} {b a : Nat} {x : Od} (h : Sev w b a x) (k : Below w.heap.size w w') : Sev w' b a x := h.kept (T := fun _ => False) (But.of_below k) id
/-- A new block with an order. -/
abbrev boxO (w : World) (x : Od) : World := w.alloc (.cells #[.int .i64 x.k, .int .i64 x.s, .string x.i, .string x.y, .int .i64 x.d, .int .i64 x.q, .int .i64 x.p] 34)
theorem boxO_sev (w : World) (x : Od) (t : TypeId) : Sev (w.alloc (.cells #[.int .i64 x.k, .int .i64 x.s, .string x.i, .string x.y, .int .i64 x.d, .int .i64 x.q, .int .i64 x.p] t)) w.heap.size 0 x := by
  intro j hj
  rcases (show j = 0 ∨ j = 1 ∨ j = 2 ∨ j = 3 ∨ j = 4 ∨ j = 5 ∨ j = 6 by omega) with rfl | rfl | rfl | rfl | rfl | rfl | rfl <;> simp [oc]
/-- An order put into seven cells. -/
def put7 (w : World) (b a : Nat) (x : Od) : World := ((((((w.setCell ⟨b, a, none⟩ (.int .i64 x.k)).setCell ⟨b, a + 1, none⟩ (.int .i64 x.s)).setCell ⟨b, a + 2, none⟩ (.string x.i)).setCell ⟨b, a + 3, none⟩ (.string x.y)).setCell ⟨b, a + 4, none⟩ (.int .i64 x.d)).setCell ⟨b, a + 5, none⟩ (.int .i64 x.q)).setCell ⟨b, a + 6, none⟩ (.int .i64 x.p)
theorem put7_out (w : World) (b a : Nat) (x : Od) (c k : Nat) (h : c ≠ b ∨ k < a ∨ a + 7 ≤ k) : (put7 w b a x).cell? ⟨c, k, none⟩ = w.cell? ⟨c, k, none⟩ := by
  unfold put7
  have e : ∀ j, j < 7 → (⟨b, a + j, none⟩ : Addr) ≠ ⟨c, k, none⟩ := fun j hj e => by
    injection e with e1 e2
    rcases h with h | h | h
    · exact h e1.symm
    · omega
    · omega
  rw [World.cell?_setCell_other _ _ _ _ (e 6 (by omega)), World.cell?_setCell_other _ _ _ _ (e 5 (by omega)), World.cell?_setCell_other _ _ _ _ (e 4 (by omega)), World.cell?_setCell_other _ _ _ _ (e 3 (by omega)), World.cell?_setCell_other _ _ _ _ (e 2 (by omega)), World.cell?_setCell_other _ _ _ _ (e 1 (by omega))]
  exact World.cell?_setCell_other _ _ _ _ (e 0 (by omega))
theorem isSome_set {w : World} {p q : Addr} {v : Value} (h : (w.cell? q).isSome = true) : ((w.setCell p v).cell? q).isSome = true := by
  by_cases e : p = q
  · subst e
    rw [World.cell?_setCell_same' _ _ _ h]; rfl
  · rw [World.cell?_setCell_other _ _ _ _ e]; exact h
theorem put7_in (w : World) (b a : Nat) (x : Od) (h : ∀ j, j < 7 → (w.cell? ⟨b, a + j, none⟩).isSome = true) : Sev (put7 w b a x) b a x := by
  intro j hj
  have n : ∀ i, i ≠ j → (⟨b, a + i, none⟩ : Addr) ≠ ⟨b, a + j, none⟩ := fun i hi e => by injection e with _ e2; omega
  unfold put7
  rcases (show j = 0 ∨ j = 1 ∨ j = 2 ∨ j = 3 ∨ j = 4 ∨ j = 5 ∨ j = 6 by omega) with rfl | rfl | rfl | rfl | rfl | rfl | rfl
  · rw [World.cell?_setCell_other _ _ _ _ (n 6 (by omega)), World.cell?_setCell_other _ _ _ _ (n 5 (by omega)), World.cell?_setCell_other _ _ _ _ (n 4 (by omega)), World.cell?_setCell_other _ _ _ _ (n 3 (by omega)), World.cell?_setCell_other _ _ _ _ (n 2 (by omega)), World.cell?_setCell_other _ _ _ _ (n 1 (by omega))]; exact World.cell?_setCell_same' _ _ _ (h 0 (by omega))
  · rw [World.cell?_setCell_other _ _ _ _ (n 6 (by omega)), World.cell?_setCell_other _ _ _ _ (n 5 (by omega)), World.cell?_setCell_other _ _ _ _ (n 4 (by omega)), World.cell?_setCell_other _ _ _ _ (n 3 (by omega)), World.cell?_setCell_other _ _ _ _ (n 2 (by omega))]; exact World.cell?_setCell_same' _ _ _ (isSome_set (h 1 (by omega)))
  · rw [World.cell?_setCell_other _ _ _ _ (n 6 (by omega)), World.cell?_setCell_other _ _ _ _ (n 5 (by omega)), World.cell?_setCell_other _ _ _ _ (n 4 (by omega)), World.cell?_setCell_other _ _ _ _ (n 3 (by omega))]; exact World.cell?_setCell_same' _ _ _ (isSome_set (isSome_set (h 2 (by omega))))
  · rw [World.cell?_setCell_other _ _ _ _ (n 6 (by omega)), World.cell?_setCell_other _ _ _ _ (n 5 (by omega)), World.cell?_setCell_other _ _ _ _ (n 4 (by omega))]; exact World.cell?_setCell_same' _ _ _ (isSome_set (isSome_set (isSome_set (h 3 (by omega)))))
  · rw [World.cell?_setCell_other _ _ _ _ (n 6 (by omega)), World.cell?_setCell_other _ _ _ _ (n 5 (by omega))]; exact World.cell?_setCell_same' _ _ _ (isSome_set (isSome_set (isSome_set (isSome_set (h 4 (by omega))))))
  · rw [World.cell?_setCell_other _ _ _ _ (n 6 (by omega))]; exact World.cell?_setCell_same' _ _ _ (isSome_set (isSome_set (isSome_set (isSome_set (isSome_set (h 5 (by omega)))))))
  · exact World.cell?_setCell_same' _ _ _ (isSome_set (isSome_set (isSome_set (isSome_set (isSome_set (isSome_set (h 6 (by omega))))))))
theorem put7_frozen (w : World) (b a : Nat) (x : Od) (c k : Nat) : (put7 w b a x).frozen? ⟨c, k, none⟩ = w.frozen? ⟨c, k, none⟩ := by
  unfold put7
  simp only [World.frozen?_setCell]
theorem put7_but {S : Nat → Prop} {v w : World} (h : But S v w) (b a : Nat) (x : Od) (hb : b < v.heap.size → S b) : But S v (put7 w b a x) :=
  ((((((h.setCell b _ _ hb).setCell b _ _ hb).setCell b _ _ hb).setCell b _ _ hb).setCell b _ _ hb).setCell b _ _ hb).setCell b _ _ hb
theorem put7_some (w : World) (b a : Nat) (x : Od) {q : Addr} (h : (w.cell? q).isSome = true) : ((put7 w b a x).cell? q).isSome = true :=
  isSome_set (isSome_set (isSome_set (isSome_set (isSome_set (isSome_set (isSome_set h))))))

/-- Block q has C places, and from the f-th on, round the end, the n orders that g tells. -/
structure Held (w : World) (q C f n : Nat) (g : Nat → Od) : Prop where
  head : f < C
  there : ∀ j, j < C * 7 → (w.cell? ⟨q, j, none⟩).isSome = true
  thaw : ∀ j, w.frozen? ⟨q, j, none⟩ = false
  things : ∀ i, i < n → Sev w q ((f + i) % C * 7) (g i)
theorem Held.lt {w : World} {q C f n : Nat} {g : Nat → Od} (h : Held w q C f n g) : q < w.heap.size := by
  obtain ⟨v, hv⟩ := Option.isSome_iff_exists.1 (h.there f (by have := h.head; omega))
  exact World.block_lt_of_cell? _ _ hv
theorem Held.kept {T : Nat → Prop} {w w' : World} {q C f n : Nat} {g : Nat → Od} (h : Held w q C f n g) (k : But T w w') (hq : ¬ T q) : Held w' q C f n g :=
  ⟨h.head, fun j hj => by rw [k.cell h.lt hq]; exact h.there j hj, fun j => by rw [k.frozen h.lt hq]; exact h.thaw j, fun i hi => (h.things i hi).kept k hq⟩
/-- The world holds at block p a ring for room orders, its C places in S, the first one in place f: n orders, told by g. -/
structure Rng (w : World) (p : Nat) (S : Option Addr) (C f room n : Nat) (g : Nat → Od) : Prop where
  croom : w.cell? ⟨p, 0, none⟩ = some (.int .i64 (room : Int))
  ccells : w.cell? ⟨p, 1, none⟩ = some (.slice S C C)
  cfirst : w.cell? ⟨p, 2, none⟩ = some (.int .i64 (f : Int))
  csize : w.cell? ⟨p, 3, none⟩ = some (.int .i64 (n : Int))
  pthaw : ∀ j, w.frozen? ⟨p, j, none⟩ = false
  row : (S = none ∧ C = 0 ∧ f = 0) ∨ ∃ q, S = some ⟨q, 0, none⟩ ∧ q ≠ p ∧ Held w q C f n g
  fits : n ≤ C
  capped : C ≤ room
  first : 0 < room
  most : room ≤ 1024
/-- The blocks that are a ring's own. -/
def own (p : Nat) (S : Option Addr) (k : Nat) : Prop := k = p ∨ S = some ⟨k, 0, none⟩
theorem Rng.pthere {w : World} {p C f room n : Nat} {S : Option Addr} {g : Nat → Od} (h : Rng w p S C f room n g) : p < w.heap.size := World.block_lt_of_cell? _ _ h.croom
theorem Rng.there {w : World} {p C f room n : Nat} {S : Option Addr} {g : Nat → Od} (h : Rng w p S C f room n g) {k : Nat} (hk : own p S k) : k < w.heap.size := by
  rcases hk with rfl | hk
  · exact h.pthere
  · rcases h.row with ⟨e, _⟩ | ⟨b, e, _, R⟩
    · rw [e] at hk; cases hk
    · rw [e] at hk
      injection hk with hk
      injection hk with hk
      rw [← hk]
      exact R.lt
theorem Rng.kept {w w' : World} {p C f room n : Nat} {S : Option Addr} {g : Nat → Od} {T : Nat → Prop} (h : Rng w p S C f room n g) (k : But T w w') (hT : ∀ i, own p S i → ¬ T i) : Rng w' p S C f room n g := by
  have hp := hT p (.inl rfl)
  refine ⟨by rw [k.cell h.pthere hp]; exact h.croom, by rw [k.cell h.pthere hp]; exact h.ccells, by rw [k.cell h.pthere hp]; exact h.cfirst, by rw [k.cell h.pthere hp]; exact h.csize, fun j => by rw [k.frozen h.pthere hp]; exact h.pthaw j, ?_, h.fits, h.capped, h.first, h.most⟩
  rcases h.row with e | ⟨b, e, hb, R⟩
  · exact .inl e
  · exact .inr ⟨b, e, hb, R.kept k (hT b (.inr e))⟩
theorem Rng.below {w w' : World} {p C f room n : Nat} {S : Option Addr} {g : Nat → Od} (h : Rng w p S C f room n g) (k : Below w.heap.size w w') : Rng w' p S C f room n g :=
  h.kept (T := fun _ => False) (But.of_below k) (fun _ _ => id)
theorem Rng.got {w : World} {p C f room n : Nat} {S : Option Addr} {g : Nat → Od} (h : Rng w p S C f room n g) (hn : 0 < C) : ∃ q, S = some ⟨q, 0, none⟩ ∧ q ≠ p ∧ Held w q C f n g := by
  rcases h.row with ⟨_, e, _⟩ | R
  · omega
  · exact R
theorem Held.same {w : World} {q C f n : Nat} {g g' : Nat → Od} (h : Held w q C f n g) (e : ∀ i, i < n → g i = g' i) : Held w q C f n g' :=
  ⟨h.head, h.there, h.thaw, fun i hi => e i hi ▸ h.things i hi⟩
theorem Rng.same {w : World} {p C f room n : Nat} {S : Option Addr} {g g' : Nat → Od} (h : Rng w p S C f room n g) (e : ∀ i, i < n → g i = g' i) : Rng w p S C f room n g' :=
  ⟨h.croom, h.ccells, h.cfirst, h.csize, h.pthaw, h.row.imp id (fun ⟨q, a, b, c⟩ => ⟨q, a, b, c.same e⟩), h.fits, h.capped, h.first, h.most⟩

set_option maxHeartbeats 1000000 in
theorem new_no (room : Int) (w : World) (h : room < 1 ∨ 1024 < room) : Calls Try.prog 21 #[.int .i64 room] w fun e w' => e = .returned (.tuple #[.pointer none, .int .i64 2]) ∧ w' = w := by
  by_cases h1 : room < 1
  · go_enter Try.func21, Try.ntmps21
    go_wp2
    go_ret2
    exact ⟨rfl, rfl⟩
  · have h2 : 1024 < room := by omega
    go_enter Try.func21, Try.ntmps21
    go_wp2
    go_ret2
    exact ⟨rfl, rfl⟩
set_option maxHeartbeats 1000000 in
theorem new_yes (room : Nat) (w : World) (h1 : 0 < room) (h2 : room ≤ 1024) : Calls Try.prog 21 #[.int .i64 (room : Int)] w fun e w' =>
    e = .returned (.tuple #[.pointer (some ⟨w.heap.size, 0, none⟩), .int .i64 0]) ∧ (∀ g, Rng w' w.heap.size none 0 0 room 0 g) ∧ Below w.heap.size w w' ∧ w'.heap.size = w.heap.size + 1 := by
  have t1 : ¬ (room : Int) < 1 := by omega
  have t2 : ¬ (1024 : Int) < (room : Int) := by omega
  go_enter Try.func21, Try.ntmps21
  go_wp2
  go_ret2
  exact ⟨rfl, fun g => ⟨by simp, by simp, by simp, by simp, fun j => by simp, .inl ⟨rfl, rfl, rfl⟩, Nat.le_refl _, Nat.zero_le _, h1, h2⟩, (Below.refl _ w).alloc (Nat.le_refl _) _, by simp⟩

theorem made_yes (p room : Nat) (w : World) (h : w.cell? ⟨p, 0, none⟩ = some (.int .i64 (room : Int))) (hr : 0 < room) :
    Calls Try.prog 32 #[.pointer (some ⟨p, 0, none⟩)] w fun e w' => e = .returned (.bool true) ∧ w = w' := by
  have t : (0 : Int) < (room : Int) := by omega
  go_enter Try.func32, Try.ntmps32
  go_wp2
  go_ret
  exact ⟨by simp, rfl⟩
theorem len_any {w : World} {p C f room n : Nat} {S : Option Addr} {g : Nat → Od} (h : Rng w p S C f room n g) :
    Calls Try.prog 26 #[.pointer (some ⟨p, 0, none⟩)] w fun e w' => e = .returned (.int .i64 (n : Int)) ∧ w' = w := by
  have F1 := made_yes p room w h.croom h.first
  have hs := h.csize
  go_enter Try.func26, Try.ntmps26
  go_wp2_with fail
  refine F1.mono ?_
  rintro e w1 ⟨rfl, rfl⟩
  go_wp2_with fail
  go_ret
  exact ⟨rfl, rfl⟩
set_option maxHeartbeats 1000000 in
theorem cell_any (p C f b : Nat) (S : Option Addr) (w : World) (hC : 0 < C) (hf : f ≤ 4096) (hb : b ≤ 4096) (h1 : w.cell? ⟨p, 1, none⟩ = some (.slice S C C)) (h2 : w.cell? ⟨p, 2, none⟩ = some (.int .i64 (f : Int))) :
    Calls Try.prog 37 #[.pointer (some ⟨p, 0, none⟩), .int .i64 (b : Int)] w fun e w' => e = .returned (.int .i64 (((f + b) % C : Nat) : Int)) ∧ ∃ m, w' = w.drewN m := by
  have t : ¬ (C : Int) = 0 := by omega
  have t' : ¬ C = 0 := by omega
  go_enter Try.func37, Try.ntmps37
  go_wp2_with fail
  go_quiet (fail)
  go_wp2_with fail
  go_ret
  refine ⟨?_, _, rfl⟩
  rw [Int.natCast_emod, Int.natCast_add]
  rfl
/-- Two new blocks. -/
theorem below2 (w : World) (o o' : Obj) : Below w.heap.size w ((w.alloc o).alloc o') := ((Below.refl _ _).alloc (Nat.le_refl _) _).alloc (by simp) _
set_option maxRecDepth 100000 in
set_option maxHeartbeats 4000000 in
theorem peek_none {w : World} {p C f room : Nat} {S : Option Addr} {g : Nat → Od} (h : Rng w p S C f room 0 g) :
    Calls Try.prog 38 #[.pointer (some ⟨p, 0, none⟩)] w fun e w' => e = .returned (.tuple #[oV o0, .int .i64 50]) ∧ Below w.heap.size w w' := by
  have B0 : Below w.heap.size w ((w.alloc (.cells #[.int .i64 0, .int .i64 0, .string ⟨#[]⟩, .string ⟨#[]⟩, .int .i64 0, .int .i64 0, .int .i64 0] 34)).alloc (.cells #[.int .i64 0, .int .i64 0, .string ⟨#[]⟩, .string ⟨#[]⟩, .int .i64 0, .int .i64 0, .int .i64 0] 34)) := below2 _ _ _
  have h1 := h.below B0
  have F1 := made_yes p room _ h1.croom h1.first
  have hs := h1.csize
  clear h h1
  go_enter Try.func38, Try.ntmps38
  go_wp2_with fail
  refine F1.mono ?_
  rintro e w1 ⟨rfl, rfl⟩
  go_wp2_with fail
  refine bodyPost_ret (v := .tuple #[oV o0, .int .i64 50]) (by simp [results, Try.results38, go_sem, o0]) rfl ⟨rfl, ?_⟩
  exact below2 _ _ _
set_option maxRecDepth 100000 in
set_option maxHeartbeats 4000000 in
theorem peek_some {w : World} {p C f room n : Nat} {S : Option Addr} {g : Nat → Od} (h : Rng w p S C f room n g) (hn : 0 < n) :
    Calls Try.prog 38 #[.pointer (some ⟨p, 0, none⟩)] w fun e w' => e = .returned (.tuple #[oV (g 0), .int .i64 0]) ∧ Below w.heap.size w w' := by
  have B0 : Below w.heap.size w ((w.alloc (.cells #[.int .i64 0, .int .i64 0, .string ⟨#[]⟩, .string ⟨#[]⟩, .int .i64 0, .int .i64 0, .int .i64 0] 34)).alloc (.cells #[.int .i64 0, .int .i64 0, .string ⟨#[]⟩, .string ⟨#[]⟩, .int .i64 0, .int .i64 0, .int .i64 0] 34)) := below2 _ _ _
  have h' := h.below B0
  have F1 := made_yes p room _ h'.croom h'.first
  have hfit := h.fits
  obtain ⟨q, rfl, hq, R⟩ := h'.got (by omega)
  have hs := h'.csize
  have h1 := h'.ccells
  have h2 := h'.cfirst
  have h3 := R.things 0 hn
  have h4 := R.head
  rw [Nat.add_zero, Nat.mod_eq_of_lt h4] at h3
  obtain ⟨c0, c1, c2, c3, c4, c5, c6⟩ := h3.all
  have t : ¬ (n : Int) = 0 := by omega
  have t' : ¬ n = 0 := by omega
  have t2 : (f : Int) < (C : Int) := by omega
  clear h h' h3 R
  generalize g 0 = x at *
  obtain ⟨xk, xs, xi, xy, xd, xq, xp⟩ := x
  simp only at c0 c1 c2 c3 c4 c5 c6
  go_enter Try.func38, Try.ntmps38
  go_wp2_with fail
  refine F1.mono ?_
  rintro e w1 ⟨rfl, rfl⟩
  go_wp2_with fail
  go_region
  go_wp2_with fail
  refine bodyPost_ret (v := .tuple #[oV ⟨xk, xs, xi, xy, xd, xq, xp⟩, .int .i64 0]) (by simp [results, Try.results38, go_sem]) rfl ⟨rfl, ?_⟩
  exact (below2 _ _ _).drew
end Go.Proofs.Ytlgnbnojjfgfmaa.SN
