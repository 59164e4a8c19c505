/-
  A ring of int in memory, and the contracts of ring's New, made, cell, Len, Room, Peek.
-/
import Derived.Test.YtdikjfajbjedcaaBut
namespace Go.Proofs.Ytdikjfajbjedcaa.RI
open Go.ChangeShapes Go.WideShapes Go.ChangeAt Go.RowKit Go.Lib

/-- Block q has C cells, and from the f-th on, round the end, the n things that g tells. -/
structure Held (w : World) (q C f n : Nat) (g : Nat → Int) : Prop where
  head : f < C
  there : ∀ j, j < C → (w.cell? ⟨q, j, none⟩).isSome = true
  thaw : ∀ j, w.frozen? ⟨q, j, none⟩ = false
  things : ∀ i, i < n → w.cell? ⟨q, (f + i) % C, none⟩ = some (.int .i64 (g i))
theorem Held.lt {w : World} {q C f n : Nat} {g : Nat → Int} (h : Held w q C f n g) : q < w.heap.size := by
  obtain ⟨v, hv⟩ := Option.isSome_iff_exists.1 (h.there f h.head)
  exact World.block_lt_of_cell? _ _ hv
theorem Held.kept {T : Nat → Prop} {w w' : World} {q C f n : Nat} {g : Nat → Int} (h : Held w q C f n g) (k : But T w w') (hq : ¬ T q) : Held w' q C f n g :=
  ⟨h.head, fun j hj => by rw [k.cell h.lt hq]; exact h.there j hj, fun j => by rw [k.frozen h.lt hq]; exact h.thaw j, fun i hi => by rw [k.cell h.lt hq]; exact h.things i hi⟩
/-- The world holds at block p a ring for room things, its C cells in S, the first thing in cell f: n things, told by g. -/
structure Rng (w : World) (p : Nat) (S : Option Addr) (C f room n : Nat) (g : Nat → Int) : Prop where
  croom : w.cell? ⟨p, 0, none⟩ = some (.int .i64 (room : Int))
  ccells : w.cell? ⟨p, 1, none⟩ = some (.slice S C C)
  cfirst : w.cell? ⟨p, 2, none⟩ = some (.int .i64 (f : Int))
  csize : w.cell? ⟨p, 3, none⟩ = some (.int .i64 (n : Int))
  pthaw : ∀ j, w.frozen? ⟨p, j, none⟩ = false
  row : (S = none ∧ C = 0 ∧ f = 0) ∨ ∃ q, S = some ⟨q, 0, none⟩ ∧ q ≠ p ∧ Held w q C f n g
  fits : n ≤ C
  capped : C ≤ room
  first : 0 < room
  most : room ≤ 1024
/-- The blocks that are a ring's own. -/
def own (p : Nat) (S : Option Addr) (k : Nat) : Prop := k = p ∨ S = some ⟨k, 0, none⟩
theorem Rng.pthere {w : World} {p C f room n : Nat} {S : Option Addr} {g : Nat → Int} (h : Rng w p S C f room n g) : p < w.heap.size := World.block_lt_of_cell? _ _ h.croom
theorem Rng.there {w : World} {p C f room n : Nat} {S : Option Addr} {g : Nat → Int} (h : Rng w p S C f room n g) {k : Nat} (hk : own p S k) : k < w.heap.size := by
  rcases hk with rfl | hk
  · exact h.pthere
  · rcases h.row with ⟨e, _⟩ | ⟨b, e, _, R⟩
    · rw [e] at hk; cases hk
    · rw [e] at hk
      injection hk with hk
      injection hk with hk
      rw [← hk]
      exact R.lt
theorem Rng.kept {w w' : World} {p C f room n : Nat} {S : Option Addr} {g : Nat → Int} {T : Nat → Prop} (h : Rng w p S C f room n g) (k : But T w w') (hT : ∀ i, own p S i → ¬ T i) : Rng w' p S C f room n g := by
  have hp := hT p (.inl rfl)
  refine ⟨by rw [k.cell h.pthere hp]; exact h.croom, by rw [k.cell h.pthere hp]; exact h.ccells, by rw [k.cell h.pthere hp]; exact h.cfirst, by rw [k.cell h.pthere hp]; exact h.csize, fun j => by rw [k.frozen h.pthere hp]; exact h.pthaw j, ?_, h.fits, h.capped, h.first, h.most⟩
  rcases h.row with e | ⟨b, e, hb, R⟩
  · exact .inl e
  · exact .inr ⟨b, e, hb, R.kept k (hT b (.inr e))⟩
theorem Rng.below {w w' : World} {p C f room n : Nat} {S : Option Addr} {g : Nat → Int} (h : Rng w p S C f room n g) (k : Below w.heap.size w w') : Rng w' p S C f room n g :=
  h.kept (T := fun _ => False) (But.of_below k) (fun _ _ => id)
theorem Rng.got {w : World} {p C f room n : Nat} {S : Option Addr} {g : Nat → Int} (h : Rng w p S C f room n g) (hn : 0 < C) : ∃ q, S = some ⟨q, 0, none⟩ ∧ q ≠ p ∧ Held w q C f n g := by
  rcases h.row with ⟨_, e, _⟩ | R
  · omega
  · exact R
/-- A ring that is none. -/
def NoRng (w : World) (r : Value) : Prop := r = .pointer none ∨ ∃ b, r = .pointer (some ⟨b, 0, none⟩) ∧ w.cell? ⟨b, 0, none⟩ = some (.int .i64 0)
theorem NoRng.below {w w' : World} {r : Value} (h : NoRng w r) (k : Below w.heap.size w w') : NoRng w' r := by
  rcases h with h | ⟨b, e, h⟩
  · exact .inl h
  · exact .inr ⟨b, e, by rw [k.cell (p := ⟨b, 0, none⟩) (World.block_lt_of_cell? _ _ h)]; exact h⟩

set_option maxHeartbeats 1000000 in
theorem new_no (room : Int) (w : World) (h : room < 1 ∨ 1024 < room) : Calls Try.prog 7 #[.int .i64 room] w fun e w' => e = .returned (.tuple #[.pointer none, .int .i64 2]) ∧ w' = w := by
  by_cases h1 : room < 1
  · go_enter Try.func7, Try.ntmps7
    go_wp2
    go_ret2
    exact ⟨rfl, rfl⟩
  · have h2 : 1024 < room := by omega
    go_enter Try.func7, Try.ntmps7
    go_wp2
    go_ret2
    exact ⟨rfl, rfl⟩
set_option maxHeartbeats 1000000 in
theorem new_yes (room : Nat) (w : World) (h1 : 0 < room) (h2 : room ≤ 1024) : Calls Try.prog 7 #[.int .i64 (room : Int)] w fun e w' =>
    e = .returned (.tuple #[.pointer (some ⟨w.heap.size, 0, none⟩), .int .i64 0]) ∧ (∀ g, Rng w' w.heap.size none 0 0 room 0 g) ∧ Below w.heap.size w w' ∧ w'.heap.size = w.heap.size + 1 := by
  have t1 : ¬ (room : Int) < 1 := by omega
  have t2 : ¬ (1024 : Int) < (room : Int) := by omega
  go_enter Try.func7, Try.ntmps7
  go_wp2
  go_ret2
  exact ⟨rfl, fun g => ⟨by simp, by simp, by simp, by simp, fun j => by simp, .inl ⟨rfl, rfl, rfl⟩, Nat.le_refl _, Nat.zero_le _, h1, h2⟩, (Below.refl _ w).alloc (Nat.le_refl _) _, by simp⟩

theorem made_yes (p room : Nat) (w : World) (h : w.cell? ⟨p, 0, none⟩ = some (.int .i64 (room : Int))) (hr : 0 < room) :
    Calls Try.prog 22 #[.pointer (some ⟨p, 0, none⟩)] w fun e w' => e = .returned (.bool true) ∧ w' = w := by
  have t : (0 : Int) < (room : Int) := by omega
  go_enter Try.func22, Try.ntmps22
  go_wp2
  go_ret
  exact ⟨by simp, rfl⟩
theorem made_no {w : World} {r : Value} (h : NoRng w r) : Calls Try.prog 22 #[r] w fun e w' => e = .returned (.bool false) ∧ w' = w := by
  rcases h with rfl | ⟨b, rfl, h⟩
  · go_enter Try.func22, Try.ntmps22
    go_wp2
    go_ret
    exact ⟨rfl, rfl⟩
  · go_enter Try.func22, Try.ntmps22
    go_wp2
    go_ret
    exact ⟨by simp, rfl⟩

theorem len_any {w : World} {p C f room n : Nat} {S : Option Addr} {g : Nat → Int} (h : Rng w p S C f room n g) :
    Calls Try.prog 14 #[.pointer (some ⟨p, 0, none⟩)] w fun e w' => e = .returned (.int .i64 (n : Int)) ∧ w' = w := by
  have F1 := made_yes p room w h.croom h.first
  have hs := h.csize
  go_enter Try.func14, Try.ntmps14
  go_wp2_with fail
  refine F1.mono ?_
  rintro e w1 ⟨rfl, rfl⟩
  go_wp2_with fail
  go_ret
  exact ⟨rfl, rfl⟩
theorem lenN {w : World} {r : Value} (h : NoRng w r) : Calls Try.prog 14 #[r] w fun e w' => e = .returned (.int .i64 0) ∧ w' = w := by
  have F1 := made_no h
  go_enter Try.func14, Try.ntmps14
  go_wp2_with fail
  refine F1.mono ?_
  rintro e w1 ⟨rfl, rfl⟩
  go_wp2_with fail
  go_ret
  exact ⟨rfl, rfl⟩
set_option maxHeartbeats 1000000 in
theorem room_any {w : World} {p C f room n : Nat} {S : Option Addr} {g : Nat → Int} (h : Rng w p S C f room n g) :
    Calls Try.prog 15 #[.pointer (some ⟨p, 0, none⟩)] w fun e w' => e = .returned (.int .i64 ((room : Int) - (n : Int))) ∧ ∃ m, w' = w.drewN m := by
  have F1 := made_yes p room w h.croom h.first
  have hs := h.csize
  have hr := h.croom
  have b1 := h.most
  have b2 := h.fits
  have b3 := h.capped
  go_enter Try.func15, Try.ntmps15
  go_wp2_with fail
  refine F1.mono ?_
  rintro e w1 ⟨rfl, rfl⟩
  go_wp2_with fail
  go_quiet (fail)
  go_wp2_with fail
  go_ret
  exact ⟨rfl, _, rfl⟩
theorem roomN {w : World} {r : Value} (h : NoRng w r) : Calls Try.prog 15 #[r] w fun e w' => e = .returned (.int .i64 0) ∧ w' = w := by
  have F1 := made_no h
  go_enter Try.func15, Try.ntmps15
  go_wp2_with fail
  refine F1.mono ?_
  rintro e w1 ⟨rfl, rfl⟩
  go_wp2_with fail
  go_ret
  exact ⟨rfl, rfl⟩

set_option maxHeartbeats 1000000 in
theorem cell_any (p C f b : Nat) (S : Option Addr) (w : World) (hC : 0 < C) (hf : f ≤ 4096) (hb : b ≤ 4096) (h1 : w.cell? ⟨p, 1, none⟩ = some (.slice S C C)) (h2 : w.cell? ⟨p, 2, none⟩ = some (.int .i64 (f : Int))) :
    Calls Try.prog 24 #[.pointer (some ⟨p, 0, none⟩), .int .i64 (b : Int)] w fun e w' => e = .returned (.int .i64 (((f + b) % C : Nat) : Int)) ∧ ∃ m, w' = w.drewN m := by
  have t : ¬ (C : Int) = 0 := by omega
  have t' : ¬ C = 0 := by omega
  go_enter Try.func24, Try.ntmps24
  go_wp2_with fail
  go_quiet (fail)
  go_wp2_with fail
  go_ret
  refine ⟨?_, _, rfl⟩
  rw [Int.natCast_emod, Int.natCast_add]
  rfl

set_option maxHeartbeats 1000000 in
theorem peek_none {w : World} {p C f room : Nat} {S : Option Addr} {g : Nat → Int} (h : Rng w p S C f room 0 g) :
    Calls Try.prog 12 #[.pointer (some ⟨p, 0, none⟩)] w fun e w' => e = .returned (.tuple #[.int .i64 0, .int .i64 50]) ∧ w' = w := by
  have F1 := made_yes p room w h.croom h.first
  have hs := h.csize
  go_enter Try.func12, Try.ntmps12
  go_wp2_with fail
  refine F1.mono ?_
  rintro e w1 ⟨rfl, rfl⟩
  go_wp2_with fail
  go_ret2
  exact ⟨rfl, rfl⟩
set_option maxHeartbeats 1000000 in
theorem peekN {w : World} {r : Value} (h : NoRng w r) : Calls Try.prog 12 #[r] w fun e w' => e = .returned (.tuple #[.int .i64 0, .int .i64 1]) ∧ w' = w := by
  have F1 := made_no h
  go_enter Try.func12, Try.ntmps12
  go_wp2_with fail
  refine F1.mono ?_
  rintro e w1 ⟨rfl, rfl⟩
  go_wp2_with fail
  go_ret2
  exact ⟨rfl, rfl⟩
set_option maxHeartbeats 1000000 in
theorem peek_some {w : World} {p C f room n : Nat} {S : Option Addr} {g : Nat → Int} (h : Rng w p S C f room n g) (hn : 0 < n) :
    Calls Try.prog 12 #[.pointer (some ⟨p, 0, none⟩)] w fun e w' => e = .returned (.tuple #[.int .i64 (g 0), .int .i64 0]) ∧ ∃ m, w' = w.drewN m := by
  have F1 := made_yes p room w h.croom h.first
  have hfit := h.fits
  obtain ⟨q, rfl, hq, R⟩ := h.got (by omega)
  have hs := h.csize
  have h1 := h.ccells
  have h2 := h.cfirst
  have h3 := R.things 0 hn
  have h4 := R.head
  rw [Nat.add_zero, Nat.mod_eq_of_lt h4] at h3
  have t : ¬ (n : Int) = 0 := by omega
  have t' : ¬ n = 0 := by omega
  have t2 : (f : Int) < (C : Int) := by omega
  generalize g 0 = x at *
  go_enter Try.func12, Try.ntmps12
  go_wp2_with fail
  refine F1.mono ?_
  rintro e w1 ⟨rfl, rfl⟩
  go_wp2_with fail
  go_quiet (fail)
  go_wp2_with fail
  go_ret2
  exact ⟨rfl, _, rfl⟩
end Go.Proofs.Ytdikjfajbjedcaa.RI
