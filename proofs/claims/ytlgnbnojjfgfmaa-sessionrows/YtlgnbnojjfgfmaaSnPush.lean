/-
  Contracts of ring's Push and Pop, at orders.
-/
import Derived.Test.YtlgnbnojjfgfmaaSnRingMove
namespace Go.Proofs.Ytlgnbnojjfgfmaa.SN
open Go.ChangeShapes Go.WideShapes Go.ChangeAt Go.RowKit Go.Lib

/-- A ring with one order more. -/
theorem Rng.pushed {w : World} {p C f room n q : Nat} {g : Nat → Od} (h : Rng w p (some ⟨q, 0, none⟩) C f room n g) (hq : q ≠ p) (Q : Held w q C f n g) (hn : n < C) (x : Od) :
    Rng ((put7 w q ((f + n) % C * 7) x).setCell ⟨p, 3, none⟩ (.int .i64 ((n : Int) + 1))) p (some ⟨q, 0, none⟩) C f room (n + 1) (upd g n x) := by
  have hf := Q.head
  have hlt := Nat.mod_lt (f + n) (show 0 < C by omega)
  have o1 : ∀ j, (put7 w q ((f + n) % C * 7) x).cell? ⟨p, j, none⟩ = w.cell? ⟨p, j, none⟩ := fun j => put7_out _ _ _ _ _ _ (.inl (Ne.symm hq))
  have o2 : ∀ j, (⟨p, 3, none⟩ : Addr) ≠ ⟨q, j, none⟩ := fun j e => by injection e with e1; exact hq e1.symm
  refine ⟨?_, ?_, ?_, ?_, ?_, .inr ⟨_, rfl, hq, ⟨hf, fun j hj => ?_, fun j => ?_, fun i hi => ?_⟩⟩, by omega, h.capped, h.first, h.most⟩
  · rw [World.cell?_setCell_other _ _ _ _ (by simp), o1]; exact h.croom
  · rw [World.cell?_setCell_other _ _ _ _ (by simp), o1]; exact h.ccells
  · rw [World.cell?_setCell_other _ _ _ _ (by simp), o1]; exact h.cfirst
  · rw [Int.natCast_add]
    exact World.cell?_setCell_same' _ _ _ (by rw [o1, h.csize]; rfl)
  · intro j; rw [World.frozen?_setCell, put7_frozen]; exact h.pthaw j
  · rw [World.cell?_setCell_other _ _ _ _ (o2 _)]
    exact put7_some _ _ _ _ (Q.there j hj)
  · rw [World.frozen?_setCell, put7_frozen]; exact Q.thaw j
  · intro r hr
    rw [World.cell?_setCell_other _ _ _ _ (o2 _)]
    by_cases e : i = n
    · subst e
      rw [upd_same]
      exact put7_in _ _ _ _ (fun j hj => Q.there _ (by omega)) r hr
    · have hne : (f + i) % C ≠ (f + n) % C := fun e2 => e (mod_one (by omega) (by omega) e2)
      rw [upd_other _ _ e, put7_out _ _ _ _ _ _ (.inr (by omega))]; exact Q.things i (by omega) r hr
/-- What made says of a ring behind the box of an order. -/
theorem boxed_made {w : World} {p C f room n : Nat} {S : Option Addr} {g : Nat → Od} (h : Rng w p S C f room n g) (x : Od) :
    Calls Try.prog 32 #[.pointer (some ⟨p, 0, none⟩)] (boxO w x) fun e w' => e = .returned (.bool true) ∧ Hid (Rng w' p S C f room n g ∧ Sev w' w.heap.size 0 x ∧ Below w.heap.size w w') := by
  have B0 : Below w.heap.size w (boxO w x) := (Below.refl _ _).alloc (Nat.le_refl _) _
  have hA := h.below B0
  exact (made_yes p room _ hA.croom hA.first).mono fun _ _ ⟨he, hw⟩ => ⟨he, hw ▸ ⟨hA, boxO_sev w x _, B0⟩⟩
set_option maxRecDepth 100000 in
set_option maxHeartbeats 4000000 in
theorem push_full {w : World} {p C f room : Nat} {S : Option Addr} {g : Nat → Od} (h : Rng w p S C f room room g) (x : Od) :
    Calls Try.prog 28 #[.pointer (some ⟨p, 0, none⟩), oV x] w fun e w' => e = .returned (.int .i64 40) ∧ Below w.heap.size w w' := by
  have F1 := boxed_made h x
  obtain ⟨xk, xs, xi, xy, xd, xq, xp⟩ := x
  dsimp only [oV, boxO] at F1 ⊢
  clear h
  go_enter Try.func28, Try.ntmps28
  go_wp2_with fail
  refine F1.mono ?_
  rintro e w1 ⟨rfl, HP⟩
  have h1 := HP.out.1.csize
  have h2 := HP.out.1.croom
  clear F1
  go_wp2_with fail
  go_quiet (fail)
  go_wp2_with fail
  go_ret
  exact ⟨rfl, below_more HP.out.2.2 _⟩
set_option maxRecDepth 100000 in
set_option maxHeartbeats 8000000 in
theorem push_room {w : World} {p C f room n : Nat} {S : Option Addr} {g : Nat → Od} (h : Rng w p S C f room n g) (hn : n < C) (x : Od) :
    Calls Try.prog 28 #[.pointer (some ⟨p, 0, none⟩), oV x] w fun e w' => e = .returned (.int .i64 0) ∧ Rng w' p S C f room (n + 1) (upd g n x) ∧ But (own p S) w w' := by
  have F1 := boxed_made h x
  have hcr := h.capped
  have hrm := h.most
  have HT : Hid (∀ k, own p S k → k < w.heap.size) := fun k hk => h.there hk
  obtain ⟨xk, xs, xi, xy, xd, xq, xp⟩ := x
  dsimp only [oV, boxO] at F1 ⊢
  clear h
  go_enter Try.func28, Try.ntmps28
  go_wp2_with fail
  refine F1.mono ?_
  rintro e w1 ⟨rfl, HP⟩
  clear F1
  obtain ⟨q, rfl, hq, Q⟩ := HP.out.1.got (by omega)
  have h0 := HP.out.1.croom
  have h1 := HP.out.1.ccells
  have h2 := HP.out.1.cfirst
  have h3 := HP.out.1.csize
  have z3 := HP.out.1.pthaw 3
  have hfC := Q.head
  have t1 : ((n : Int) == (room : Int)) = false := beq_false_of_ne (by omega)
  have t2 : ((n : Int) == (C : Int)) = false := beq_false_of_ne (by omega)
  have t1' : ¬ n = room := by omega
  have t2' : ¬ n = C := by omega
  have hlC := Nat.mod_lt (f + n) (show 0 < C by omega)
  have hs : ∀ j, j < 7 → (w1.cell? ⟨q, (f + n) % C * 7 + j, none⟩).isSome = true := fun j hj => Q.there _ (by omega)
  have F2 := fun (m0 : Nat) => cell_any p C f n (some ⟨q, 0, none⟩) (w1.drewN m0) (by omega) (by omega) (by omega) h1 h2
  have HR : Hid (∀ W, Below w1.heap.size w1 W → Rng ((put7 W q ((f + n) % C * 7) ⟨xk, xs, xi, xy, xd, xq, xp⟩).setCell ⟨p, 3, none⟩ (.int .i64 ((n : Int) + 1))) p (some ⟨q, 0, none⟩) C f room (n + 1) (upd g n ⟨xk, xs, xi, xy, xd, xq, xp⟩) ∧ But (own p (some ⟨q, 0, none⟩)) w ((put7 W q ((f + n) % C * 7) ⟨xk, xs, xi, xy, xd, xq, xp⟩).setCell ⟨p, 3, none⟩ (.int .i64 ((n : Int) + 1)))) := fun W hW =>
    ⟨(HP.out.1.below hW).pushed hq (Q.kept (T := fun _ => False) (But.of_below hW) id) hn _, (put7_but (But.of_below (HP.out.2.2.trans (hW.mono HP.out.2.2.size))) q _ _ (fun _ => .inr rfl)).setCell p 3 _ (fun _ => .inl rfl)⟩
  obtain ⟨c0, c1, c2, c3, c4, c5, c6⟩ := HP.out.2.1.all0
  simp only at c0 c1 c2 c3 c4 c5 c6
  obtain ⟨u, hu⟩ : ∃ u, (f + n) % C = u := ⟨_, rfl⟩
  have HQ : Hid (∀ j, w1.frozen? ⟨q, j, none⟩ = false) := Q.thaw
  rw [hu] at hlC F2 HR hs
  simp only [put7] at HR
  obtain ⟨old0, ho0⟩ := Option.isSome_iff_exists.1 (hs 0 (by omega))
  have fo0 := HQ.out (u * 7)
  obtain ⟨old1, ho1⟩ := Option.isSome_iff_exists.1 (hs 1 (by omega))
  have fo1 := HQ.out (u * 7 + 1)
  obtain ⟨old2, ho2⟩ := Option.isSome_iff_exists.1 (hs 2 (by omega))
  have fo2 := HQ.out (u * 7 + 2)
  obtain ⟨old3, ho3⟩ := Option.isSome_iff_exists.1 (hs 3 (by omega))
  have fo3 := HQ.out (u * 7 + 3)
  obtain ⟨old4, ho4⟩ := Option.isSome_iff_exists.1 (hs 4 (by omega))
  have fo4 := HQ.out (u * 7 + 4)
  obtain ⟨old5, ho5⟩ := Option.isSome_iff_exists.1 (hs 5 (by omega))
  have fo5 := HQ.out (u * 7 + 5)
  obtain ⟨old6, ho6⟩ := Option.isSome_iff_exists.1 (hs 6 (by omega))
  have fo6 := HQ.out (u * 7 + 6)
  rw [Nat.add_zero] at ho0
  have t3 : (u : Int) < (C : Int) := by omega
  have hqp : ¬ q = p := hq
  have hqx : ¬ q = w.heap.size := fun e => by have := HT.out q (.inr rfl); omega
  have hpx : ¬ p = w.heap.size := fun e => by have := HT.out p (.inl rfl); omega
  clear hu Q HP hs
  go_wp2_with fail
  go_quiet (fail)
  go_wp2_with fail
  go_quiet (fail)
  go_wp2_with fail
  go_region_held3 (fun w' => w'.cell? ⟨p, 1, none⟩ = some (.slice (some ⟨q, 0, none⟩) C C) ∧ w'.cell? ⟨p, 3, none⟩ = some (.int .i64 (n : Int)) ∧ w'.cell? ⟨w.heap.size, 0, none⟩ = some (.int .i64 xk) ∧ w'.cell? ⟨w.heap.size, 1, none⟩ = some (.int .i64 xs) ∧ w'.cell? ⟨w.heap.size, 2, none⟩ = some (.string xi) ∧ w'.cell? ⟨w.heap.size, 3, none⟩ = some (.string xy) ∧ w'.cell? ⟨w.heap.size, 4, none⟩ = some (.int .i64 xd) ∧ w'.cell? ⟨w.heap.size, 5, none⟩ = some (.int .i64 xq) ∧ w'.cell? ⟨w.heap.size, 6, none⟩ = some (.int .i64 xp)) (go_keep) (first
    | (go_at_call 37; refine (F2 _).mono ?_; rintro e w2 ⟨rfl, m2, rfl⟩))
  go_wp2_with fail
  go_ret
  exact ⟨rfl, HR.out _ (below_drewN _ _ _)⟩
set_option maxRecDepth 100000 in
set_option maxHeartbeats 8000000 in
theorem push_grow {w : World} {p f room n : Nat} {S : Option Addr} {g : Nat → Od} (h : Rng w p S n f room n g) (hn : n < room) (x : Od) :
    Calls Try.prog 28 #[.pointer (some ⟨p, 0, none⟩), oV x] w fun e w' => e = .returned (.int .i64 0) ∧ ∃ K q, w.heap.size ≤ q ∧ Rng w' p (some ⟨q, 0, none⟩) K 0 room (n + 1) (upd g n x) ∧ But (own p S) w w' := by
  have F1 := boxed_made h x
  have hrm := h.most
  have hpt := h.pthere
  have hpx : ¬ p = w.heap.size := by omega
  obtain ⟨xk, xs, xi, xy, xd, xq, xp⟩ := x
  dsimp only [oV, boxO] at F1 ⊢
  clear h
  go_enter Try.func28, Try.ntmps28
  go_wp2_with fail
  refine F1.mono ?_
  rintro e w1 ⟨rfl, HP⟩
  have h0 := HP.out.1.croom
  have h1 := HP.out.1.ccells
  have h3 := HP.out.1.csize
  have t1 : ((n : Int) == (room : Int)) = false := beq_false_of_ne (by omega)
  have t1' : ¬ n = room := by omega
  have F3 := fun (m0 : Nat) => grow_any (HP.out.1.below (below_drewN w1.heap.size m0 w1)) hn
  clear F1
  go_wp2_with fail
  go_quiet (fail)
  go_wp2_with fail
  go_quiet (fail)
  go_wp2_with fail
  refine (F3 _).mono ?_
  clear F3 h0 h1 h3
  rintro e W ⟨⟨v, rfl⟩, C, hC, h, BW⟩
  have hcr := h.capped
  obtain ⟨q, e', hq, Q⟩ := h.got (by omega)
  have hqs : w1.heap.size = q := by injection e' with e'; injection e'
  rw [e'] at h
  have h1 := h.ccells
  have h2 := h.cfirst
  have h3 := h.csize
  have z3 := h.pthaw 3
  have hfC := Q.head
  have hlC := Nat.mod_lt (0 + n) (show 0 < C by omega)
  have hs : ∀ j, j < 7 → (W.cell? ⟨q, (0 + n) % C * 7 + j, none⟩).isSome = true := fun j hj => Q.there _ (by omega)
  have F2 := fun (m0 : Nat) => cell_any p C 0 n (some ⟨q, 0, none⟩) (W.drewN m0) (by omega) (by omega) (by omega) h1 h2
  have hB1 : But (fun k => k = p) w1 W := (But.of_below (below_drewN w1.heap.size _ w1)).trans BW (fun _ _ e => e)
  have hB : But (own p S) w W := (But.of_below HP.out.2.2).trans hB1 (fun _ _ e => .inl e)
  have hsz := HP.out.2.2.size
  have hbx : w.heap.size < w1.heap.size := HP.out.2.1.lt
  have HR : Hid (∀ V, Below W.heap.size W V → Rng ((put7 V q ((0 + n) % C * 7) ⟨xk, xs, xi, xy, xd, xq, xp⟩).setCell ⟨p, 3, none⟩ (.int .i64 ((n : Int) + 1))) p (some ⟨q, 0, none⟩) C 0 room (n + 1) (upd g n ⟨xk, xs, xi, xy, xd, xq, xp⟩) ∧ But (own p S) w ((put7 V q ((0 + n) % C * 7) ⟨xk, xs, xi, xy, xd, xq, xp⟩).setCell ⟨p, 3, none⟩ (.int .i64 ((n : Int) + 1)))) := fun V hV =>
    ⟨(h.below hV).pushed hq (Q.kept (T := fun _ => False) (But.of_below hV) id) (by omega) _, (put7_but (hB.trans (But.of_below (S := fun _ => False) hV) (fun _ _ e => e.elim)) q _ _ (fun hlt => absurd hlt (by omega))).setCell p 3 _ (fun _ => .inl rfl)⟩
  obtain ⟨c0, c1, c2, c3, c4, c5, c6⟩ := (HP.out.2.1.kept hB1 (fun e => hpx e.symm)).all0
  simp only at c0 c1 c2 c3 c4 c5 c6
  obtain ⟨u, hu⟩ : ∃ u, (0 + n) % C = u := ⟨_, rfl⟩
  have HQ : Hid (∀ j, W.frozen? ⟨q, j, none⟩ = false) := Q.thaw
  rw [hu] at hlC F2 HR hs
  simp only [put7] at HR
  obtain ⟨old0, ho0⟩ := Option.isSome_iff_exists.1 (hs 0 (by omega))
  have fo0 := HQ.out (u * 7)
  obtain ⟨old1, ho1⟩ := Option.isSome_iff_exists.1 (hs 1 (by omega))
  have fo1 := HQ.out (u * 7 + 1)
  obtain ⟨old2, ho2⟩ := Option.isSome_iff_exists.1 (hs 2 (by omega))
  have fo2 := HQ.out (u * 7 + 2)
  obtain ⟨old3, ho3⟩ := Option.isSome_iff_exists.1 (hs 3 (by omega))
  have fo3 := HQ.out (u * 7 + 3)
  obtain ⟨old4, ho4⟩ := Option.isSome_iff_exists.1 (hs 4 (by omega))
  have fo4 := HQ.out (u * 7 + 4)
  obtain ⟨old5, ho5⟩ := Option.isSome_iff_exists.1 (hs 5 (by omega))
  have fo5 := HQ.out (u * 7 + 5)
  obtain ⟨old6, ho6⟩ := Option.isSome_iff_exists.1 (hs 6 (by omega))
  have fo6 := HQ.out (u * 7 + 6)
  rw [Nat.add_zero] at ho0
  have t3 : (u : Int) < (C : Int) := by omega
  have hqp : ¬ q = p := hq
  have hqx : ¬ q = w.heap.size := by omega
  have HQS : Hid (w.heap.size ≤ q) := by show w.heap.size ≤ q; omega
  clear hu Q HP hs h e' hqs BW hB hB1 hsz hbx
  go_wp2_with fail
  go_region_held3 (fun w' => w'.cell? ⟨p, 1, none⟩ = some (.slice (some ⟨q, 0, none⟩) C C) ∧ w'.cell? ⟨p, 3, none⟩ = some (.int .i64 (n : Int)) ∧ w'.cell? ⟨w.heap.size, 0, none⟩ = some (.int .i64 xk) ∧ w'.cell? ⟨w.heap.size, 1, none⟩ = some (.int .i64 xs) ∧ w'.cell? ⟨w.heap.size, 2, none⟩ = some (.string xi) ∧ w'.cell? ⟨w.heap.size, 3, none⟩ = some (.string xy) ∧ w'.cell? ⟨w.heap.size, 4, none⟩ = some (.int .i64 xd) ∧ w'.cell? ⟨w.heap.size, 5, none⟩ = some (.int .i64 xq) ∧ w'.cell? ⟨w.heap.size, 6, none⟩ = some (.int .i64 xp)) (go_keep) (first
    | (go_at_call 37; refine (F2 _).mono ?_; rintro e w2 ⟨rfl, m2, rfl⟩))
  go_wp2_with fail
  go_ret
  exact ⟨rfl, C, q, HQS.out, HR.out _ (below_drewN _ _ _)⟩
theorem push_ok {w : World} {p C f room n : Nat} {S : Option Addr} {g : Nat → Od} (h : Rng w p S C f room n g) (hn : n < room) (x : Od) :
    Calls Try.prog 28 #[.pointer (some ⟨p, 0, none⟩), oV x] w fun e w' => e = .returned (.int .i64 0) ∧
      ∃ S' C' f', Rng w' p S' C' f' room (n + 1) (upd g n x) ∧ But (own p S) w w' ∧ ∀ k, own p S' k → own p S k ∨ w.heap.size ≤ k := by
  by_cases hC : n < C
  · exact (push_room h hC x).mono fun e w' ⟨h1, h2, h3⟩ => ⟨h1, S, C, f, h2, h3, fun k hk => .inl hk⟩
  · obtain rfl : n = C := by have := h.fits; omega
    refine (push_grow h hn x).mono fun e w' ⟨h1, K, q, hq, h2, h3⟩ => ⟨h1, _, K, 0, h2, h3, fun k hk => ?_⟩
    rcases hk with e | e
    · exact .inl (.inl e)
    · injection e with e
      injection e with e
      exact .inr (by omega)
end Go.Proofs.Ytlgnbnojjfgfmaa.SN
