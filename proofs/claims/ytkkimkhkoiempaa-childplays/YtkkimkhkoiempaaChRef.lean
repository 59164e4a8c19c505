/-
  The reference's child in memory; contracts of its in, reckon, Cover, New.
-/
import Derived.Test.YtkkimkhkoiempaaChNew
import Derived.Test.YtkkimkhkoiempaaMaRef
namespace Go.Proofs.Ytkkimkhkoiempaa.CH
open Go.ChangeShapes Go.WideShapes Go.ChangeAt Go.RowKit Go.Lib MA

theorem inR_any (n l m : Int) (w : World) : Calls Try.prog 24 #[.int .i64 n, .int .i64 l, .int .i64 m] w fun e w' => e = .returned (.bool (decide (l ≤ n) && decide (n ≤ m))) ∧ w = w' := by
  by_cases k : l ≤ n
  · have hq : Hid ((decide (l ≤ n) && decide (n ≤ m)) = decide (n ≤ m)) := by show _ = _; rw [decide_eq_true k, Bool.true_and]
    rw [hq.out]
    clear hq
    go_enter Try.func24, Try.ntmps24
    go_wp2_with fail
    go_ret
    exact ⟨rfl, rfl⟩
  · have hq : Hid ((decide (l ≤ n) && decide (n ≤ m)) = false) := by show _ = _; rw [decide_eq_false k, Bool.false_and]
    rw [hq.out]
    clear hq
    go_enter Try.func24, Try.ntmps24
    go_wp2_with fail
    go_ret
    exact ⟨rfl, rfl⟩
/-- The reference's child at block g: its cells and the claim. -/
abbrev RfAt (w : World) (g : Nat) (x : Ch) (m : Int) : Prop := Box 10 w g (rfF x m)
theorem RfAt.sd {w : World} {g : Nat} {x : Ch} {m : Int} (h : RfAt w g x m) (i : Nat) (hi : i < 10) (v : Value) (y : Ch) (m' : Int) (e : ∀ j, j < 10 → upd (rfF x m) i v j = rfF y m' j) : RfAt (w.setCell ⟨g, i, none⟩ v) g y m' :=
  (h.set hi v).same e
theorem ten {P : Nat → Prop} (h0 : P 0) (h1 : P 1) (h2 : P 2) (h3 : P 3) (h4 : P 4) (h5 : P 5) (h6 : P 6) (h7 : P 7) (h8 : P 8) (h9 : P 9) : ∀ j, j < 10 → P j := fun j hj => by
  rcases (show j = 0 ∨ j = 1 ∨ j = 2 ∨ j = 3 ∨ j = 4 ∨ j = 5 ∨ j = 6 ∨ j = 7 ∨ j = 8 ∨ j = 9 by omega) with rfl | rfl | rfl | rfl | rfl | rfl | rfl | rfl | rfl | rfl <;> assumption
/-- The reference's child behind changes of its block alone. -/
structure Rf (w0 w : World) (g : Nat) (x : Ch) (m : Int) : Prop where
  rf : RfAt w g x m
  but : But (fun k => k = g) w0 w
theorem RfAt.go {w : World} {g : Nat} {x : Ch} {m : Int} (h : RfAt w g x m) : Rf w w g x m := ⟨h, But.refl _ _⟩
theorem Rf.draw {w0 w : World} {g : Nat} {x : Ch} {m : Int} (h : Rf w0 w g x m) (n : Nat) : Rf w0 (w.drewN n) g x m := ⟨h.rf.below (below_drewN _ n w), h.but.drewN n⟩
theorem Rf.still {w0 w w' : World} {g : Nat} {x : Ch} {m : Int} (h : Rf w0 w g x m) (k : Below w.heap.size w w') : Rf w0 w' g x m := ⟨h.rf.below k, h.but.trans (But.of_below k (S := fun _ => False)) (fun _ _ h => h.elim)⟩
theorem Rf.then {w0 w w' : World} {g : Nat} {x y : Ch} {m m' : Int} (h : Rf w0 w g x m) (k : Rf w w' g y m') : Rf w0 w' g y m' := ⟨k.rf, h.but.trans k.but (fun _ _ h => h)⟩
theorem Rf.s_st {w0 w : World} {g : Nat} {x : Ch} {m : Int} (h : Rf w0 w g x m) (v : Int) : Rf w0 (w.setCell ⟨g, 3, none⟩ (.int .i64 v)) g ⟨x.id, x.ve, x.sd, v, x.q, x.p, x.nq, x.np, x.c⟩ m := ⟨h.rf.sd 3 (by omega) _ _ _ (ten rfl rfl rfl rfl rfl rfl rfl rfl rfl rfl), h.but.setCell g 3 _ (fun _ => rfl)⟩
theorem Rf.s_q {w0 w : World} {g : Nat} {x : Ch} {m : Int} (h : Rf w0 w g x m) (v : Int) : Rf w0 (w.setCell ⟨g, 4, none⟩ (.int .i64 v)) g ⟨x.id, x.ve, x.sd, x.st, v, x.p, x.nq, x.np, x.c⟩ m := ⟨h.rf.sd 4 (by omega) _ _ _ (ten rfl rfl rfl rfl rfl rfl rfl rfl rfl rfl), h.but.setCell g 4 _ (fun _ => rfl)⟩
theorem Rf.s_p {w0 w : World} {g : Nat} {x : Ch} {m : Int} (h : Rf w0 w g x m) (v : Int) : Rf w0 (w.setCell ⟨g, 5, none⟩ (.int .i64 v)) g ⟨x.id, x.ve, x.sd, x.st, x.q, v, x.nq, x.np, x.c⟩ m := ⟨h.rf.sd 5 (by omega) _ _ _ (ten rfl rfl rfl rfl rfl rfl rfl rfl rfl rfl), h.but.setCell g 5 _ (fun _ => rfl)⟩
theorem Rf.s_nq {w0 w : World} {g : Nat} {x : Ch} {m : Int} (h : Rf w0 w g x m) (v : Int) : Rf w0 (w.setCell ⟨g, 6, none⟩ (.int .i64 v)) g ⟨x.id, x.ve, x.sd, x.st, x.q, x.p, v, x.np, x.c⟩ m := ⟨h.rf.sd 6 (by omega) _ _ _ (ten rfl rfl rfl rfl rfl rfl rfl rfl rfl rfl), h.but.setCell g 6 _ (fun _ => rfl)⟩
theorem Rf.s_np {w0 w : World} {g : Nat} {x : Ch} {m : Int} (h : Rf w0 w g x m) (v : Int) : Rf w0 (w.setCell ⟨g, 7, none⟩ (.int .i64 v)) g ⟨x.id, x.ve, x.sd, x.st, x.q, x.p, x.nq, v, x.c⟩ m := ⟨h.rf.sd 7 (by omega) _ _ _ (ten rfl rfl rfl rfl rfl rfl rfl rfl rfl rfl), h.but.setCell g 7 _ (fun _ => rfl)⟩
theorem Rf.s_c {w0 w : World} {g : Nat} {x : Ch} {m : Int} (h : Rf w0 w g x m) (v : Int) : Rf w0 (w.setCell ⟨g, 8, none⟩ (.int .i64 v)) g ⟨x.id, x.ve, x.sd, x.st, x.q, x.p, x.nq, x.np, v⟩ m := ⟨h.rf.sd 8 (by omega) _ _ _ (ten rfl rfl rfl rfl rfl rfl rfl rfl rfl rfl), h.but.setCell g 8 _ (fun _ => rfl)⟩
theorem Rf.s_m {w0 w : World} {g : Nat} {x : Ch} {m : Int} (h : Rf w0 w g x m) (v : Int) : Rf w0 (w.setCell ⟨g, 9, none⟩ (.int .i64 v)) g x v := ⟨h.rf.sd 9 (by omega) _ _ _ (ten rfl rfl rfl rfl rfl rfl rfl rfl rfl rfl), h.but.setCell g 9 _ (fun _ => rfl)⟩
/-- The claim that is reckoned, and the child behind it. -/
def rkM (x : Ch) : Int := if dnB x.st = true then 0 else if x.st = 5 ∧ x.q < x.nq then x.nq - x.c else x.q - x.c
def rkC (x : Ch) : Ch := if dnB x.st = true then ⟨x.id, x.ve, x.sd, x.st, x.q, x.p, 0, 0, x.c⟩ else x
theorem Box.drewN {k : Nat} {w : World} {b : Nat} {f : Nat → Value} (h : Box k w b f) (m : Nat) : Box k (w.drewN m) b f := h.below (below_drewN _ m w)
set_option maxRecDepth 100000 in
set_option maxHeartbeats 8000000 in
theorem reckon_dn {w : World} {g : Nat} {x : Ch} {m : Int} (K : RfAt w g x m) (hd : dnB x.st = true) : Calls Try.prog 39 #[.pointer (some ⟨g, 0, none⟩)] w fun e w' => e = .returned (.tuple #[]) ∧ Rf w w' g (rkC x) (rkM x) := by
  unfold rkC rkM
  rw [if_pos hd, if_pos hd]
  have h3 : w.cell? ⟨g, 3, none⟩ = some (.int .i64 x.st) := K.cell 3 (by omega)
  have z3 : w.frozen? ⟨g, 3, none⟩ = false := K.fz 3
  have h6 : w.cell? ⟨g, 6, none⟩ = some (.int .i64 x.nq) := K.cell 6 (by omega)
  have z6 : w.frozen? ⟨g, 6, none⟩ = false := K.fz 6
  have h7 : w.cell? ⟨g, 7, none⟩ = some (.int .i64 x.np) := K.cell 7 (by omega)
  have z7 : w.frozen? ⟨g, 7, none⟩ = false := K.fz 7
  have h9 : w.cell? ⟨g, 9, none⟩ = some (.int .i64 m) := K.cell 9 (by omega)
  have z9 : w.frozen? ⟨g, 9, none⟩ = false := K.fz 9
  have D := refDone_any x.st w
  rw [hd] at D
  have R : Hid _ := ((K.go.s_nq 0).s_np 0).s_m 0
  clear K hd
  go_enter Try.func39, Try.ntmps39
  go_wp2_with fail
  refine D.mono ?_
  rintro e w ⟨rfl, rfl⟩
  go_wp2_with fail
  (try simp only [Exit.inBlock, Exit.then]); first | (refine bodyPost_ret (results_none rfl _ _ _) rfl ?_) | (refine bodyPost_end (results_none rfl _ _ _) rfl ?_)
  exact ⟨rfl, R.out⟩
set_option maxRecDepth 100000 in
set_option maxHeartbeats 8000000 in
theorem reckon_five {w : World} {g : Nat} {x : Ch} {m : Int} (K : RfAt w g x m) (hd : dnB x.st = false) (b1 : -4611686018427387904 ≤ x.q - x.c ∧ x.q - x.c ≤ 4611686018427387904) (b2 : -4611686018427387904 ≤ x.nq - x.c ∧ x.nq - x.c ≤ 4611686018427387904) (h5 : x.st = 5) (hq : x.q < x.nq) : Calls Try.prog 39 #[.pointer (some ⟨g, 0, none⟩)] w fun e w' => e = .returned (.tuple #[]) ∧ Rf w w' g (rkC x) (rkM x) := by
  unfold rkC rkM
  rw [if_neg (by rw [hd]; exact Bool.noConfusion), if_neg (by rw [hd]; exact Bool.noConfusion), if_pos ⟨h5, hq⟩]
  have h3 : w.cell? ⟨g, 3, none⟩ = some (.int .i64 x.st) := K.cell 3 (by omega)
  have z3 : w.frozen? ⟨g, 3, none⟩ = false := K.fz 3
  have h4 : w.cell? ⟨g, 4, none⟩ = some (.int .i64 x.q) := K.cell 4 (by omega)
  have z4 : w.frozen? ⟨g, 4, none⟩ = false := K.fz 4
  have h6 : w.cell? ⟨g, 6, none⟩ = some (.int .i64 x.nq) := K.cell 6 (by omega)
  have z6 : w.frozen? ⟨g, 6, none⟩ = false := K.fz 6
  have h8 : w.cell? ⟨g, 8, none⟩ = some (.int .i64 x.c) := K.cell 8 (by omega)
  have z8 : w.frozen? ⟨g, 8, none⟩ = false := K.fz 8
  have h9 : w.cell? ⟨g, 9, none⟩ = some (.int .i64 m) := K.cell 9 (by omega)
  have z9 : w.frozen? ⟨g, 9, none⟩ = false := K.fz 9
  have hw1 : IntKind.i64.wrap (x.q - x.c) = x.q - x.c := by rw [IntKind.wrap_i64]; omega
  have hw2 : IntKind.i64.wrap (x.nq - x.c) = x.nq - x.c := by rw [IntKind.wrap_i64]; omega
  have D := refDone_any x.st w
  rw [hd] at D
  have R1 : Hid (Rf w ((w.setCell ⟨g, 9, none⟩ (.int .i64 (x.q - x.c))).drew) g x (x.q - x.c)) := (K.go.s_m _).draw 1
  clear K hd
  obtain ⟨id, ve, sd, st, q, p, nq, np, c⟩ := x
  simp only at *
  subst h5
  go_enter Try.func39, Try.ntmps39
  go_wp2_with fail
  refine D.mono ?_
  rintro e w ⟨rfl, rfl⟩
  go_wp2_with fail
  go_region
  go_wp2_with fail
  generalize (w.setCell ⟨g, 9, none⟩ (.int .i64 (q - c))).drew = w1 at *
  clear h3 z3 h4 z4 h6 z6 h8 z8 h9 z9 D
  have K := R1.out.rf
  have h3 : w1.cell? ⟨g, 3, none⟩ = some (.int .i64 5) := K.cell 3 (by omega)
  have z3 : w1.frozen? ⟨g, 3, none⟩ = false := K.fz 3
  have h4 : w1.cell? ⟨g, 4, none⟩ = some (.int .i64 q) := K.cell 4 (by omega)
  have z4 : w1.frozen? ⟨g, 4, none⟩ = false := K.fz 4
  have h6 : w1.cell? ⟨g, 6, none⟩ = some (.int .i64 nq) := K.cell 6 (by omega)
  have z6 : w1.frozen? ⟨g, 6, none⟩ = false := K.fz 6
  have h8 : w1.cell? ⟨g, 8, none⟩ = some (.int .i64 c) := K.cell 8 (by omega)
  have z8 : w1.frozen? ⟨g, 8, none⟩ = false := K.fz 8
  have h9 : w1.cell? ⟨g, 9, none⟩ = some (.int .i64 (q - c)) := K.cell 9 (by omega)
  have z9 : w1.frozen? ⟨g, 9, none⟩ = false := K.fz 9
  have k5 : decide (q < nq) = true := decide_eq_true hq
  have R2 : ∀ n, Hid (Rf w ((w1.setCell ⟨g, 9, none⟩ (.int .i64 (nq - c))).drewN n) g ⟨id, ve, sd, 5, q, p, nq, np, c⟩ (nq - c)) := fun n => (R1.out.s_m _).draw n
  clear K R1
  go_quiet (fail)
  go_wp2_with fail
  go_region
  go_wp2_with fail
  (try simp only [Exit.inBlock, Exit.then]); first | (refine bodyPost_ret (results_none rfl _ _ _) rfl ?_) | (refine bodyPost_end (results_none rfl _ _ _) rfl ?_)
  exact ⟨rfl, (R2 _).out⟩
set_option maxRecDepth 100000 in
set_option maxHeartbeats 8000000 in
theorem reckon_fiveq {w : World} {g : Nat} {x : Ch} {m : Int} (K : RfAt w g x m) (hd : dnB x.st = false) (b1 : -4611686018427387904 ≤ x.q - x.c ∧ x.q - x.c ≤ 4611686018427387904) (h5 : x.st = 5) (hq : ¬ x.q < x.nq) : Calls Try.prog 39 #[.pointer (some ⟨g, 0, none⟩)] w fun e w' => e = .returned (.tuple #[]) ∧ Rf w w' g (rkC x) (rkM x) := by
  unfold rkC rkM
  rw [if_neg (by rw [hd]; exact Bool.noConfusion), if_neg (by rw [hd]; exact Bool.noConfusion), if_neg (fun k => hq k.2)]
  have h3 : w.cell? ⟨g, 3, none⟩ = some (.int .i64 x.st) := K.cell 3 (by omega)
  have z3 : w.frozen? ⟨g, 3, none⟩ = false := K.fz 3
  have h4 : w.cell? ⟨g, 4, none⟩ = some (.int .i64 x.q) := K.cell 4 (by omega)
  have z4 : w.frozen? ⟨g, 4, none⟩ = false := K.fz 4
  have h6 : w.cell? ⟨g, 6, none⟩ = some (.int .i64 x.nq) := K.cell 6 (by omega)
  have z6 : w.frozen? ⟨g, 6, none⟩ = false := K.fz 6
  have h8 : w.cell? ⟨g, 8, none⟩ = some (.int .i64 x.c) := K.cell 8 (by omega)
  have z8 : w.frozen? ⟨g, 8, none⟩ = false := K.fz 8
  have h9 : w.cell? ⟨g, 9, none⟩ = some (.int .i64 m) := K.cell 9 (by omega)
  have z9 : w.frozen? ⟨g, 9, none⟩ = false := K.fz 9
  have hw1 : IntKind.i64.wrap (x.q - x.c) = x.q - x.c := by rw [IntKind.wrap_i64]; omega
  have D := refDone_any x.st w
  rw [hd] at D
  have R1 : Hid (Rf w ((w.setCell ⟨g, 9, none⟩ (.int .i64 (x.q - x.c))).drew) g x (x.q - x.c)) := (K.go.s_m _).draw 1
  clear K hd
  obtain ⟨id, ve, sd, st, q, p, nq, np, c⟩ := x
  simp only at *
  subst h5
  go_enter Try.func39, Try.ntmps39
  go_wp2_with fail
  refine D.mono ?_
  rintro e w ⟨rfl, rfl⟩
  go_wp2_with fail
  go_region
  go_wp2_with fail
  generalize (w.setCell ⟨g, 9, none⟩ (.int .i64 (q - c))).drew = w1 at *
  clear h3 z3 h4 z4 h6 z6 h8 z8 h9 z9 D
  have K := R1.out.rf
  have h3 : w1.cell? ⟨g, 3, none⟩ = some (.int .i64 5) := K.cell 3 (by omega)
  have z3 : w1.frozen? ⟨g, 3, none⟩ = false := K.fz 3
  have h4 : w1.cell? ⟨g, 4, none⟩ = some (.int .i64 q) := K.cell 4 (by omega)
  have z4 : w1.frozen? ⟨g, 4, none⟩ = false := K.fz 4
  have h6 : w1.cell? ⟨g, 6, none⟩ = some (.int .i64 nq) := K.cell 6 (by omega)
  have z6 : w1.frozen? ⟨g, 6, none⟩ = false := K.fz 6
  have h8 : w1.cell? ⟨g, 8, none⟩ = some (.int .i64 c) := K.cell 8 (by omega)
  have z8 : w1.frozen? ⟨g, 8, none⟩ = false := K.fz 8
  have h9 : w1.cell? ⟨g, 9, none⟩ = some (.int .i64 (q - c)) := K.cell 9 (by omega)
  have z9 : w1.frozen? ⟨g, 9, none⟩ = false := K.fz 9
  have k5 : decide (q < nq) = false := decide_eq_false (by omega)
  have R2 : ∀ n, Hid (Rf w (w1.drewN n) g ⟨id, ve, sd, 5, q, p, nq, np, c⟩ (q - c)) := fun n => R1.out.draw n
  clear K R1
  go_quiet (fail)
  go_wp2_with fail
  (try simp only [Exit.inBlock, Exit.then]); first | (refine bodyPost_ret (results_none rfl _ _ _) rfl ?_) | (refine bodyPost_end (results_none rfl _ _ _) rfl ?_)
  exact ⟨rfl, (R2 _).out⟩
set_option maxRecDepth 100000 in
set_option maxHeartbeats 8000000 in
theorem reckon_rest {w : World} {g : Nat} {x : Ch} {m : Int} (K : RfAt w g x m) (hd : dnB x.st = false) (b1 : -4611686018427387904 ≤ x.q - x.c ∧ x.q - x.c ≤ 4611686018427387904) (h5 : ¬ x.st = 5) : Calls Try.prog 39 #[.pointer (some ⟨g, 0, none⟩)] w fun e w' => e = .returned (.tuple #[]) ∧ Rf w w' g (rkC x) (rkM x) := by
  unfold rkC rkM
  rw [if_neg (by rw [hd]; exact Bool.noConfusion), if_neg (by rw [hd]; exact Bool.noConfusion), if_neg (fun k => h5 k.1)]
  have h3 : w.cell? ⟨g, 3, none⟩ = some (.int .i64 x.st) := K.cell 3 (by omega)
  have z3 : w.frozen? ⟨g, 3, none⟩ = false := K.fz 3
  have h4 : w.cell? ⟨g, 4, none⟩ = some (.int .i64 x.q) := K.cell 4 (by omega)
  have z4 : w.frozen? ⟨g, 4, none⟩ = false := K.fz 4
  have h6 : w.cell? ⟨g, 6, none⟩ = some (.int .i64 x.nq) := K.cell 6 (by omega)
  have z6 : w.frozen? ⟨g, 6, none⟩ = false := K.fz 6
  have h8 : w.cell? ⟨g, 8, none⟩ = some (.int .i64 x.c) := K.cell 8 (by omega)
  have z8 : w.frozen? ⟨g, 8, none⟩ = false := K.fz 8
  have h9 : w.cell? ⟨g, 9, none⟩ = some (.int .i64 m) := K.cell 9 (by omega)
  have z9 : w.frozen? ⟨g, 9, none⟩ = false := K.fz 9
  have hw1 : IntKind.i64.wrap (x.q - x.c) = x.q - x.c := by rw [IntKind.wrap_i64]; omega
  have D := refDone_any x.st w
  rw [hd] at D
  have R1 : Hid (Rf w ((w.setCell ⟨g, 9, none⟩ (.int .i64 (x.q - x.c))).drew) g x (x.q - x.c)) := (K.go.s_m _).draw 1
  clear K hd
  obtain ⟨id, ve, sd, st, q, p, nq, np, c⟩ := x
  simp only at *
  go_enter Try.func39, Try.ntmps39
  go_wp2_with fail
  refine D.mono ?_
  rintro e w ⟨rfl, rfl⟩
  go_wp2_with fail
  go_region
  go_wp2_with fail
  generalize (w.setCell ⟨g, 9, none⟩ (.int .i64 (q - c))).drew = w1 at *
  clear h3 z3 h4 z4 h6 z6 h8 z8 h9 z9 D
  have K := R1.out.rf
  have h3 : w1.cell? ⟨g, 3, none⟩ = some (.int .i64 st) := K.cell 3 (by omega)
  have z3 : w1.frozen? ⟨g, 3, none⟩ = false := K.fz 3
  have h4 : w1.cell? ⟨g, 4, none⟩ = some (.int .i64 q) := K.cell 4 (by omega)
  have z4 : w1.frozen? ⟨g, 4, none⟩ = false := K.fz 4
  have h6 : w1.cell? ⟨g, 6, none⟩ = some (.int .i64 nq) := K.cell 6 (by omega)
  have z6 : w1.frozen? ⟨g, 6, none⟩ = false := K.fz 6
  have h8 : w1.cell? ⟨g, 8, none⟩ = some (.int .i64 c) := K.cell 8 (by omega)
  have z8 : w1.frozen? ⟨g, 8, none⟩ = false := K.fz 8
  have h9 : w1.cell? ⟨g, 9, none⟩ = some (.int .i64 (q - c)) := K.cell 9 (by omega)
  have z9 : w1.frozen? ⟨g, 9, none⟩ = false := K.fz 9
  have k5 : (st == 5) = false := beq_false_of_ne h5
  have k6 : decide (st = 5) = false := decide_eq_false h5
  have R2 : ∀ n, Hid (Rf w (w1.drewN n) g ⟨id, ve, sd, st, q, p, nq, np, c⟩ (q - c)) := fun n => R1.out.draw n
  clear K R1
  go_quiet (fail)
  go_wp2_with fail
  (try simp only [Exit.inBlock, Exit.then]); first | (refine bodyPost_ret (results_none rfl _ _ _) rfl ?_) | (refine bodyPost_end (results_none rfl _ _ _) rfl ?_)
  exact ⟨rfl, (R2 _).out⟩
theorem reckon_any {w : World} {g : Nat} {x : Ch} {m : Int} (K : RfAt w g x m) (b1 : -4611686018427387904 ≤ x.q - x.c ∧ x.q - x.c ≤ 4611686018427387904) (b2 : -4611686018427387904 ≤ x.nq - x.c ∧ x.nq - x.c ≤ 4611686018427387904) : Calls Try.prog 39 #[.pointer (some ⟨g, 0, none⟩)] w fun e w' => e = .returned (.tuple #[]) ∧ Rf w w' g (rkC x) (rkM x) := by
  cases hd : dnB x.st
  · by_cases h5 : x.st = 5
    · by_cases hq : x.q < x.nq
      · exact reckon_five K hd b1 b2 h5 hq
      · exact reckon_fiveq K hd b1 h5 hq
    · exact reckon_rest K hd b1 h5
  · exact reckon_dn K hd
set_option maxRecDepth 100000 in
set_option maxHeartbeats 8000000 in
theorem coverR_any {w : World} {g : Nat} {x : Ch} {m : Int} (K : RfAt w g x m) : Calls Try.prog 16 #[.pointer (some ⟨g, 0, none⟩)] w fun e w' => e = .returned (.int .i64 (max x.p x.np)) ∧ ∃ m, w' = w.drewN m := by
  have h5 : w.cell? ⟨g, 5, none⟩ = some (.int .i64 x.p) := K.cell 5 (by omega)
  have h7 : w.cell? ⟨g, 7, none⟩ = some (.int .i64 x.np) := K.cell 7 (by omega)
  clear K
  generalize x.p = p at *
  generalize x.np = np at *
  go_enter Try.func16, Try.ntmps16
  go_wp2_with fail
  go_quiet (fail)
  go_wp2_with fail
  go_ret
  exact ⟨rfl, _, rfl⟩
/-- The reference's child was made, at a block of its own. -/
def BornR (w : World) (x : Ch) (e : Ending) (w' : World) : Prop := ∃ n, e = .returned (.tuple #[.pointer (some ⟨n, 0, none⟩), .int .i64 0]) ∧ RfAt w' n x x.q ∧ w.heap.size ≤ n ∧ Below w.heap.size w w'
theorem box10_new (w : World) (x : Ch) (m : Int) (t : TypeId) : Box 10 (w.alloc (.cells #[.string x.id, .string x.ve, .int .i64 x.sd, .int .i64 x.st, .int .i64 x.q, .int .i64 x.p, .int .i64 x.nq, .int .i64 x.np, .int .i64 x.c, .int .i64 m] t)) w.heap.size (rfF x m) := by
  refine ⟨fun j hj => ?_, fun j => by simp, by simp⟩
  rcases (show j = 0 ∨ j = 1 ∨ j = 2 ∨ j = 3 ∨ j = 4 ∨ j = 5 ∨ j = 6 ∨ j = 7 ∨ j = 8 ∨ j = 9 by omega) with rfl | rfl | rfl | rfl | rfl | rfl | rfl | rfl | rfl | rfl <;> simp [rfF, chF]
theorem sd_in (s : Int) : (decide (1 ≤ s) && decide (s ≤ 2)) = sdB s := by
  unfold sdB
  rw [Bool.eq_iff_iff]
  simp only [Bool.and_eq_true, Bool.or_eq_true, decide_eq_true_eq, beq_iff_eq]
  omega
set_option maxRecDepth 100000 in
set_option maxHeartbeats 8000000 in
theorem newR_name (id ve : ByteArray) (sd q p : Int) (w : World) (z1 : id.size ≤ 300) (z2 : ve.size ≤ 300) (h : (vldB id && vldB ve) = false) : Calls Try.prog 8 #[.string id, .string ve, .int .i64 sd, .int .i64 q, .int .i64 p] w fun e w' => e = .returned (.tuple #[.pointer none, .int .i64 43]) ∧ Below w.heap.size w w' := by
  have V1 := fun w => refValid_any id w z1
  have V2 := fun w => refValid_any ve w z2
  cases h1 : vldB id
  · rw [h1] at V1
    clear h V2 h1
    go_enter Try.func8, Try.ntmps8
    go_wp2_with fail
    refine (V1 _).mono ?_
    rintro e w1 ⟨rfl, hb⟩
    have hb1 : Hid (Below w.heap.size w w1) := hb
    clear hb
    go_wp2_with fail
    go_ret2
    exact ⟨rfl, hb1.out⟩
  · rw [h1] at V1
    rw [h1, Bool.true_and] at h
    rw [h] at V2
    clear h h1
    go_enter Try.func8, Try.ntmps8
    go_wp2_with fail
    refine (V1 _).mono ?_
    rintro e w1 ⟨rfl, hb⟩
    have hb1 : Hid (Below w.heap.size w w1) := hb
    clear hb
    go_wp2_with fail
    refine (V2 _).mono ?_
    rintro e w2 ⟨rfl, hb⟩
    have hb2 : Hid (Below w.heap.size w w2) := hb1.out.trans (hb.mono hb1.out.size)
    clear hb hb1
    go_wp2_with fail
    go_ret2
    exact ⟨rfl, hb2.out⟩
set_option maxRecDepth 100000 in
set_option maxHeartbeats 8000000 in
theorem newR_side (id ve : ByteArray) (sd q p : Int) (w : World) (z1 : id.size ≤ 300) (z2 : ve.size ≤ 300) (h : (vldB id && vldB ve) = true) (hs : sdB sd = false) : Calls Try.prog 8 #[.string id, .string ve, .int .i64 sd, .int .i64 q, .int .i64 p] w fun e w' => e = .returned (.tuple #[.pointer none, .int .i64 2]) ∧ Below w.heap.size w w' := by
  have V1 := fun w => refValid_any id w z1
  have V2 := fun w => refValid_any ve w z2
  have S1 := inR_any sd 1 2
  rw [sd_in] at S1
  have U1 := inR_any q 1 1099511627776
  have U2 := inR_any p 1 1099511627776
  rw [show (decide (1 ≤ q) && decide (q ≤ 1099511627776)) = upB q 1099511627776 from rfl] at U1
  rw [show (decide (1 ≤ p) && decide (p ≤ 1099511627776)) = upB p 1099511627776 from rfl] at U2
  obtain ⟨h1, h2⟩ := Bool.and_eq_true_iff.1 h
  rw [h1] at V1
  rw [h2] at V2
  clear h h1 h2 U1 U2
  rw [hs] at S1
  go_enter Try.func8, Try.ntmps8
  go_wp2_with fail
  refine (V1 _).mono ?_
  rintro e w1 ⟨rfl, hb⟩
  have hb1 : Hid (Below w.heap.size w w1) := hb
  clear hb
  go_wp2_with fail
  refine (V2 _).mono ?_
  rintro e w2 ⟨rfl, hb⟩
  have hb2 : Hid (Below w.heap.size w w2) := hb1.out.trans (hb.mono hb1.out.size)
  clear hb hb1
  go_wp2_with fail
  refine (S1 _).mono ?_
  rintro e w2 ⟨rfl, rfl⟩
  clear S1
  go_wp2_with fail
  go_ret2
  exact ⟨rfl, hb2.out⟩
set_option maxRecDepth 100000 in
set_option maxHeartbeats 8000000 in
theorem newR_num (id ve : ByteArray) (sd q p : Int) (w : World) (z1 : id.size ≤ 300) (z2 : ve.size ≤ 300) (h : (vldB id && vldB ve) = true) (hs : sdB sd = true) (hn : (upB q 1099511627776 && upB p 1099511627776) = false) : Calls Try.prog 8 #[.string id, .string ve, .int .i64 sd, .int .i64 q, .int .i64 p] w fun e w' => e = .returned (.tuple #[.pointer none, .int .i64 2]) ∧ Below w.heap.size w w' := by
  have V1 := fun w => refValid_any id w z1
  have V2 := fun w => refValid_any ve w z2
  have S1 := inR_any sd 1 2
  rw [sd_in] at S1
  have U1 := inR_any q 1 1099511627776
  have U2 := inR_any p 1 1099511627776
  rw [show (decide (1 ≤ q) && decide (q ≤ 1099511627776)) = upB q 1099511627776 from rfl] at U1
  rw [show (decide (1 ≤ p) && decide (p ≤ 1099511627776)) = upB p 1099511627776 from rfl] at U2
  obtain ⟨h1, h2⟩ := Bool.and_eq_true_iff.1 h
  rw [h1] at V1
  rw [h2] at V2
  clear h h1 h2
  rw [hs] at S1
  clear hs
  cases h1 : upB q 1099511627776
  · rw [h1] at U1
    clear hn U2 h1
    go_enter Try.func8, Try.ntmps8
    go_wp2_with fail
    refine (V1 _).mono ?_
    rintro e w1 ⟨rfl, hb⟩
    have hb1 : Hid (Below w.heap.size w w1) := hb
    clear hb
    go_wp2_with fail
    refine (V2 _).mono ?_
    rintro e w2 ⟨rfl, hb⟩
    have hb2 : Hid (Below w.heap.size w w2) := hb1.out.trans (hb.mono hb1.out.size)
    clear hb hb1
    go_wp2_with fail
    refine (S1 _).mono ?_
    rintro e w2 ⟨rfl, rfl⟩
    clear S1
    go_wp2_with fail
    refine (U1 _).mono ?_
    rintro e w2 ⟨rfl, rfl⟩
    clear U1
    go_wp2_with fail
    go_ret2
    exact ⟨rfl, hb2.out⟩
  · rw [h1] at U1
    rw [h1, Bool.true_and] at hn
    rw [hn] at U2
    clear hn h1
    go_enter Try.func8, Try.ntmps8
    go_wp2_with fail
    refine (V1 _).mono ?_
    rintro e w1 ⟨rfl, hb⟩
    have hb1 : Hid (Below w.heap.size w w1) := hb
    clear hb
    go_wp2_with fail
    refine (V2 _).mono ?_
    rintro e w2 ⟨rfl, hb⟩
    have hb2 : Hid (Below w.heap.size w w2) := hb1.out.trans (hb.mono hb1.out.size)
    clear hb hb1
    go_wp2_with fail
    refine (S1 _).mono ?_
    rintro e w2 ⟨rfl, rfl⟩
    clear S1
    go_wp2_with fail
    refine (U1 _).mono ?_
    rintro e w2 ⟨rfl, rfl⟩
    clear U1
    go_wp2_with fail
    refine (U2 _).mono ?_
    rintro e w2 ⟨rfl, rfl⟩
    clear U2
    go_wp2_with fail
    go_ret2
    exact ⟨rfl, hb2.out⟩
set_option maxRecDepth 100000 in
set_option maxHeartbeats 8000000 in
theorem newR_ok (id ve : ByteArray) (sd q p : Int) (w : World) (z1 : id.size ≤ 300) (z2 : ve.size ≤ 300) (h : (vldB id && vldB ve) = true) (hs : sdB sd = true) (hn : (upB q 1099511627776 && upB p 1099511627776) = true) : Calls Try.prog 8 #[.string id, .string ve, .int .i64 sd, .int .i64 q, .int .i64 p] w fun e w' => BornR w (newC id ve sd q p) e w' := by
  have V1 := fun w => refValid_any id w z1
  have V2 := fun w => refValid_any ve w z2
  have S1 := inR_any sd 1 2
  rw [sd_in] at S1
  have U1 := inR_any q 1 1099511627776
  have U2 := inR_any p 1 1099511627776
  rw [show (decide (1 ≤ q) && decide (q ≤ 1099511627776)) = upB q 1099511627776 from rfl] at U1
  rw [show (decide (1 ≤ p) && decide (p ≤ 1099511627776)) = upB p 1099511627776 from rfl] at U2
  obtain ⟨h1, h2⟩ := Bool.and_eq_true_iff.1 h
  rw [h1] at V1
  rw [h2] at V2
  clear h h1 h2
  rw [hs] at S1
  clear hs
  obtain ⟨n1, n2⟩ := Bool.and_eq_true_iff.1 hn
  rw [n1] at U1
  rw [n2] at U2
  clear hn n1 n2
  go_enter Try.func8, Try.ntmps8
  go_wp2_with fail
  refine (V1 _).mono ?_
  rintro e w1 ⟨rfl, hb⟩
  have hb1 : Hid (Below w.heap.size w w1) := hb
  clear hb
  go_wp2_with fail
  refine (V2 _).mono ?_
  rintro e w2 ⟨rfl, hb⟩
  have hb2 : Hid (Below w.heap.size w w2) := hb1.out.trans (hb.mono hb1.out.size)
  clear hb hb1
  go_wp2_with fail
  refine (S1 _).mono ?_
  rintro e w2 ⟨rfl, rfl⟩
  clear S1
  go_wp2_with fail
  refine (U1 _).mono ?_
  rintro e w2 ⟨rfl, rfl⟩
  clear U1
  go_wp2_with fail
  refine (U2 _).mono ?_
  rintro e w2 ⟨rfl, rfl⟩
  clear U2
  go_wp2_with fail
  go_ret2
  refine ⟨w2.heap.size, by simp, box10_new w2 (newC id ve sd q p) q _, hb2.out.size, hb2.out.alloc hb2.out.size _⟩
theorem newR_any (id ve : ByteArray) (sd q p : Int) (w : World) (z1 : id.size ≤ 300) (z2 : ve.size ≤ 300) : Calls Try.prog 8 #[.string id, .string ve, .int .i64 sd, .int .i64 q, .int .i64 p] w fun e w' => (nwE id ve sd q p ≠ 0 → e = .returned (.tuple #[.pointer none, .int .i64 (nwE id ve sd q p)]) ∧ Below w.heap.size w w') ∧ (nwE id ve sd q p = 0 → BornR w (newC id ve sd q p) e w') := by
  cases h : (vldB id && vldB ve)
  · rw [nw_name h]
    exact (newR_name id ve sd q p w z1 z2 h).mono fun _ _ k => ⟨fun _ => k, fun e => absurd e (by omega)⟩
  cases hs : sdB sd
  · rw [nw_side h hs]
    exact (newR_side id ve sd q p w z1 z2 h hs).mono fun _ _ k => ⟨fun _ => k, fun e => absurd e (by omega)⟩
  cases hn : (upB q 1099511627776 && upB p 1099511627776)
  · rw [nw_num h hs hn]
    exact (newR_num id ve sd q p w z1 z2 h hs hn).mono fun _ _ k => ⟨fun _ => k, fun e => absurd e (by omega)⟩
  · rw [nw_ok h hs hn]
    exact (newR_ok id ve sd q p w z1 z2 h hs hn).mono fun _ _ k => ⟨fun e => absurd rfl e, fun _ => k⟩
end Go.Proofs.Ytkkimkhkoiempaa.CH
