/-
  Contracts of the reference's Event, Replace, Trade, Bust: the same answers as the program's, the same child behind them.
-/
import Derived.Test.YtkkimkhkoiempaaChRefMath
import Derived.BigQuiet
namespace Go.Proofs.Ytkkimkhkoiempaa.CH
open Go.ChangeShapes Go.WideShapes Go.ChangeAt Go.RowKit Go.Lib MA

/-- Small enough that no difference runs over. -/
def Sml (y : Ch) : Prop := (-4611686018427387904 ≤ y.q - y.c ∧ y.q - y.c ≤ 4611686018427387904) ∧ (-4611686018427387904 ≤ y.nq - y.c ∧ y.nq - y.c ≤ 4611686018427387904)
theorem rk_on {w0 W : World} {g : Nat} {y : Ch} {m : Int} (R : Rf w0 W g y m) (b : Sml y) : Calls Try.prog 39 #[.pointer (some ⟨g, 0, none⟩)] W fun e w' => e = .returned (.tuple #[]) ∧ Rf w0 w' g (rkC y) (rkM y) :=
  (reckon_any R.rf b.1 b.2).mono fun _ _ h => ⟨h.1, R.then h.2⟩
theorem Good.small {x : Ch} (g : Good x) : (0 ≤ x.c ∧ x.c ≤ 1099511627776) ∧ (-1099511627776 ≤ x.q ∧ x.q ≤ 1099511627776) ∧ (-1099511627776 ≤ x.nq ∧ x.nq ≤ 1099511627776) := by
  have hc := g.c
  have hq := g.q
  by_cases e : x.st = 5
  · have := g.n5 e; omega
  · have := g.n0 e; omega
theorem next_on (s v c : Int) (w : World) (n : Nat) : Calls Try.prog 38 #[.int .i64 s, .int .i64 v, .int .i64 c] (w.drewN n) fun e w' => e = .returned (.tuple #[.int .i64 (nS s v c), .int .i64 (nE s v c)]) ∧ w' = w.drewN n :=
  (refNext_any s v c _).mono fun _ _ h => ⟨h.1, h.2.symm⟩
set_option maxRecDepth 100000 in
set_option maxHeartbeats 8000000 in
theorem eventR_no {w : World} {g : Nat} {x : Ch} {m : Int} (K : RfAt w g x m) (v : Int) (hE : ¬ nE x.st v x.c = 0) : Calls Try.prog 30 #[.pointer (some ⟨g, 0, none⟩), .int .i64 v] w fun e w' => e = .returned (.int .i64 200) ∧ Rf w w' g x m := by
  have h3 : w.cell? ⟨g, 3, none⟩ = some (.int .i64 x.st) := K.cell 3 (by omega)
  have z3 : w.frozen? ⟨g, 3, none⟩ = false := K.fz 3
  have h8 : w.cell? ⟨g, 8, none⟩ = some (.int .i64 x.c) := K.cell 8 (by omega)
  have z8 : w.frozen? ⟨g, 8, none⟩ = false := K.fz 8
  have N1 := next_on x.st v x.c w
  have R : Hid (∀ n, Rf w (w.drewN n) g x m) := fun n => K.go.draw n
  have e1 : (nE x.st v x.c == 0) = false := beq_false_of_ne hE
  have e2 : (nE x.st v x.c != 0) = true := by simp [bne, e1]
  clear K
  generalize nE x.st v x.c = E at *
  generalize nS x.st v x.c = s at *
  generalize x.st = st at *
  generalize x.c = c at *
  go_enter Try.func30, Try.ntmps30
  go_wp2_with fail
  go_quiet (first | (go_at_call 38; exact Calls.quiet_of_same (N1 _)))
  go_wp2_with fail
  go_ret
  exact ⟨rfl, R.out _⟩
set_option maxRecDepth 100000 in
set_option maxHeartbeats 8000000 in
theorem eventR_plain {w : World} {g : Nat} {x : Ch} {m : Int} (K : RfAt w g x m) (v : Int) (h3 : ¬ v = 3) (h8 : ¬ v = 8) (b : Sml x) (hE : nE x.st v x.c = 0) : Calls Try.prog 30 #[.pointer (some ⟨g, 0, none⟩), .int .i64 v] w fun e w' => e = .returned (.int .i64 0) ∧ Rf w w' g (rkC (wS x (nS x.st v x.c))) (rkM (wS x (nS x.st v x.c))) := by
  have v3 : (v == 3) = false := beq_false_of_ne h3
  have v8 : (v == 8) = false := beq_false_of_ne h8
  have n3 := h3
  have n8 := h8
  clear h3 h8
  have h3 : w.cell? ⟨g, 3, none⟩ = some (.int .i64 x.st) := K.cell 3 (by omega)
  have z3 : w.frozen? ⟨g, 3, none⟩ = false := K.fz 3
  have h8 : w.cell? ⟨g, 8, none⟩ = some (.int .i64 x.c) := K.cell 8 (by omega)
  have z8 : w.frozen? ⟨g, 8, none⟩ = false := K.fz 8
  have N1 := next_on x.st v x.c w
  rw [hE] at N1
  have C : ∀ W, Hid (Rf w W g (wS x (nS x.st v x.c)) m) → Calls Try.prog 39 #[.pointer (some ⟨g, 0, none⟩)] W fun e w' => e = .returned (.tuple #[]) ∧ Rf w w' g (rkC (wS x (nS x.st v x.c))) (rkM (wS x (nS x.st v x.c))) := fun W R => rk_on R.out b
  have R : Hid (Rf w (w.setCell ⟨g, 3, none⟩ (.int .i64 (nS x.st v x.c))) g (wS x (nS x.st v x.c)) m) := K.go.s_st _
  clear K hE b
  obtain ⟨y, hy⟩ : ∃ y, wS x (nS x.st v x.c) = y := ⟨_, rfl⟩
  rw [hy] at C R ⊢
  clear hy
  generalize nS x.st v x.c = s at *
  generalize x.st = st at *
  generalize x.c = c at *
  go_enter Try.func30, Try.ntmps30
  go_wp2_with fail
  go_quiet (first | (go_at_call 38; exact Calls.quiet_of_same (N1 _)))
  go_wp2_with fail
  refine (C _ (by first | exact R.out.draw _ | exact (R.out.draw _).draw _)).mono ?_
  rintro e w2 ⟨rfl, hR⟩
  have R2 : Hid (Rf w w2 g (rkC y) (rkM y)) := hR
  clear hR R C
  go_wp2_with fail
  go_ret
  exact ⟨rfl, R2.out⟩
set_option maxRecDepth 100000 in
set_option maxHeartbeats 8000000 in
theorem eventR_8f {w : World} {g : Nat} {x : Ch} {m : Int} (K : RfAt w g x m) (b : Sml (wZ x 6)) (h : x.q ≤ x.c) (hE : nE x.st 8 x.c = 0) : Calls Try.prog 30 #[.pointer (some ⟨g, 0, none⟩), .int .i64 8] w fun e w' => e = .returned (.int .i64 0) ∧ Rf w w' g (rkC (wZ x 6)) (rkM (wZ x 6)) := by
  have h3 : w.cell? ⟨g, 3, none⟩ = some (.int .i64 x.st) := K.cell 3 (by omega)
  have z3 : w.frozen? ⟨g, 3, none⟩ = false := K.fz 3
  have h4 : w.cell? ⟨g, 4, none⟩ = some (.int .i64 x.q) := K.cell 4 (by omega)
  have z4 : w.frozen? ⟨g, 4, none⟩ = false := K.fz 4
  have h6 : w.cell? ⟨g, 6, none⟩ = some (.int .i64 x.nq) := K.cell 6 (by omega)
  have z6 : w.frozen? ⟨g, 6, none⟩ = false := K.fz 6
  have h7 : w.cell? ⟨g, 7, none⟩ = some (.int .i64 x.np) := K.cell 7 (by omega)
  have z7 : w.frozen? ⟨g, 7, none⟩ = false := K.fz 7
  have h8 : w.cell? ⟨g, 8, none⟩ = some (.int .i64 x.c) := K.cell 8 (by omega)
  have z8 : w.frozen? ⟨g, 8, none⟩ = false := K.fz 8
  have N1 := next_on x.st 8 x.c w
  rw [hE] at N1
  have C : ∀ W, Hid (Rf w W g (wZ x 6) m) → Calls Try.prog 39 #[.pointer (some ⟨g, 0, none⟩)] W fun e w' => e = .returned (.tuple #[]) ∧ Rf w w' g (rkC (wZ x 6)) (rkM (wZ x 6)) := fun W R => rk_on R.out b
  have R0 : Hid (∀ n, Rf w _ g (wZ x (nS x.st 8 x.c)) m) := fun n => (((K.go.draw n).s_st (nS x.st 8 x.c)).s_nq 0).s_np 0
  have FU : Hid (∀ W, Rf w W g (wZ x (nS x.st 8 x.c)) m → Rf w (W.setCell ⟨g, 3, none⟩ (.int .i64 6)) g (wZ x 6) m) := fun W R => R.s_st 6
  have eq1 : Hid ((wZ x (nS x.st 8 x.c)).st = nS x.st 8 x.c ∧ (wZ x (nS x.st 8 x.c)).c = x.c) := ⟨rfl, rfl⟩
  have dq : decide ((wZ x (nS x.st 8 x.c)).q ≤ (wZ x (nS x.st 8 x.c)).c) = true := decide_eq_true h
  clear K hE b
  obtain ⟨y, hy⟩ : ∃ y, (wZ x 6) = y := ⟨_, rfl⟩
  obtain ⟨y1, hy1⟩ : ∃ y, (wZ x (nS x.st 8 x.c)) = y := ⟨_, rfl⟩
  rw [hy] at C FU ⊢
  rw [hy1] at R0 FU eq1 dq
  clear hy hy1
  generalize nS x.st 8 x.c = s at *
  obtain ⟨id, ve, sd, st, q, p, fq, fp, c⟩ := x
  simp only at *
  go_enter Try.func30, Try.ntmps30
  go_wp2_with fail
  go_quiet (first | (go_at_call 38; exact Calls.quiet_of_same (N1 _)))
  go_upto_region 11 with fail
  have R1 : Hid (Rf w ((((w.drewN nq).setCell ⟨g, 3, none⟩ (.int .i64 s)).setCell ⟨g, 6, none⟩ (.int .i64 0)).setCell ⟨g, 7, none⟩ (.int .i64 0)) g y1 m) := R0.out nq
  clear R0 h3 z3 h4 z4 h6 z6 h7 z7 h8 z8 N1
  generalize (((w.drewN nq).setCell ⟨g, 3, none⟩ (.int .i64 s)).setCell ⟨g, 6, none⟩ (.int .i64 0)).setCell ⟨g, 7, none⟩ (.int .i64 0) = w1 at *
  have h3 : w1.cell? ⟨g, 3, none⟩ = some (.int .i64 y1.st) := R1.out.rf.cell 3 (by omega)
  have z3 : w1.frozen? ⟨g, 3, none⟩ = false := R1.out.rf.fz 3
  have h4 : w1.cell? ⟨g, 4, none⟩ = some (.int .i64 y1.q) := R1.out.rf.cell 4 (by omega)
  have h8 : w1.cell? ⟨g, 8, none⟩ = some (.int .i64 y1.c) := R1.out.rf.cell 8 (by omega)
  generalize y1.q = yq at *
  generalize y1.c = yc at *
  generalize y1.st = ys at *
  go_quiet (fail)
  go_wp2_with fail
  refine (C _ (FU.out _ (R1.out.draw _))).mono ?_
  rintro e w2 ⟨rfl, hR⟩
  have R2 : Hid (Rf w w2 g (rkC y) (rkM y)) := hR
  clear hR C FU R1
  go_wp2_with fail
  go_ret
  exact ⟨rfl, R2.out⟩
set_option maxRecDepth 100000 in
set_option maxHeartbeats 8000000 in
theorem eventR_8r {w : World} {g : Nat} {x : Ch} {m : Int} (K : RfAt w g x m) (b : Sml (wZ x (nS x.st 8 x.c))) (h : ¬ x.q ≤ x.c) (hE : nE x.st 8 x.c = 0) : Calls Try.prog 30 #[.pointer (some ⟨g, 0, none⟩), .int .i64 8] w fun e w' => e = .returned (.int .i64 0) ∧ Rf w w' g (rkC (wZ x (nS x.st 8 x.c))) (rkM (wZ x (nS x.st 8 x.c))) := by
  have h3 : w.cell? ⟨g, 3, none⟩ = some (.int .i64 x.st) := K.cell 3 (by omega)
  have z3 : w.frozen? ⟨g, 3, none⟩ = false := K.fz 3
  have h4 : w.cell? ⟨g, 4, none⟩ = some (.int .i64 x.q) := K.cell 4 (by omega)
  have z4 : w.frozen? ⟨g, 4, none⟩ = false := K.fz 4
  have h6 : w.cell? ⟨g, 6, none⟩ = some (.int .i64 x.nq) := K.cell 6 (by omega)
  have z6 : w.frozen? ⟨g, 6, none⟩ = false := K.fz 6
  have h7 : w.cell? ⟨g, 7, none⟩ = some (.int .i64 x.np) := K.cell 7 (by omega)
  have z7 : w.frozen? ⟨g, 7, none⟩ = false := K.fz 7
  have h8 : w.cell? ⟨g, 8, none⟩ = some (.int .i64 x.c) := K.cell 8 (by omega)
  have z8 : w.frozen? ⟨g, 8, none⟩ = false := K.fz 8
  have N1 := next_on x.st 8 x.c w
  rw [hE] at N1
  have C : ∀ W, Hid (Rf w W g (wZ x (nS x.st 8 x.c)) m) → Calls Try.prog 39 #[.pointer (some ⟨g, 0, none⟩)] W fun e w' => e = .returned (.tuple #[]) ∧ Rf w w' g (rkC (wZ x (nS x.st 8 x.c))) (rkM (wZ x (nS x.st 8 x.c))) := fun W R => rk_on R.out b
  have R0 : Hid (∀ n, Rf w _ g (wZ x (nS x.st 8 x.c)) m) := fun n => (((K.go.draw n).s_st (nS x.st 8 x.c)).s_nq 0).s_np 0
  have FU : Hid (∀ W, Rf w W g (wZ x (nS x.st 8 x.c)) m → Rf w (W) g (wZ x (nS x.st 8 x.c)) m) := fun W R => R
  have eq1 : Hid ((wZ x (nS x.st 8 x.c)).st = nS x.st 8 x.c ∧ (wZ x (nS x.st 8 x.c)).c = x.c) := ⟨rfl, rfl⟩
  have dq : decide ((wZ x (nS x.st 8 x.c)).q ≤ (wZ x (nS x.st 8 x.c)).c) = false := decide_eq_false h
  clear K hE b
  obtain ⟨y, hy⟩ : ∃ y, (wZ x (nS x.st 8 x.c)) = y := ⟨_, rfl⟩
  rw [hy] at C FU R0 eq1 dq ⊢
  clear hy
  generalize nS x.st 8 x.c = s at *
  obtain ⟨id, ve, sd, st, q, p, fq, fp, c⟩ := x
  simp only at *
  go_enter Try.func30, Try.ntmps30
  go_wp2_with fail
  go_quiet (first | (go_at_call 38; exact Calls.quiet_of_same (N1 _)))
  go_upto_region 11 with fail
  have R1 : Hid (Rf w ((((w.drewN nq).setCell ⟨g, 3, none⟩ (.int .i64 s)).setCell ⟨g, 6, none⟩ (.int .i64 0)).setCell ⟨g, 7, none⟩ (.int .i64 0)) g y m) := R0.out nq
  clear R0 h3 z3 h4 z4 h6 z6 h7 z7 h8 z8 N1
  generalize (((w.drewN nq).setCell ⟨g, 3, none⟩ (.int .i64 s)).setCell ⟨g, 6, none⟩ (.int .i64 0)).setCell ⟨g, 7, none⟩ (.int .i64 0) = w1 at *
  have h3 : w1.cell? ⟨g, 3, none⟩ = some (.int .i64 y.st) := R1.out.rf.cell 3 (by omega)
  have z3 : w1.frozen? ⟨g, 3, none⟩ = false := R1.out.rf.fz 3
  have h4 : w1.cell? ⟨g, 4, none⟩ = some (.int .i64 y.q) := R1.out.rf.cell 4 (by omega)
  have h8 : w1.cell? ⟨g, 8, none⟩ = some (.int .i64 y.c) := R1.out.rf.cell 8 (by omega)
  generalize y.q = yq at *
  generalize y.c = yc at *
  generalize y.st = ys at *
  go_quiet (fail)
  go_wp2_with fail
  refine (C _ (FU.out _ (R1.out.draw _))).mono ?_
  rintro e w2 ⟨rfl, hR⟩
  have R2 : Hid (Rf w w2 g (rkC y) (rkM y)) := hR
  clear hR C FU R1
  go_wp2_with fail
  go_ret
  exact ⟨rfl, R2.out⟩
set_option maxRecDepth 100000 in
set_option maxHeartbeats 8000000 in
theorem eventR_3f {w : World} {g : Nat} {x : Ch} {m : Int} (K : RfAt w g x m) (b : Sml (wZ ⟨x.id, x.ve, x.sd, x.st, x.nq, x.np, x.nq, x.np, x.c⟩ 6)) (h : x.nq ≤ x.c) (hE : nE x.st 3 x.c = 0) : Calls Try.prog 30 #[.pointer (some ⟨g, 0, none⟩), .int .i64 3] w fun e w' => e = .returned (.int .i64 0) ∧ Rf w w' g (rkC (wZ ⟨x.id, x.ve, x.sd, x.st, x.nq, x.np, x.nq, x.np, x.c⟩ 6)) (rkM (wZ ⟨x.id, x.ve, x.sd, x.st, x.nq, x.np, x.nq, x.np, x.c⟩ 6)) := by
  have h3 : w.cell? ⟨g, 3, none⟩ = some (.int .i64 x.st) := K.cell 3 (by omega)
  have z3 : w.frozen? ⟨g, 3, none⟩ = false := K.fz 3
  have h4 : w.cell? ⟨g, 4, none⟩ = some (.int .i64 x.q) := K.cell 4 (by omega)
  have z4 : w.frozen? ⟨g, 4, none⟩ = false := K.fz 4
  have h5 : w.cell? ⟨g, 5, none⟩ = some (.int .i64 x.p) := K.cell 5 (by omega)
  have z5 : w.frozen? ⟨g, 5, none⟩ = false := K.fz 5
  have h6 : w.cell? ⟨g, 6, none⟩ = some (.int .i64 x.nq) := K.cell 6 (by omega)
  have z6 : w.frozen? ⟨g, 6, none⟩ = false := K.fz 6
  have h7 : w.cell? ⟨g, 7, none⟩ = some (.int .i64 x.np) := K.cell 7 (by omega)
  have z7 : w.frozen? ⟨g, 7, none⟩ = false := K.fz 7
  have h8 : w.cell? ⟨g, 8, none⟩ = some (.int .i64 x.c) := K.cell 8 (by omega)
  have z8 : w.frozen? ⟨g, 8, none⟩ = false := K.fz 8
  have N1 := next_on x.st 3 x.c w
  rw [hE] at N1
  have C : ∀ W, Hid (Rf w W g (wZ ⟨x.id, x.ve, x.sd, x.st, x.nq, x.np, x.nq, x.np, x.c⟩ 6) m) → Calls Try.prog 39 #[.pointer (some ⟨g, 0, none⟩)] W fun e w' => e = .returned (.tuple #[]) ∧ Rf w w' g (rkC (wZ ⟨x.id, x.ve, x.sd, x.st, x.nq, x.np, x.nq, x.np, x.c⟩ 6)) (rkM (wZ ⟨x.id, x.ve, x.sd, x.st, x.nq, x.np, x.nq, x.np, x.c⟩ 6)) := fun W R => rk_on R.out b
  have R0 : Hid (∀ n, Rf w _ g (wZ ⟨x.id, x.ve, x.sd, x.st, x.nq, x.np, x.nq, x.np, x.c⟩ (nS x.st 3 x.c)) m) := fun n => (((((K.go.draw n).s_st (nS x.st 3 x.c)).s_q x.nq).s_p x.np).s_nq 0).s_np 0
  have FU : Hid (∀ W, Rf w W g (wZ ⟨x.id, x.ve, x.sd, x.st, x.nq, x.np, x.nq, x.np, x.c⟩ (nS x.st 3 x.c)) m → Rf w (W.setCell ⟨g, 3, none⟩ (.int .i64 6)) g (wZ ⟨x.id, x.ve, x.sd, x.st, x.nq, x.np, x.nq, x.np, x.c⟩ 6) m) := fun W R => R.s_st 6
  have eq1 : Hid ((wZ ⟨x.id, x.ve, x.sd, x.st, x.nq, x.np, x.nq, x.np, x.c⟩ (nS x.st 3 x.c)).st = nS x.st 3 x.c ∧ (wZ ⟨x.id, x.ve, x.sd, x.st, x.nq, x.np, x.nq, x.np, x.c⟩ (nS x.st 3 x.c)).c = x.c) := ⟨rfl, rfl⟩
  have dq : decide ((wZ ⟨x.id, x.ve, x.sd, x.st, x.nq, x.np, x.nq, x.np, x.c⟩ (nS x.st 3 x.c)).q ≤ (wZ ⟨x.id, x.ve, x.sd, x.st, x.nq, x.np, x.nq, x.np, x.c⟩ (nS x.st 3 x.c)).c) = true := decide_eq_true h
  clear K hE b
  obtain ⟨y, hy⟩ : ∃ y, (wZ ⟨x.id, x.ve, x.sd, x.st, x.nq, x.np, x.nq, x.np, x.c⟩ 6) = y := ⟨_, rfl⟩
  obtain ⟨y1, hy1⟩ : ∃ y, (wZ ⟨x.id, x.ve, x.sd, x.st, x.nq, x.np, x.nq, x.np, x.c⟩ (nS x.st 3 x.c)) = y := ⟨_, rfl⟩
  rw [hy] at C FU ⊢
  rw [hy1] at R0 FU eq1 dq
  clear hy hy1
  generalize nS x.st 3 x.c = s at *
  obtain ⟨id, ve, sd, st, q, p, fq, fp, c⟩ := x
  simp only at *
  go_enter Try.func30, Try.ntmps30
  go_wp2_with fail
  go_quiet (first | (go_at_call 38; exact Calls.quiet_of_same (N1 _)))
  go_upto_region 11 with fail
  have R1 : Hid (Rf w ((((((w.drewN nq).setCell ⟨g, 3, none⟩ (.int .i64 s)).setCell ⟨g, 4, none⟩ (.int .i64 fq)).setCell ⟨g, 5, none⟩ (.int .i64 fp)).setCell ⟨g, 6, none⟩ (.int .i64 0)).setCell ⟨g, 7, none⟩ (.int .i64 0)) g y1 m) := R0.out nq
  clear R0 h3 z3 h4 z4 h5 z5 h6 z6 h7 z7 h8 z8 N1
  generalize (((((w.drewN nq).setCell ⟨g, 3, none⟩ (.int .i64 s)).setCell ⟨g, 4, none⟩ (.int .i64 fq)).setCell ⟨g, 5, none⟩ (.int .i64 fp)).setCell ⟨g, 6, none⟩ (.int .i64 0)).setCell ⟨g, 7, none⟩ (.int .i64 0) = w1 at *
  have h3 : w1.cell? ⟨g, 3, none⟩ = some (.int .i64 y1.st) := R1.out.rf.cell 3 (by omega)
  have z3 : w1.frozen? ⟨g, 3, none⟩ = false := R1.out.rf.fz 3
  have h4 : w1.cell? ⟨g, 4, none⟩ = some (.int .i64 y1.q) := R1.out.rf.cell 4 (by omega)
  have h8 : w1.cell? ⟨g, 8, none⟩ = some (.int .i64 y1.c) := R1.out.rf.cell 8 (by omega)
  generalize y1.q = yq at *
  generalize y1.c = yc at *
  generalize y1.st = ys at *
  go_quiet (fail)
  go_wp2_with fail
  refine (C _ (FU.out _ (R1.out.draw _))).mono ?_
  rintro e w2 ⟨rfl, hR⟩
  have R2 : Hid (Rf w w2 g (rkC y) (rkM y)) := hR
  clear hR C FU R1
  go_wp2_with fail
  go_ret
  exact ⟨rfl, R2.out⟩
set_option maxRecDepth 100000 in
set_option maxHeartbeats 8000000 in
theorem eventR_3r {w : World} {g : Nat} {x : Ch} {m : Int} (K : RfAt w g x m) (b : Sml (wZ ⟨x.id, x.ve, x.sd, x.st, x.nq, x.np, x.nq, x.np, x.c⟩ (nS x.st 3 x.c))) (h : ¬ x.nq ≤ x.c) (hE : nE x.st 3 x.c = 0) : Calls Try.prog 30 #[.pointer (some ⟨g, 0, none⟩), .int .i64 3] w fun e w' => e = .returned (.int .i64 0) ∧ Rf w w' g (rkC (wZ ⟨x.id, x.ve, x.sd, x.st, x.nq, x.np, x.nq, x.np, x.c⟩ (nS x.st 3 x.c))) (rkM (wZ ⟨x.id, x.ve, x.sd, x.st, x.nq, x.np, x.nq, x.np, x.c⟩ (nS x.st 3 x.c))) := by
  have h3 : w.cell? ⟨g, 3, none⟩ = some (.int .i64 x.st) := K.cell 3 (by omega)
  have z3 : w.frozen? ⟨g, 3, none⟩ = false := K.fz 3
  have h4 : w.cell? ⟨g, 4, none⟩ = some (.int .i64 x.q) := K.cell 4 (by omega)
  have z4 : w.frozen? ⟨g, 4, none⟩ = false := K.fz 4
  have h5 : w.cell? ⟨g, 5, none⟩ = some (.int .i64 x.p) := K.cell 5 (by omega)
  have z5 : w.frozen? ⟨g, 5, none⟩ = false := K.fz 5
  have h6 : w.cell? ⟨g, 6, none⟩ = some (.int .i64 x.nq) := K.cell 6 (by omega)
  have z6 : w.frozen? ⟨g, 6, none⟩ = false := K.fz 6
  have h7 : w.cell? ⟨g, 7, none⟩ = some (.int .i64 x.np) := K.cell 7 (by omega)
  have z7 : w.frozen? ⟨g, 7, none⟩ = false := K.fz 7
  have h8 : w.cell? ⟨g, 8, none⟩ = some (.int .i64 x.c) := K.cell 8 (by omega)
  have z8 : w.frozen? ⟨g, 8, none⟩ = false := K.fz 8
  have N1 := next_on x.st 3 x.c w
  rw [hE] at N1
  have C : ∀ W, Hid (Rf w W g (wZ ⟨x.id, x.ve, x.sd, x.st, x.nq, x.np, x.nq, x.np, x.c⟩ (nS x.st 3 x.c)) m) → Calls Try.prog 39 #[.pointer (some ⟨g, 0, none⟩)] W fun e w' => e = .returned (.tuple #[]) ∧ Rf w w' g (rkC (wZ ⟨x.id, x.ve, x.sd, x.st, x.nq, x.np, x.nq, x.np, x.c⟩ (nS x.st 3 x.c))) (rkM (wZ ⟨x.id, x.ve, x.sd, x.st, x.nq, x.np, x.nq, x.np, x.c⟩ (nS x.st 3 x.c))) := fun W R => rk_on R.out b
  have R0 : Hid (∀ n, Rf w _ g (wZ ⟨x.id, x.ve, x.sd, x.st, x.nq, x.np, x.nq, x.np, x.c⟩ (nS x.st 3 x.c)) m) := fun n => (((((K.go.draw n).s_st (nS x.st 3 x.c)).s_q x.nq).s_p x.np).s_nq 0).s_np 0
  have FU : Hid (∀ W, Rf w W g (wZ ⟨x.id, x.ve, x.sd, x.st, x.nq, x.np, x.nq, x.np, x.c⟩ (nS x.st 3 x.c)) m → Rf w (W) g (wZ ⟨x.id, x.ve, x.sd, x.st, x.nq, x.np, x.nq, x.np, x.c⟩ (nS x.st 3 x.c)) m) := fun W R => R
  have eq1 : Hid ((wZ ⟨x.id, x.ve, x.sd, x.st, x.nq, x.np, x.nq, x.np, x.c⟩ (nS x.st 3 x.c)).st = nS x.st 3 x.c ∧ (wZ ⟨x.id, x.ve, x.sd, x.st, x.nq, x.np, x.nq, x.np, x.c⟩ (nS x.st 3 x.c)).c = x.c) := ⟨rfl, rfl⟩
  have dq : decide ((wZ ⟨x.id, x.ve, x.sd, x.st, x.nq, x.np, x.nq, x.np, x.c⟩ (nS x.st 3 x.c)).q ≤ (wZ ⟨x.id, x.ve, x.sd, x.st, x.nq, x.np, x.nq, x.np, x.c⟩ (nS x.st 3 x.c)).c) = false := decide_eq_false h
  clear K hE b
  obtain ⟨y, hy⟩ : ∃ y, (wZ ⟨x.id, x.ve, x.sd, x.st, x.nq, x.np, x.nq, x.np, x.c⟩ (nS x.st 3 x.c)) = y := ⟨_, rfl⟩
  rw [hy] at C FU R0 eq1 dq ⊢
  clear hy
  generalize nS x.st 3 x.c = s at *
  obtain ⟨id, ve, sd, st, q, p, fq, fp, c⟩ := x
  simp only at *
  go_enter Try.func30, Try.ntmps30
  go_wp2_with fail
  go_quiet (first | (go_at_call 38; exact Calls.quiet_of_same (N1 _)))
  go_upto_region 11 with fail
  have R1 : Hid (Rf w ((((((w.drewN nq).setCell ⟨g, 3, none⟩ (.int .i64 s)).setCell ⟨g, 4, none⟩ (.int .i64 fq)).setCell ⟨g, 5, none⟩ (.int .i64 fp)).setCell ⟨g, 6, none⟩ (.int .i64 0)).setCell ⟨g, 7, none⟩ (.int .i64 0)) g y m) := R0.out nq
  clear R0 h3 z3 h4 z4 h5 z5 h6 z6 h7 z7 h8 z8 N1
  generalize (((((w.drewN nq).setCell ⟨g, 3, none⟩ (.int .i64 s)).setCell ⟨g, 4, none⟩ (.int .i64 fq)).setCell ⟨g, 5, none⟩ (.int .i64 fp)).setCell ⟨g, 6, none⟩ (.int .i64 0)).setCell ⟨g, 7, none⟩ (.int .i64 0) = w1 at *
  have h3 : w1.cell? ⟨g, 3, none⟩ = some (.int .i64 y.st) := R1.out.rf.cell 3 (by omega)
  have z3 : w1.frozen? ⟨g, 3, none⟩ = false := R1.out.rf.fz 3
  have h4 : w1.cell? ⟨g, 4, none⟩ = some (.int .i64 y.q) := R1.out.rf.cell 4 (by omega)
  have h8 : w1.cell? ⟨g, 8, none⟩ = some (.int .i64 y.c) := R1.out.rf.cell 8 (by omega)
  generalize y.q = yq at *
  generalize y.c = yc at *
  generalize y.st = ys at *
  go_quiet (fail)
  go_wp2_with fail
  refine (C _ (FU.out _ (R1.out.draw _))).mono ?_
  rintro e w2 ⟨rfl, hR⟩
  have R2 : Hid (Rf w w2 g (rkC y) (rkM y)) := hR
  clear hR C FU R1
  go_wp2_with fail
  go_ret
  exact ⟨rfl, R2.out⟩
theorem sml_of {y : Ch} (h : (-8796093022208 ≤ y.q - y.c ∧ y.q - y.c ≤ 8796093022208) ∧ (-8796093022208 ≤ y.nq - y.c ∧ y.nq - y.c ≤ 8796093022208)) : Sml y := ⟨by omega, by omega⟩
theorem eventR_any {w : World} {g : Nat} {x : Ch} (K : RfAt w g x (clm x)) (G : Good x) {v : Int} (hv : evK v = true) : Calls Try.prog 30 #[.pointer (some ⟨g, 0, none⟩), .int .i64 v] w fun e w' => e = .returned (.int .i64 (hpE x v 0 0)) ∧ Rf w w' g (hpC x v 0 0) (clm (hpC x v 0 0)) := by
  have hc : (bhd x v 0 0).c = x.c := by
    by_cases e : v = 3
    · subst e; rw [bhd_3]
    · rw [bhd_ev (by have := ev_cases hv; omega)]
  have hEv : hpE x v 0 0 = nE x.st v x.c := by unfold hpE; rw [hc]
  have hs := G.small
  by_cases e : hpE x v 0 0 = 0
  · have e' := e
    rw [hEv] at e'
    rw [e]
    by_cases h3 : v = 3
    · subst h3
      have r := ev_3 G e
      rw [bhd_3] at r
      by_cases h : x.nq ≤ x.c
      · rw [show sta (⟨x.id, x.ve, x.sd, x.st, x.nq, x.np, x.nq, x.np, x.c⟩ : Ch) (nS x.st 3 x.c) 3 = 6 from sta_full (by omega) h] at r
        rw [← r.2, ← r.1]
        exact eventR_3f K (sml_of (by simp only [wZ]; omega)) h e'
      · rw [show sta (⟨x.id, x.ve, x.sd, x.st, x.nq, x.np, x.nq, x.np, x.c⟩ : Ch) (nS x.st 3 x.c) 3 = nS x.st 3 x.c from sta_rest h] at r
        rw [← r.2, ← r.1]
        exact eventR_3r K (sml_of (by simp only [wZ]; omega)) h e'
    by_cases h8 : v = 8
    · subst h8
      have r := ev_8 G e
      by_cases h : x.q ≤ x.c
      · rw [show sta x (nS x.st 8 x.c) 8 = 6 from sta_full (by omega) h] at r
        rw [← r.2, ← r.1]
        exact eventR_8f K (sml_of (by simp only [wZ]; omega)) h e'
      · rw [show sta x (nS x.st 8 x.c) 8 = nS x.st 8 x.c from sta_rest h] at r
        rw [← r.2, ← r.1]
        exact eventR_8r K (sml_of (by simp only [wZ]; omega)) h e'
    · have r := ev_plain G (by have := ev_cases hv; omega) e
      rw [← r.2, ← r.1]
      exact eventR_plain K v h3 h8 (sml_of (by omega)) e'
  · rw [hp_200 G (.inl hv) e, hpC_no e]
    rw [hEv] at e
    exact eventR_no K v e
set_option maxRecDepth 100000 in
set_option maxHeartbeats 8000000 in
theorem replaceR_bad {w : World} {g : Nat} {x : Ch} {m : Int} (K : RfAt w g x m) (a b : Int) (h : ¬ rpB x a b = true) : Calls Try.prog 33 #[.pointer (some ⟨g, 0, none⟩), .int .i64 a, .int .i64 b] w fun e w' => e = .returned (.int .i64 2) ∧ Rf w w' g x m := by
  have h8 : w.cell? ⟨g, 8, none⟩ = some (.int .i64 x.c) := K.cell 8 (by omega)
  have U := inR_any b 1 1099511627776 w
  rw [show (decide (1 ≤ b) && decide (b ≤ 1099511627776)) = upB b 1099511627776 from rfl] at U
  have HR : Hid (Rf w w g x m) := K.go
  have h : ¬ ((x.c < a ∧ a ≤ 1099511627776) ∧ 1 ≤ b ∧ b ≤ 1099511627776) := fun e => h ((rp_iff x a b).2 e)
  by_cases t1 : a ≤ x.c
  · clear h K U
    go_enter Try.func33, Try.ntmps33
    go_wp2_with fail
    go_ret
    exact ⟨rfl, HR.out⟩
  by_cases t2 : 1099511627776 < a
  · clear h K U
    go_enter Try.func33, Try.ntmps33
    go_wp2_with fail
    go_ret
    exact ⟨rfl, HR.out⟩
  · rw [Bool.eq_false_iff.2 (fun e => h ⟨by omega, (up_iff _ _).1 e⟩)] at U
    clear h K
    go_enter Try.func33, Try.ntmps33
    go_wp2_with fail
    refine U.mono ?_
    rintro e w ⟨rfl, rfl⟩
    clear U
    go_wp2_with fail
    go_ret
    exact ⟨rfl, HR.out⟩
set_option maxRecDepth 100000 in
set_option maxHeartbeats 8000000 in
theorem replaceR_no {w : World} {g : Nat} {x : Ch} {m : Int} (K : RfAt w g x m) (a b : Int) (h : rpB x a b = true) (hE : ¬ nE x.st 10 x.c = 0) : Calls Try.prog 33 #[.pointer (some ⟨g, 0, none⟩), .int .i64 a, .int .i64 b] w fun e w' => e = .returned (.int .i64 200) ∧ Rf w w' g x m := by
  have h8 : w.cell? ⟨g, 8, none⟩ = some (.int .i64 x.c) := K.cell 8 (by omega)
  have U := inR_any b 1 1099511627776 w
  rw [show (decide (1 ≤ b) && decide (b ≤ 1099511627776)) = upB b 1099511627776 from rfl] at U
  have h := (rp_iff x a b).1 h
  rw [(up_iff _ _).2 h.2] at U
  have t1 : ¬ a ≤ x.c := by omega
  have t2 : ¬ 1099511627776 < a := by omega
  have F := eventR_no K 10 hE
  clear h hE K
  go_enter Try.func33, Try.ntmps33
  go_wp2_with fail
  refine U.mono ?_
  rintro e w ⟨rfl, rfl⟩
  clear U
  go_wp2_with fail
  refine F.mono ?_
  rintro e w1 ⟨rfl, hR⟩
  have HR : Hid (Rf w w1 g x m) := hR
  clear hR F
  go_wp2_with fail
  go_ret
  exact ⟨rfl, HR.out⟩
theorem replaceR_ok {w : World} {g : Nat} {x : Ch} {m : Int} (K : RfAt w g x m) (a b : Int) (h : rpB x a b = true) (bs : Sml x) (bn : Sml ⟨x.id, x.ve, x.sd, 5, x.q, x.p, a, b, x.c⟩) (hE : nE x.st 10 x.c = 0) (hS : nS x.st 10 x.c = 5) (hk : rkC (wS x 5) = wS x 5) : Calls Try.prog 33 #[.pointer (some ⟨g, 0, none⟩), .int .i64 a, .int .i64 b] w fun e w' => e = .returned (.int .i64 0) ∧ Rf w w' g (rkC ⟨x.id, x.ve, x.sd, 5, x.q, x.p, a, b, x.c⟩) (rkM ⟨x.id, x.ve, x.sd, 5, x.q, x.p, a, b, x.c⟩) := by
  have h8 : w.cell? ⟨g, 8, none⟩ = some (.int .i64 x.c) := K.cell 8 (by omega)
  have U := inR_any b 1 1099511627776 w
  rw [show (decide (1 ≤ b) && decide (b ≤ 1099511627776)) = upB b 1099511627776 from rfl] at U
  have h := (rp_iff x a b).1 h
  rw [(up_iff _ _).2 h.2] at U
  have t1 : ¬ a ≤ x.c := by omega
  have t2 : ¬ 1099511627776 < a := by omega
  have F := eventR_plain K 10 (by omega) (by omega) bs hE
  rw [hS, hk] at F
  generalize rkM (wS x 5) = m1 at *
  have C : ∀ W, Hid (Rf w W g (wS x 5) m1) → Calls Try.prog 39 #[.pointer (some ⟨g, 0, none⟩)] ((W.setCell ⟨g, 6, none⟩ (.int .i64 a)).setCell ⟨g, 7, none⟩ (.int .i64 b)) fun e w' => e = .returned (.tuple #[]) ∧ Rf w w' g (rkC ⟨x.id, x.ve, x.sd, 5, x.q, x.p, a, b, x.c⟩) (rkM ⟨x.id, x.ve, x.sd, 5, x.q, x.p, a, b, x.c⟩) := fun W R => rk_on ((R.out.s_nq a).s_np b) bn
  generalize rkC ⟨x.id, x.ve, x.sd, 5, x.q, x.p, a, b, x.c⟩ = y at *
  generalize rkM ⟨x.id, x.ve, x.sd, 5, x.q, x.p, a, b, x.c⟩ = my at *
  clear h hE hS hk K bs bn
  go_enter Try.func33, Try.ntmps33
  go_wp2_with fail
  refine U.mono ?_
  rintro e w ⟨rfl, rfl⟩
  clear U
  go_wp2_with fail
  refine F.mono ?_
  rintro e w1 ⟨rfl, hR⟩
  have HR : Hid (Rf w w1 g (wS x 5) m1) := hR
  have k6 := hR.rf.cell 6 (by omega)
  have k7 := hR.rf.cell 7 (by omega)
  have f6 := hR.rf.fz 6
  have f7 := hR.rf.fz 7
  have C1 := C w1 HR
  clear hR F C
  go_wp2_with fail
  refine C1.mono ?_
  rintro e w2 ⟨rfl, hR⟩
  have HR2 : Hid (Rf w w2 g y my) := hR
  clear hR C1
  go_wp2_with fail
  go_ret
  exact ⟨rfl, HR2.out⟩
theorem replaceR_any {w : World} {g : Nat} {x : Ch} (K : RfAt w g x (clm x)) (G : Good x) (a b : Int) : Calls Try.prog 33 #[.pointer (some ⟨g, 0, none⟩), .int .i64 a, .int .i64 b] w fun e w' => e = .returned (.int .i64 (rpE x a b)) ∧ Rf w w' g (rpC x a b) (clm (rpC x a b)) := by
  have hs := G.small
  unfold rpE rpC
  by_cases h : rpB x a b = true
  · rw [if_pos h, if_pos h]
    have hb := (rp_iff x a b).1 h
    have hEv : hpE x 10 a b = nE x.st 10 x.c := by unfold hpE; rw [bhd_10]
    by_cases e : hpE x 10 a b = 0
    · obtain ⟨r1, r2, r3, r4⟩ := ev_10 G hb.1 e
      rw [e, ← r4, ← r3]
      rw [hEv] at e
      exact replaceR_ok K a b h (sml_of (by omega)) (sml_of (by simp only; omega)) e r1 r2
    · rw [hp_200 G (.inr (.inr (.inr (.inr ⟨rfl, hb.1⟩)))) e, hpC_no e]
      rw [hEv] at e
      exact replaceR_no K a b h e
  · rw [if_neg h, if_neg h]
    exact replaceR_bad K a b h
end Go.Proofs.Ytkkimkhkoiempaa.CH
