/-
  Contracts of the reference's Trade and Bust: the same answers as the program's, the same child behind them.
-/
import Derived.Test.YtkkimkhkoiempaaChRefMove
namespace Go.Proofs.Ytkkimkhkoiempaa.CH
open Go.ChangeShapes Go.WideShapes Go.ChangeAt Go.RowKit Go.Lib MA

set_option maxRecDepth 100000 in
set_option maxHeartbeats 8000000 in
theorem bustR_bad {w : World} {g : Nat} {x : Ch} {m : Int} (K : RfAt w g x m) (a : Int) (h : ¬ (1 ≤ a ∧ a ≤ x.c)) : Calls Try.prog 32 #[.pointer (some ⟨g, 0, none⟩), .int .i64 a] w fun e w' => e = .returned (.int .i64 2) ∧ Rf w w' g x m := by
  have h8 : w.cell? ⟨g, 8, none⟩ = some (.int .i64 x.c) := K.cell 8 (by omega)
  have U := inR_any a 1 x.c w
  rw [show (decide (1 ≤ a) && decide (a ≤ x.c)) = upB a x.c from rfl, Bool.eq_false_iff.2 (fun e => h ((up_iff _ _).1 e))] at U
  have HR : Hid (Rf w w g x m) := K.go
  clear h K
  go_enter Try.func32, Try.ntmps32
  go_wp2_with fail
  refine U.mono ?_
  rintro e w ⟨rfl, rfl⟩
  clear U
  go_wp2_with fail
  go_ret
  exact ⟨rfl, HR.out⟩
theorem bustR_no {w : World} {g : Nat} {x : Ch} {m : Int} (K : RfAt w g x m) (a : Int) (h : 1 ≤ a ∧ a ≤ x.c) (hb : x.c ≤ 1099511627776) (hE : ¬ nE x.st 7 (x.c - a) = 0) : Calls Try.prog 32 #[.pointer (some ⟨g, 0, none⟩), .int .i64 a] w fun e w' => e = .returned (.int .i64 200) ∧ Rf w w' g x m := by
  have hw8 : IntKind.i64.wrap (x.c - a) = x.c - a := by rw [IntKind.wrap_i64]; omega
  have h3 : w.cell? ⟨g, 3, none⟩ = some (.int .i64 x.st) := K.cell 3 (by omega)
  have z3 : w.frozen? ⟨g, 3, none⟩ = false := K.fz 3
  have h8 : w.cell? ⟨g, 8, none⟩ = some (.int .i64 x.c) := K.cell 8 (by omega)
  have z8 : w.frozen? ⟨g, 8, none⟩ = false := K.fz 8
  have U := inR_any a 1 x.c w
  rw [show (decide (1 ≤ a) && decide (a ≤ x.c)) = upB a x.c from rfl, (up_iff _ _).2 h] at U
  have N1 := next_on x.st 7 (x.c - a) w
  have e1 : (nE x.st 7 (x.c - a) == 0) = false := beq_false_of_ne hE
  have e2 : (nE x.st 7 (x.c - a) != 0) = true := by simp [bne, e1]
  have HR : Hid (∀ n, Rf w (w.drewN n) g x m) := fun n => K.go.draw n
  clear K
  generalize nE x.st 7 (x.c - a) = E at *
  generalize nS x.st 7 (x.c - a) = s at *
  generalize x.st = st at *
  generalize x.c = c at *
  go_enter Try.func32, Try.ntmps32
  go_wp2_with fail
  refine U.mono ?_
  rintro e w ⟨rfl, rfl⟩
  clear U
  go_wp2_with fail
  go_quiet (first | (go_at_call 38; exact Calls.quiet_of_same (N1 _)))
  go_wp2_with fail
  go_ret
  exact ⟨rfl, HR.out _⟩
set_option maxRecDepth 100000 in
set_option maxHeartbeats 8000000 in
theorem bustR_five {w : World} {g : Nat} {x : Ch} {m : Int} (K : RfAt w g x m) (a : Int) (h : 1 ≤ a ∧ a ≤ x.c) (hs : (0 ≤ x.c ∧ x.c ≤ 1099511627776) ∧ (-1099511627776 ≤ x.q ∧ x.q ≤ 1099511627776) ∧ (-1099511627776 ≤ x.nq ∧ x.nq ≤ 1099511627776)) (hE : nE x.st 7 (x.c - a) = 0) (h5 :  nS x.st 7 (x.c - a) = 5) : Calls Try.prog 32 #[.pointer (some ⟨g, 0, none⟩), .int .i64 a] w fun e w' => e = .returned (.int .i64 0) ∧ Rf w w' g (rkC ⟨x.id, x.ve, x.sd, nS x.st 7 (x.c - a), x.q - a, x.p, x.nq - a, x.np, x.c - a⟩) (rkM ⟨x.id, x.ve, x.sd, nS x.st 7 (x.c - a), x.q - a, x.p, x.nq - a, x.np, x.c - a⟩) := by
  have hw8 : IntKind.i64.wrap (x.c - a) = x.c - a := by rw [IntKind.wrap_i64]; omega
  have hw4 : IntKind.i64.wrap (x.q - a) = x.q - a := by rw [IntKind.wrap_i64]; omega
  have hw6 : IntKind.i64.wrap (x.nq - a) = x.nq - a := by rw [IntKind.wrap_i64]; omega
  have h3 : w.cell? ⟨g, 3, none⟩ = some (.int .i64 x.st) := K.cell 3 (by omega)
  have z3 : w.frozen? ⟨g, 3, none⟩ = false := K.fz 3
  have h4 : w.cell? ⟨g, 4, none⟩ = some (.int .i64 x.q) := K.cell 4 (by omega)
  have z4 : w.frozen? ⟨g, 4, none⟩ = false := K.fz 4
  have h6 : w.cell? ⟨g, 6, none⟩ = some (.int .i64 x.nq) := K.cell 6 (by omega)
  have z6 : w.frozen? ⟨g, 6, none⟩ = false := K.fz 6
  have h8 : w.cell? ⟨g, 8, none⟩ = some (.int .i64 x.c) := K.cell 8 (by omega)
  have z8 : w.frozen? ⟨g, 8, none⟩ = false := K.fz 8
  have U := inR_any a 1 x.c w
  rw [show (decide (1 ≤ a) && decide (a ≤ x.c)) = upB a x.c from rfl, (up_iff _ _).2 h] at U
  have N1 := next_on x.st 7 (x.c - a) w
  rw [hE] at N1
  have C : ∀ W, Hid (Rf w W g ⟨x.id, x.ve, x.sd, nS x.st 7 (x.c - a), x.q - a, x.p, x.nq - a, x.np, x.c - a⟩ m) → Calls Try.prog 39 #[.pointer (some ⟨g, 0, none⟩)] W fun e w' => e = .returned (.tuple #[]) ∧ Rf w w' g (rkC ⟨x.id, x.ve, x.sd, nS x.st 7 (x.c - a), x.q - a, x.p, x.nq - a, x.np, x.c - a⟩) (rkM ⟨x.id, x.ve, x.sd, nS x.st 7 (x.c - a), x.q - a, x.p, x.nq - a, x.np, x.c - a⟩) := fun W R => rk_on R.out (sml_of (by simp only; omega))
  have R0 : Hid (∀ n, Rf w _ g ⟨x.id, x.ve, x.sd, nS x.st 7 (x.c - a), x.q - a, x.p, x.nq - a, x.np, x.c - a⟩ m) := fun n => ((((K.go.draw n).s_st (nS x.st 7 (x.c - a))).s_c (x.c - a)).s_q (x.q - a)).s_nq (x.nq - a)
  clear K hE
  obtain ⟨y, hy⟩ : ∃ y, (⟨x.id, x.ve, x.sd, nS x.st 7 (x.c - a), x.q - a, x.p, x.nq - a, x.np, x.c - a⟩ : Ch) = y := ⟨_, rfl⟩
  rw [hy] at C R0 ⊢
  clear hy
  rw [h5] at N1 R0
  obtain ⟨id, ve, sd, st, q, p, fq, fp, c⟩ := x
  simp only at *
  go_enter Try.func32, Try.ntmps32
  go_wp2_with fail
  refine U.mono ?_
  rintro e w ⟨rfl, rfl⟩
  clear U
  go_wp2_with fail
  go_quiet (first | (go_at_call 38; exact Calls.quiet_of_same (N1 _)))
  have R1 : Hid (Rf w (((((w.drewN nq).setCell ⟨g, 3, none⟩ (.int .i64 5)).setCell ⟨g, 8, none⟩ (.int .i64 (c - a))).setCell ⟨g, 4, none⟩ (.int .i64 (q - a))).setCell ⟨g, 6, none⟩ (.int .i64 (fq - a))) g y m) := R0.out nq
  have C1 := C _ R1
  clear R0 C
  go_wp2_with fail
  refine C1.mono ?_
  rintro e w2 ⟨rfl, hR⟩
  have R2 : Hid (Rf w w2 g (rkC y) (rkM y)) := hR
  clear hR C1 R1
  go_wp2_with fail
  go_ret
  exact ⟨rfl, R2.out⟩
set_option maxRecDepth 100000 in
set_option maxHeartbeats 8000000 in
theorem bustR_rest {w : World} {g : Nat} {x : Ch} {m : Int} (K : RfAt w g x m) (a : Int) (h : 1 ≤ a ∧ a ≤ x.c) (hs : (0 ≤ x.c ∧ x.c ≤ 1099511627776) ∧ (-1099511627776 ≤ x.q ∧ x.q ≤ 1099511627776) ∧ (-1099511627776 ≤ x.nq ∧ x.nq ≤ 1099511627776)) (hE : nE x.st 7 (x.c - a) = 0) (h5 : ¬ nS x.st 7 (x.c - a) = 5) : Calls Try.prog 32 #[.pointer (some ⟨g, 0, none⟩), .int .i64 a] w fun e w' => e = .returned (.int .i64 0) ∧ Rf w w' g (rkC ⟨x.id, x.ve, x.sd, nS x.st 7 (x.c - a), x.q - a, x.p, x.nq, x.np, x.c - a⟩) (rkM ⟨x.id, x.ve, x.sd, nS x.st 7 (x.c - a), x.q - a, x.p, x.nq, x.np, x.c - a⟩) := by
  have hw8 : IntKind.i64.wrap (x.c - a) = x.c - a := by rw [IntKind.wrap_i64]; omega
  have hw4 : IntKind.i64.wrap (x.q - a) = x.q - a := by rw [IntKind.wrap_i64]; omega
  have hw6 : IntKind.i64.wrap (x.nq - a) = x.nq - a := by rw [IntKind.wrap_i64]; omega
  have h3 : w.cell? ⟨g, 3, none⟩ = some (.int .i64 x.st) := K.cell 3 (by omega)
  have z3 : w.frozen? ⟨g, 3, none⟩ = false := K.fz 3
  have h4 : w.cell? ⟨g, 4, none⟩ = some (.int .i64 x.q) := K.cell 4 (by omega)
  have z4 : w.frozen? ⟨g, 4, none⟩ = false := K.fz 4
  have h6 : w.cell? ⟨g, 6, none⟩ = some (.int .i64 x.nq) := K.cell 6 (by omega)
  have z6 : w.frozen? ⟨g, 6, none⟩ = false := K.fz 6
  have h8 : w.cell? ⟨g, 8, none⟩ = some (.int .i64 x.c) := K.cell 8 (by omega)
  have z8 : w.frozen? ⟨g, 8, none⟩ = false := K.fz 8
  have U := inR_any a 1 x.c w
  rw [show (decide (1 ≤ a) && decide (a ≤ x.c)) = upB a x.c from rfl, (up_iff _ _).2 h] at U
  have N1 := next_on x.st 7 (x.c - a) w
  rw [hE] at N1
  have C : ∀ W, Hid (Rf w W g ⟨x.id, x.ve, x.sd, nS x.st 7 (x.c - a), x.q - a, x.p, x.nq, x.np, x.c - a⟩ m) → Calls Try.prog 39 #[.pointer (some ⟨g, 0, none⟩)] W fun e w' => e = .returned (.tuple #[]) ∧ Rf w w' g (rkC ⟨x.id, x.ve, x.sd, nS x.st 7 (x.c - a), x.q - a, x.p, x.nq, x.np, x.c - a⟩) (rkM ⟨x.id, x.ve, x.sd, nS x.st 7 (x.c - a), x.q - a, x.p, x.nq, x.np, x.c - a⟩) := fun W R => rk_on R.out (sml_of (by simp only; omega))
  have R0 : Hid (∀ n, Rf w _ g ⟨x.id, x.ve, x.sd, nS x.st 7 (x.c - a), x.q - a, x.p, x.nq, x.np, x.c - a⟩ m) := fun n => ((((K.go.draw n).s_st (nS x.st 7 (x.c - a))).s_c (x.c - a)).s_q (x.q - a))
  clear K hE
  obtain ⟨y, hy⟩ : ∃ y, (⟨x.id, x.ve, x.sd, nS x.st 7 (x.c - a), x.q - a, x.p, x.nq, x.np, x.c - a⟩ : Ch) = y := ⟨_, rfl⟩
  rw [hy] at C R0 ⊢
  clear hy
  have k5 : (nS x.st 7 (x.c - a) == 5) = false := beq_false_of_ne h5
  generalize nS x.st 7 (x.c - a) = s at *
  obtain ⟨id, ve, sd, st, q, p, fq, fp, c⟩ := x
  simp only at *
  go_enter Try.func32, Try.ntmps32
  go_wp2_with fail
  refine U.mono ?_
  rintro e w ⟨rfl, rfl⟩
  clear U
  go_wp2_with fail
  go_quiet (first | (go_at_call 38; exact Calls.quiet_of_same (N1 _)))
  have R1 : Hid (Rf w ((((w.drewN nq).setCell ⟨g, 3, none⟩ (.int .i64 s)).setCell ⟨g, 8, none⟩ (.int .i64 (c - a))).setCell ⟨g, 4, none⟩ (.int .i64 (q - a))) g y m) := R0.out nq
  have C1 := C _ R1
  clear R0 C
  go_wp2_with fail
  refine C1.mono ?_
  rintro e w2 ⟨rfl, hR⟩
  have R2 : Hid (Rf w w2 g (rkC y) (rkM y)) := hR
  clear hR C1 R1
  go_wp2_with fail
  go_ret
  exact ⟨rfl, R2.out⟩
theorem bustR_any {w : World} {g : Nat} {x : Ch} (K : RfAt w g x (clm x)) (G : Good x) (a : Int) : Calls Try.prog 32 #[.pointer (some ⟨g, 0, none⟩), .int .i64 a] w fun e w' => e = .returned (.int .i64 (buE x a)) ∧ Rf w w' g (buC x a) (clm (buC x a)) := by
  unfold buE buC
  by_cases h : 1 ≤ a ∧ a ≤ x.c
  · rw [if_pos h, if_pos h]
    have hEv : hpE x 7 a 0 = nE x.st 7 (x.c - a) := by unfold hpE; rw [bhd_7]
    by_cases e : hpE x 7 a 0 = 0
    · have r := bu_ref G h e _ rfl
      rw [e, ← r.2, ← r.1]
      rw [hEv] at e
      by_cases h5 : nS x.st 7 (x.c - a) = 5
      · rw [if_pos h5]
        exact bustR_five K a h G.small e h5
      · rw [if_neg h5]
        exact bustR_rest K a h G.small e h5
    · rw [hp_200 G (.inr (.inr (.inr (.inl ⟨rfl, h⟩)))) e, hpC_no e]
      rw [hEv] at e
      exact bustR_no K a h G.c.2 e
  · rw [if_neg h, if_neg h]
    exact bustR_bad K a h
set_option maxRecDepth 100000 in
set_option maxHeartbeats 8000000 in
theorem tradeR_5 {w : World} {g : Nat} {x : Ch} {m a : Int} (K : RfAt w g x m) (a1 : ¬ a < 1) (a2 : ¬ m < a) (a3 : (a == m) = false) (ho : opB x.st = true) (hs : (0 ≤ x.c ∧ x.c ≤ 1099511627776) ∧ (-1099511627776 ≤ x.q ∧ x.q ≤ 1099511627776) ∧ (-1099511627776 ≤ x.nq ∧ x.nq ≤ 1099511627776)) (ha : a ≤ 2199023255552) : Calls Try.prog 31 #[.pointer (some ⟨g, 0, none⟩), .int .i64 a] w fun e w' => e = .returned (.int .i64 0) ∧ Rf w w' g (rkC ⟨x.id, x.ve, x.sd, nS x.st 5 (x.c + a), x.q, x.p, x.nq, x.np, x.c + a⟩) (rkM ⟨x.id, x.ve, x.sd, nS x.st 5 (x.c + a), x.q, x.p, x.nq, x.np, x.c + a⟩) := by
  have hw8 : IntKind.i64.wrap (x.c + a) = x.c + a := by rw [IntKind.wrap_i64]; omega
  have h3 : w.cell? ⟨g, 3, none⟩ = some (.int .i64 x.st) := K.cell 3 (by omega)
  have z3 : w.frozen? ⟨g, 3, none⟩ = false := K.fz 3
  have h8 : w.cell? ⟨g, 8, none⟩ = some (.int .i64 x.c) := K.cell 8 (by omega)
  have z8 : w.frozen? ⟨g, 8, none⟩ = false := K.fz 8
  have h9 : w.cell? ⟨g, 9, none⟩ = some (.int .i64 m) := K.cell 9 (by omega)
  have z9 : w.frozen? ⟨g, 9, none⟩ = false := K.fz 9
  have O := refOpen_any x.st w
  rw [ho] at O
  have R0 : Hid (Rf w (w.setCell ⟨g, 8, none⟩ (.int .i64 (x.c + a))) g ⟨x.id, x.ve, x.sd, x.st, x.q, x.p, x.nq, x.np, x.c + a⟩ m) := K.go.s_c _
  have FU : Hid (∀ W, Rf w W g ⟨x.id, x.ve, x.sd, x.st, x.q, x.p, x.nq, x.np, x.c + a⟩ m → Rf w (W.setCell ⟨g, 3, none⟩ (.int .i64 (nS x.st 5 (x.c + a)))) g ⟨x.id, x.ve, x.sd, nS x.st 5 (x.c + a), x.q, x.p, x.nq, x.np, x.c + a⟩ m) := fun W R => R.s_st _
  have C : ∀ W, Hid (Rf w W g ⟨x.id, x.ve, x.sd, nS x.st 5 (x.c + a), x.q, x.p, x.nq, x.np, x.c + a⟩ m) → Calls Try.prog 39 #[.pointer (some ⟨g, 0, none⟩)] W fun e w' => e = .returned (.tuple #[]) ∧ Rf w w' g (rkC ⟨x.id, x.ve, x.sd, nS x.st 5 (x.c + a), x.q, x.p, x.nq, x.np, x.c + a⟩) (rkM ⟨x.id, x.ve, x.sd, nS x.st 5 (x.c + a), x.q, x.p, x.nq, x.np, x.c + a⟩) := fun W R => rk_on R.out (sml_of (by simp only; omega))
  have N0 := fun W => next_on x.st 5 (x.c + a) W
  have HX : Hid ((⟨x.id, x.ve, x.sd, x.st, x.q, x.p, x.nq, x.np, x.c + a⟩ : Ch).st = x.st ∧ (⟨x.id, x.ve, x.sd, x.st, x.q, x.p, x.nq, x.np, x.c + a⟩ : Ch).c = x.c + a) := ⟨rfl, rfl⟩
  clear K ho
  obtain ⟨y, hy⟩ : ∃ y, (⟨x.id, x.ve, x.sd, nS x.st 5 (x.c + a), x.q, x.p, x.nq, x.np, x.c + a⟩ : Ch) = y := ⟨_, rfl⟩
  obtain ⟨x1, hx1⟩ : ∃ y, (⟨x.id, x.ve, x.sd, x.st, x.q, x.p, x.nq, x.np, x.c + a⟩ : Ch) = y := ⟨_, rfl⟩
  rw [hy] at C FU ⊢
  rw [hx1] at R0 FU HX
  clear hy hx1
  generalize nS x.st 5 (x.c + a) = s at *
  generalize nE x.st 5 (x.c + a) = E at *
  generalize x.st = st at *
  generalize x.c = c at *
  go_enter Try.func31, Try.ntmps31
  go_wp2_with fail
  refine O.mono ?_
  rintro e w ⟨rfl, rfl⟩
  clear O
  go_upto_region 11 with fail
  clear h3 z3 h8 z8 h9 z9
  generalize w.setCell ⟨g, 8, none⟩ (.int .i64 (c + a)) = w1 at *
  have h3 : w1.cell? ⟨g, 3, none⟩ = some (.int .i64 st) := by have := R0.out.rf.cell 3 (by omega); rw [← HX.out.1]; exact this
  have z3 : w1.frozen? ⟨g, 3, none⟩ = false := R0.out.rf.fz 3
  have h8 : w1.cell? ⟨g, 8, none⟩ = some (.int .i64 (c + a)) := by have := R0.out.rf.cell 8 (by omega); rw [← HX.out.2]; exact this
  have N1 := N0 w1
  have R3 : Hid (∀ n, Rf w ((w1.drewN n).setCell ⟨g, 3, none⟩ (.int .i64 s)) g y m) := fun n => FU.out _ (R0.out.draw n)
  have R4 : Hid (∀ n, Rf w ((w1.setCell ⟨g, 3, none⟩ (.int .i64 s)).drewN n) g y m) := fun n => (FU.out _ R0.out).draw n
  clear N0 FU R0 HX hw8
  go_region_with (first | (go_at_call 38; refine (N1 _).mono ?_; rintro e w2 ⟨rfl, rfl⟩))
  all_goals
    go_wp2_with fail
    refine (C _ (by first | exact R3.out _ | exact R4.out _)).mono ?_
    rintro e w2 ⟨rfl, hR⟩
    have R2 : Hid (Rf w w2 g (rkC y) (rkM y)) := hR
    clear hR C R3 R4
    go_wp2_with fail
    go_ret
    exact ⟨rfl, R2.out⟩
set_option maxRecDepth 100000 in
set_option maxHeartbeats 8000000 in
theorem tradeR_6 {w : World} {g : Nat} {x : Ch} {a : Int} (K : RfAt w g x a) (a1 : ¬ a < 1) (ho : opB x.st = true) (hs : (0 ≤ x.c ∧ x.c ≤ 1099511627776) ∧ (-1099511627776 ≤ x.q ∧ x.q ≤ 1099511627776) ∧ (-1099511627776 ≤ x.nq ∧ x.nq ≤ 1099511627776)) (ha : a ≤ 2199023255552) : Calls Try.prog 31 #[.pointer (some ⟨g, 0, none⟩), .int .i64 a] w fun e w' => e = .returned (.int .i64 0) ∧ Rf w w' g (rkC ⟨x.id, x.ve, x.sd, nS x.st 6 (x.c + a), x.q, x.p, x.nq, x.np, x.c + a⟩) (rkM ⟨x.id, x.ve, x.sd, nS x.st 6 (x.c + a), x.q, x.p, x.nq, x.np, x.c + a⟩) := by
  have hw8 : IntKind.i64.wrap (x.c + a) = x.c + a := by rw [IntKind.wrap_i64]; omega
  have h3 : w.cell? ⟨g, 3, none⟩ = some (.int .i64 x.st) := K.cell 3 (by omega)
  have z3 : w.frozen? ⟨g, 3, none⟩ = false := K.fz 3
  have h8 : w.cell? ⟨g, 8, none⟩ = some (.int .i64 x.c) := K.cell 8 (by omega)
  have z8 : w.frozen? ⟨g, 8, none⟩ = false := K.fz 8
  have h9 : w.cell? ⟨g, 9, none⟩ = some (.int .i64 a) := K.cell 9 (by omega)
  have z9 : w.frozen? ⟨g, 9, none⟩ = false := K.fz 9
  have O := refOpen_any x.st w
  rw [ho] at O
  have R0 : Hid (Rf w (w.setCell ⟨g, 8, none⟩ (.int .i64 (x.c + a))) g ⟨x.id, x.ve, x.sd, x.st, x.q, x.p, x.nq, x.np, x.c + a⟩ a) := K.go.s_c _
  have FU : Hid (∀ W, Rf w W g ⟨x.id, x.ve, x.sd, x.st, x.q, x.p, x.nq, x.np, x.c + a⟩ a → Rf w (W.setCell ⟨g, 3, none⟩ (.int .i64 (nS x.st 6 (x.c + a)))) g ⟨x.id, x.ve, x.sd, nS x.st 6 (x.c + a), x.q, x.p, x.nq, x.np, x.c + a⟩ a) := fun W R => R.s_st _
  have C : ∀ W, Hid (Rf w W g ⟨x.id, x.ve, x.sd, nS x.st 6 (x.c + a), x.q, x.p, x.nq, x.np, x.c + a⟩ a) → Calls Try.prog 39 #[.pointer (some ⟨g, 0, none⟩)] W fun e w' => e = .returned (.tuple #[]) ∧ Rf w w' g (rkC ⟨x.id, x.ve, x.sd, nS x.st 6 (x.c + a), x.q, x.p, x.nq, x.np, x.c + a⟩) (rkM ⟨x.id, x.ve, x.sd, nS x.st 6 (x.c + a), x.q, x.p, x.nq, x.np, x.c + a⟩) := fun W R => rk_on R.out (sml_of (by simp only; omega))
  have N0 := fun W => next_on x.st 6 (x.c + a) W
  have HX : Hid ((⟨x.id, x.ve, x.sd, x.st, x.q, x.p, x.nq, x.np, x.c + a⟩ : Ch).st = x.st ∧ (⟨x.id, x.ve, x.sd, x.st, x.q, x.p, x.nq, x.np, x.c + a⟩ : Ch).c = x.c + a) := ⟨rfl, rfl⟩
  clear K ho
  obtain ⟨y, hy⟩ : ∃ y, (⟨x.id, x.ve, x.sd, nS x.st 6 (x.c + a), x.q, x.p, x.nq, x.np, x.c + a⟩ : Ch) = y := ⟨_, rfl⟩
  obtain ⟨x1, hx1⟩ : ∃ y, (⟨x.id, x.ve, x.sd, x.st, x.q, x.p, x.nq, x.np, x.c + a⟩ : Ch) = y := ⟨_, rfl⟩
  rw [hy] at C FU ⊢
  rw [hx1] at R0 FU HX
  clear hy hx1
  generalize nS x.st 6 (x.c + a) = s at *
  generalize nE x.st 6 (x.c + a) = E at *
  generalize x.st = st at *
  generalize x.c = c at *
  go_enter Try.func31, Try.ntmps31
  go_wp2_with fail
  refine O.mono ?_
  rintro e w ⟨rfl, rfl⟩
  clear O
  go_upto_region 11 with fail
  clear h3 z3 h8 z8 h9 z9
  generalize w.setCell ⟨g, 8, none⟩ (.int .i64 (c + a)) = w1 at *
  have h3 : w1.cell? ⟨g, 3, none⟩ = some (.int .i64 st) := by have := R0.out.rf.cell 3 (by omega); rw [← HX.out.1]; exact this
  have z3 : w1.frozen? ⟨g, 3, none⟩ = false := R0.out.rf.fz 3
  have h8 : w1.cell? ⟨g, 8, none⟩ = some (.int .i64 (c + a)) := by have := R0.out.rf.cell 8 (by omega); rw [← HX.out.2]; exact this
  have N1 := N0 w1
  have R3 : Hid (∀ n, Rf w ((w1.drewN n).setCell ⟨g, 3, none⟩ (.int .i64 s)) g y a) := fun n => FU.out _ (R0.out.draw n)
  have R4 : Hid (∀ n, Rf w ((w1.setCell ⟨g, 3, none⟩ (.int .i64 s)).drewN n) g y a) := fun n => (FU.out _ R0.out).draw n
  clear N0 FU R0 HX hw8
  go_region_with (first | (go_at_call 38; refine (N1 _).mono ?_; rintro e w2 ⟨rfl, rfl⟩))
  all_goals
    go_wp2_with fail
    refine (C _ (by first | exact R3.out _ | exact R4.out _)).mono ?_
    rintro e w2 ⟨rfl, hR⟩
    have R2 : Hid (Rf w w2 g (rkC y) (rkM y)) := hR
    clear hR C R3 R4
    go_wp2_with fail
    go_ret
    exact ⟨rfl, R2.out⟩
set_option maxRecDepth 100000 in
set_option maxHeartbeats 8000000 in
theorem tradeR_arg {w : World} {g : Nat} {x : Ch} {m a : Int} (K : RfAt w g x m) (a1 : a < 1) : Calls Try.prog 31 #[.pointer (some ⟨g, 0, none⟩), .int .i64 a] w fun e w' => e = .returned (.int .i64 2) ∧ Rf w w' g x m := by
  have HR : Hid (Rf w w g x m) := K.go
  clear K
  go_enter Try.func31, Try.ntmps31
  go_wp2_with fail
  go_ret
  exact ⟨rfl, HR.out⟩
theorem tradeR_shut {w : World} {g : Nat} {x : Ch} {m a : Int} (K : RfAt w g x m) (a1 : ¬ a < 1) (ho : opB x.st = false) : Calls Try.prog 31 #[.pointer (some ⟨g, 0, none⟩), .int .i64 a] w fun e w' => e = .returned (.int .i64 200) ∧ Rf w w' g x m := by
  have HR : Hid (Rf w w g x m) := K.go
  have h3 : w.cell? ⟨g, 3, none⟩ = some (.int .i64 x.st) := K.cell 3 (by omega)
  have O := refOpen_any x.st w
  rw [ho] at O
  clear K ho
  go_enter Try.func31, Try.ntmps31
  go_wp2_with fail
  refine O.mono ?_
  rintro e w ⟨rfl, rfl⟩
  clear O
  go_wp2_with fail
  go_ret
  exact ⟨rfl, HR.out⟩
theorem tradeR_big {w : World} {g : Nat} {x : Ch} {m a : Int} (K : RfAt w g x m) (a1 : ¬ a < 1) (ho : opB x.st = true) (a2 : m < a) : Calls Try.prog 31 #[.pointer (some ⟨g, 0, none⟩), .int .i64 a] w fun e w' => e = .returned (.int .i64 3) ∧ Rf w w' g x m := by
  have HR : Hid (Rf w w g x m) := K.go
  have h3 : w.cell? ⟨g, 3, none⟩ = some (.int .i64 x.st) := K.cell 3 (by omega)
  have h9 : w.cell? ⟨g, 9, none⟩ = some (.int .i64 m) := K.cell 9 (by omega)
  have O := refOpen_any x.st w
  rw [ho] at O
  clear K ho
  go_enter Try.func31, Try.ntmps31
  go_wp2_with fail
  refine O.mono ?_
  rintro e w ⟨rfl, rfl⟩
  clear O
  go_wp2_with fail
  go_ret
  exact ⟨rfl, HR.out⟩
theorem tradeR_any {w : World} {g : Nat} {x : Ch} (K : RfAt w g x (clm x)) (G : Good x) (a : Int) : Calls Try.prog 31 #[.pointer (some ⟨g, 0, none⟩), .int .i64 a] w fun e w' => e = .returned (.int .i64 (trE x a)) ∧ Rf w w' g (trC x a) (clm (trC x a)) := by
  unfold trE trC
  by_cases t1 : a < 1
  · rw [if_pos t1, if_pos t1]
    exact tradeR_arg K t1
  rw [if_neg t1, if_neg t1]
  cases ho : opB x.st
  · rw [if_pos rfl, if_pos rfl]
    exact tradeR_shut K t1 ho
  rw [if_neg (show ¬ (true = false) from Bool.noConfusion), if_neg (show ¬ (true = false) from Bool.noConfusion)]
  by_cases t2 : clm x < a
  · rw [if_pos t2, if_pos t2]
    exact tradeR_big K t1 ho t2
  rw [if_neg t2, if_neg t2]
  have r := tr_ref G ho t1 t2 _ rfl
  rw [tr_zero G ho t1 t2, ← r.2, ← r.1]
  have hs := G.small
  have hm : clm x ≤ 2199023255552 := by rw [clm_op ((op_iff G).1 ho) G]; omega
  by_cases t3 : a = clm x
  · have e : trV x a = 6 := if_pos t3
    rw [e]
    rw [← t3] at K
    exact tradeR_6 K t1 ho hs (by omega)
  · have e : trV x a = 5 := if_neg t3
    rw [e]
    exact tradeR_5 K t1 t2 (beq_false_of_ne t3) ho hs (by omega)
end Go.Proofs.Ytkkimkhkoiempaa.CH
