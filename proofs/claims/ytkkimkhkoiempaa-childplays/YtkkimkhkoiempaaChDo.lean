/-
  The statements' do: a step of the program's.
-/
import Derived.Test.YtkkimkhkoiempaaChHap
namespace Go.Proofs.Ytkkimkhkoiempaa.CH
open Go.ChangeShapes Go.WideShapes Go.ChangeAt Go.RowKit Go.Lib MA

theorem do_ev {x : Ch} {k a b : Int} (h : evK k = true) : doE x k a b = hpE x k 0 0 ∧ doC x k a b = hpC x k 0 0 := ⟨if_pos h, if_pos h⟩
theorem do_5 {x : Ch} {a b : Int} : doE x 5 a b = trE x a ∧ doC x 5 a b = trC x a := ⟨rfl, rfl⟩
theorem do_6 {x : Ch} {a b : Int} : doE x 6 a b = buE x a ∧ doC x 6 a b = buC x a := ⟨rfl, rfl⟩
theorem do_10 {x : Ch} {a b : Int} : doE x 10 a b = rpE x a b ∧ doC x 10 a b = rpC x a b := ⟨rfl, rfl⟩
theorem do_no {x : Ch} {k a b : Int} (h : evK k = false) (h5 : ¬ k = 5) (h6 : ¬ k = 6) (h10 : ¬ k = 10) : doE x k a b = 0 ∧ doC x k a b = x := by
  unfold doE doC
  rw [h]
  simp [h5, h6, h10]
set_option maxRecDepth 100000 in
set_option maxHeartbeats 8000000 in
theorem do_k1 {w : World} {n : Nat} {x : Ch} (K : ChAt w n x) (a b : Int) : Calls Try.prog 9 #[.pointer (some ⟨n, 0, none⟩), .agg #[.int .i64 1, .int .i64 a, .int .i64 b]] w fun e w' => e = .returned (.int .i64 (doE x 1 a b)) ∧ ChAt w' n (doC x 1 a b) ∧ But (fun k => k = n) w w' := by
  obtain ⟨e1, e2⟩ := do_ev (x := x) (k := 1) (a := a) (b := b) (by decide)
  have K1 := K.below ((Below.refl _ _).alloc (Nat.le_refl _) (.cells #[.int .i64 1, .int .i64 a, .int .i64 b] 34))
  have F := ack_yes K1
  rw [← e1, ← e2] at F
  generalize doE x 1 a b = E at *
  generalize doC x 1 a b = y at *
  clear K K1 e1 e2
  go_enter Try.func9, Try.ntmps9
  go_wp2_with fail
  refine F.mono ?_
  rintro e w1 ⟨rfl, h1, h2⟩
  have R : Hid (ChAt w1 n y ∧ But (fun k => k = n) w w1) := ⟨h1, ((But.refl _ w).alloc _).trans h2 (fun _ _ h => h)⟩
  clear h1 h2 F
  go_wp2_with fail
  go_ret
  exact ⟨rfl, R.out⟩
set_option maxRecDepth 100000 in
set_option maxHeartbeats 8000000 in
theorem doN_k1 {w : World} {r : Value} (h : NoCh w r) (a b : Int) : Calls Try.prog 9 #[r, .agg #[.int .i64 1, .int .i64 a, .int .i64 b]] w fun e w' => e = .returned (.int .i64 1) ∧ Below w.heap.size w w' := by
  have h1 := h.below ((Below.refl _ _).alloc (Nat.le_refl _) (.cells #[.int .i64 1, .int .i64 a, .int .i64 b] 34))
  have F := ackN h1
  clear h h1
  go_enter Try.func9, Try.ntmps9
  go_wp2_with fail
  refine F.mono ?_
  rintro e w1 ⟨rfl, h1⟩
  have R : Hid (Below w.heap.size w w1) := by
    have b0 : Below w.heap.size w (w.alloc (.cells #[.int .i64 1, .int .i64 a, .int .i64 b] 34)) := (Below.refl _ _).alloc (Nat.le_refl _) _
    exact b0.trans (h1.mono b0.size)
  clear h1 F
  go_wp2_with fail
  go_ret
  exact ⟨rfl, R.out⟩
set_option maxRecDepth 100000 in
set_option maxHeartbeats 8000000 in
theorem do_k2 {w : World} {n : Nat} {x : Ch} (K : ChAt w n x) (a b : Int) : Calls Try.prog 9 #[.pointer (some ⟨n, 0, none⟩), .agg #[.int .i64 2, .int .i64 a, .int .i64 b]] w fun e w' => e = .returned (.int .i64 (doE x 2 a b)) ∧ ChAt w' n (doC x 2 a b) ∧ But (fun k => k = n) w w' := by
  obtain ⟨e1, e2⟩ := do_ev (x := x) (k := 2) (a := a) (b := b) (by decide)
  have K1 := K.below ((Below.refl _ _).alloc (Nat.le_refl _) (.cells #[.int .i64 2, .int .i64 a, .int .i64 b] 34))
  have F := canceled_yes K1
  rw [← e1, ← e2] at F
  generalize doE x 2 a b = E at *
  generalize doC x 2 a b = y at *
  clear K K1 e1 e2
  go_enter Try.func9, Try.ntmps9
  go_wp2_with fail
  refine F.mono ?_
  rintro e w1 ⟨rfl, h1, h2⟩
  have R : Hid (ChAt w1 n y ∧ But (fun k => k = n) w w1) := ⟨h1, ((But.refl _ w).alloc _).trans h2 (fun _ _ h => h)⟩
  clear h1 h2 F
  go_wp2_with fail
  go_ret
  exact ⟨rfl, R.out⟩
set_option maxRecDepth 100000 in
set_option maxHeartbeats 8000000 in
theorem doN_k2 {w : World} {r : Value} (h : NoCh w r) (a b : Int) : Calls Try.prog 9 #[r, .agg #[.int .i64 2, .int .i64 a, .int .i64 b]] w fun e w' => e = .returned (.int .i64 1) ∧ Below w.heap.size w w' := by
  have h1 := h.below ((Below.refl _ _).alloc (Nat.le_refl _) (.cells #[.int .i64 2, .int .i64 a, .int .i64 b] 34))
  have F := canceledN h1
  clear h h1
  go_enter Try.func9, Try.ntmps9
  go_wp2_with fail
  refine F.mono ?_
  rintro e w1 ⟨rfl, h1⟩
  have R : Hid (Below w.heap.size w w1) := by
    have b0 : Below w.heap.size w (w.alloc (.cells #[.int .i64 2, .int .i64 a, .int .i64 b] 34)) := (Below.refl _ _).alloc (Nat.le_refl _) _
    exact b0.trans (h1.mono b0.size)
  clear h1 F
  go_wp2_with fail
  go_ret
  exact ⟨rfl, R.out⟩
set_option maxRecDepth 100000 in
set_option maxHeartbeats 8000000 in
theorem do_k3 {w : World} {n : Nat} {x : Ch} (K : ChAt w n x) (a b : Int) : Calls Try.prog 9 #[.pointer (some ⟨n, 0, none⟩), .agg #[.int .i64 3, .int .i64 a, .int .i64 b]] w fun e w' => e = .returned (.int .i64 (doE x 3 a b)) ∧ ChAt w' n (doC x 3 a b) ∧ But (fun k => k = n) w w' := by
  obtain ⟨e1, e2⟩ := do_ev (x := x) (k := 3) (a := a) (b := b) (by decide)
  have K1 := K.below ((Below.refl _ _).alloc (Nat.le_refl _) (.cells #[.int .i64 3, .int .i64 a, .int .i64 b] 34))
  have F := replaced_yes K1
  rw [← e1, ← e2] at F
  generalize doE x 3 a b = E at *
  generalize doC x 3 a b = y at *
  clear K K1 e1 e2
  go_enter Try.func9, Try.ntmps9
  go_wp2_with fail
  refine F.mono ?_
  rintro e w1 ⟨rfl, h1, h2⟩
  have R : Hid (ChAt w1 n y ∧ But (fun k => k = n) w w1) := ⟨h1, ((But.refl _ w).alloc _).trans h2 (fun _ _ h => h)⟩
  clear h1 h2 F
  go_wp2_with fail
  go_ret
  exact ⟨rfl, R.out⟩
set_option maxRecDepth 100000 in
set_option maxHeartbeats 8000000 in
theorem doN_k3 {w : World} {r : Value} (h : NoCh w r) (a b : Int) : Calls Try.prog 9 #[r, .agg #[.int .i64 3, .int .i64 a, .int .i64 b]] w fun e w' => e = .returned (.int .i64 1) ∧ Below w.heap.size w w' := by
  have h1 := h.below ((Below.refl _ _).alloc (Nat.le_refl _) (.cells #[.int .i64 3, .int .i64 a, .int .i64 b] 34))
  have F := replacedN h1
  clear h h1
  go_enter Try.func9, Try.ntmps9
  go_wp2_with fail
  refine F.mono ?_
  rintro e w1 ⟨rfl, h1⟩
  have R : Hid (Below w.heap.size w w1) := by
    have b0 : Below w.heap.size w (w.alloc (.cells #[.int .i64 3, .int .i64 a, .int .i64 b] 34)) := (Below.refl _ _).alloc (Nat.le_refl _) _
    exact b0.trans (h1.mono b0.size)
  clear h1 F
  go_wp2_with fail
  go_ret
  exact ⟨rfl, R.out⟩
set_option maxRecDepth 100000 in
set_option maxHeartbeats 8000000 in
theorem do_k4 {w : World} {n : Nat} {x : Ch} (K : ChAt w n x) (a b : Int) : Calls Try.prog 9 #[.pointer (some ⟨n, 0, none⟩), .agg #[.int .i64 4, .int .i64 a, .int .i64 b]] w fun e w' => e = .returned (.int .i64 (doE x 4 a b)) ∧ ChAt w' n (doC x 4 a b) ∧ But (fun k => k = n) w w' := by
  obtain ⟨e1, e2⟩ := do_ev (x := x) (k := 4) (a := a) (b := b) (by decide)
  have K1 := K.below ((Below.refl _ _).alloc (Nat.le_refl _) (.cells #[.int .i64 4, .int .i64 a, .int .i64 b] 34))
  have F := rejected_yes K1
  rw [← e1, ← e2] at F
  generalize doE x 4 a b = E at *
  generalize doC x 4 a b = y at *
  clear K K1 e1 e2
  go_enter Try.func9, Try.ntmps9
  go_wp2_with fail
  refine F.mono ?_
  rintro e w1 ⟨rfl, h1, h2⟩
  have R : Hid (ChAt w1 n y ∧ But (fun k => k = n) w w1) := ⟨h1, ((But.refl _ w).alloc _).trans h2 (fun _ _ h => h)⟩
  clear h1 h2 F
  go_wp2_with fail
  go_ret
  exact ⟨rfl, R.out⟩
set_option maxRecDepth 100000 in
set_option maxHeartbeats 8000000 in
theorem doN_k4 {w : World} {r : Value} (h : NoCh w r) (a b : Int) : Calls Try.prog 9 #[r, .agg #[.int .i64 4, .int .i64 a, .int .i64 b]] w fun e w' => e = .returned (.int .i64 1) ∧ Below w.heap.size w w' := by
  have h1 := h.below ((Below.refl _ _).alloc (Nat.le_refl _) (.cells #[.int .i64 4, .int .i64 a, .int .i64 b] 34))
  have F := rejectedN h1
  clear h h1
  go_enter Try.func9, Try.ntmps9
  go_wp2_with fail
  refine F.mono ?_
  rintro e w1 ⟨rfl, h1⟩
  have R : Hid (Below w.heap.size w w1) := by
    have b0 : Below w.heap.size w (w.alloc (.cells #[.int .i64 4, .int .i64 a, .int .i64 b] 34)) := (Below.refl _ _).alloc (Nat.le_refl _) _
    exact b0.trans (h1.mono b0.size)
  clear h1 F
  go_wp2_with fail
  go_ret
  exact ⟨rfl, R.out⟩
set_option maxRecDepth 100000 in
set_option maxHeartbeats 8000000 in
theorem do_k5 {w : World} {n : Nat} {x : Ch} (K : ChAt w n x) (a b : Int) : Calls Try.prog 9 #[.pointer (some ⟨n, 0, none⟩), .agg #[.int .i64 5, .int .i64 a, .int .i64 b]] w fun e w' => e = .returned (.int .i64 (doE x 5 a b)) ∧ ChAt w' n (doC x 5 a b) ∧ But (fun k => k = n) w w' := by
  obtain ⟨e1, e2⟩ := do_5 (x := x) (a := a) (b := b)
  have K1 := K.below ((Below.refl _ _).alloc (Nat.le_refl _) (.cells #[.int .i64 5, .int .i64 a, .int .i64 b] 34))
  have F := trade_yes K1 a
  rw [← e1, ← e2] at F
  generalize doE x 5 a b = E at *
  generalize doC x 5 a b = y at *
  clear K K1 e1 e2
  go_enter Try.func9, Try.ntmps9
  go_wp2_with fail
  refine F.mono ?_
  rintro e w1 ⟨rfl, h1, h2⟩
  have R : Hid (ChAt w1 n y ∧ But (fun k => k = n) w w1) := ⟨h1, ((But.refl _ w).alloc _).trans h2 (fun _ _ h => h)⟩
  clear h1 h2 F
  go_wp2_with fail
  go_ret
  exact ⟨rfl, R.out⟩
set_option maxRecDepth 100000 in
set_option maxHeartbeats 8000000 in
theorem doN_k5 {w : World} {r : Value} (h : NoCh w r) (a b : Int) : Calls Try.prog 9 #[r, .agg #[.int .i64 5, .int .i64 a, .int .i64 b]] w fun e w' => e = .returned (.int .i64 1) ∧ Below w.heap.size w w' := by
  have h1 := h.below ((Below.refl _ _).alloc (Nat.le_refl _) (.cells #[.int .i64 5, .int .i64 a, .int .i64 b] 34))
  have F := tradeN h1 a
  clear h h1
  go_enter Try.func9, Try.ntmps9
  go_wp2_with fail
  refine F.mono ?_
  rintro e w1 ⟨rfl, h1⟩
  have R : Hid (Below w.heap.size w w1) := by
    have b0 : Below w.heap.size w (w.alloc (.cells #[.int .i64 5, .int .i64 a, .int .i64 b] 34)) := (Below.refl _ _).alloc (Nat.le_refl _) _
    exact b0.trans (h1.mono b0.size)
  clear h1 F
  go_wp2_with fail
  go_ret
  exact ⟨rfl, R.out⟩
set_option maxRecDepth 100000 in
set_option maxHeartbeats 8000000 in
theorem do_k6 {w : World} {n : Nat} {x : Ch} (K : ChAt w n x) (a b : Int) : Calls Try.prog 9 #[.pointer (some ⟨n, 0, none⟩), .agg #[.int .i64 6, .int .i64 a, .int .i64 b]] w fun e w' => e = .returned (.int .i64 (doE x 6 a b)) ∧ ChAt w' n (doC x 6 a b) ∧ But (fun k => k = n) w w' := by
  obtain ⟨e1, e2⟩ := do_6 (x := x) (a := a) (b := b)
  have K1 := K.below ((Below.refl _ _).alloc (Nat.le_refl _) (.cells #[.int .i64 6, .int .i64 a, .int .i64 b] 34))
  have F := bust_yes K1 a
  rw [← e1, ← e2] at F
  generalize doE x 6 a b = E at *
  generalize doC x 6 a b = y at *
  clear K K1 e1 e2
  go_enter Try.func9, Try.ntmps9
  go_wp2_with fail
  refine F.mono ?_
  rintro e w1 ⟨rfl, h1, h2⟩
  have R : Hid (ChAt w1 n y ∧ But (fun k => k = n) w w1) := ⟨h1, ((But.refl _ w).alloc _).trans h2 (fun _ _ h => h)⟩
  clear h1 h2 F
  go_wp2_with fail
  go_ret
  exact ⟨rfl, R.out⟩
set_option maxRecDepth 100000 in
set_option maxHeartbeats 8000000 in
theorem doN_k6 {w : World} {r : Value} (h : NoCh w r) (a b : Int) : Calls Try.prog 9 #[r, .agg #[.int .i64 6, .int .i64 a, .int .i64 b]] w fun e w' => e = .returned (.int .i64 1) ∧ Below w.heap.size w w' := by
  have h1 := h.below ((Below.refl _ _).alloc (Nat.le_refl _) (.cells #[.int .i64 6, .int .i64 a, .int .i64 b] 34))
  have F := bustN h1 a
  clear h h1
  go_enter Try.func9, Try.ntmps9
  go_wp2_with fail
  refine F.mono ?_
  rintro e w1 ⟨rfl, h1⟩
  have R : Hid (Below w.heap.size w w1) := by
    have b0 : Below w.heap.size w (w.alloc (.cells #[.int .i64 6, .int .i64 a, .int .i64 b] 34)) := (Below.refl _ _).alloc (Nat.le_refl _) _
    exact b0.trans (h1.mono b0.size)
  clear h1 F
  go_wp2_with fail
  go_ret
  exact ⟨rfl, R.out⟩
set_option maxRecDepth 100000 in
set_option maxHeartbeats 8000000 in
theorem do_k8 {w : World} {n : Nat} {x : Ch} (K : ChAt w n x) (a b : Int) : Calls Try.prog 9 #[.pointer (some ⟨n, 0, none⟩), .agg #[.int .i64 8, .int .i64 a, .int .i64 b]] w fun e w' => e = .returned (.int .i64 (doE x 8 a b)) ∧ ChAt w' n (doC x 8 a b) ∧ But (fun k => k = n) w w' := by
  obtain ⟨e1, e2⟩ := do_ev (x := x) (k := 8) (a := a) (b := b) (by decide)
  have K1 := K.below ((Below.refl _ _).alloc (Nat.le_refl _) (.cells #[.int .i64 8, .int .i64 a, .int .i64 b] 34))
  have F := refused_yes K1
  rw [← e1, ← e2] at F
  generalize doE x 8 a b = E at *
  generalize doC x 8 a b = y at *
  clear K K1 e1 e2
  go_enter Try.func9, Try.ntmps9
  go_wp2_with fail
  refine F.mono ?_
  rintro e w1 ⟨rfl, h1, h2⟩
  have R : Hid (ChAt w1 n y ∧ But (fun k => k = n) w w1) := ⟨h1, ((But.refl _ w).alloc _).trans h2 (fun _ _ h => h)⟩
  clear h1 h2 F
  go_wp2_with fail
  go_ret
  exact ⟨rfl, R.out⟩
set_option maxRecDepth 100000 in
set_option maxHeartbeats 8000000 in
theorem doN_k8 {w : World} {r : Value} (h : NoCh w r) (a b : Int) : Calls Try.prog 9 #[r, .agg #[.int .i64 8, .int .i64 a, .int .i64 b]] w fun e w' => e = .returned (.int .i64 1) ∧ Below w.heap.size w w' := by
  have h1 := h.below ((Below.refl _ _).alloc (Nat.le_refl _) (.cells #[.int .i64 8, .int .i64 a, .int .i64 b] 34))
  have F := refusedN h1
  clear h h1
  go_enter Try.func9, Try.ntmps9
  go_wp2_with fail
  refine F.mono ?_
  rintro e w1 ⟨rfl, h1⟩
  have R : Hid (Below w.heap.size w w1) := by
    have b0 : Below w.heap.size w (w.alloc (.cells #[.int .i64 8, .int .i64 a, .int .i64 b] 34)) := (Below.refl _ _).alloc (Nat.le_refl _) _
    exact b0.trans (h1.mono b0.size)
  clear h1 F
  go_wp2_with fail
  go_ret
  exact ⟨rfl, R.out⟩
set_option maxRecDepth 100000 in
set_option maxHeartbeats 8000000 in
theorem do_k9 {w : World} {n : Nat} {x : Ch} (K : ChAt w n x) (a b : Int) : Calls Try.prog 9 #[.pointer (some ⟨n, 0, none⟩), .agg #[.int .i64 9, .int .i64 a, .int .i64 b]] w fun e w' => e = .returned (.int .i64 (doE x 9 a b)) ∧ ChAt w' n (doC x 9 a b) ∧ But (fun k => k = n) w w' := by
  obtain ⟨e1, e2⟩ := do_ev (x := x) (k := 9) (a := a) (b := b) (by decide)
  have K1 := K.below ((Below.refl _ _).alloc (Nat.le_refl _) (.cells #[.int .i64 9, .int .i64 a, .int .i64 b] 34))
  have F := cancel_yes K1
  rw [← e1, ← e2] at F
  generalize doE x 9 a b = E at *
  generalize doC x 9 a b = y at *
  clear K K1 e1 e2
  go_enter Try.func9, Try.ntmps9
  go_wp2_with fail
  refine F.mono ?_
  rintro e w1 ⟨rfl, h1, h2⟩
  have R : Hid (ChAt w1 n y ∧ But (fun k => k = n) w w1) := ⟨h1, ((But.refl _ w).alloc _).trans h2 (fun _ _ h => h)⟩
  clear h1 h2 F
  go_wp2_with fail
  go_ret
  exact ⟨rfl, R.out⟩
set_option maxRecDepth 100000 in
set_option maxHeartbeats 8000000 in
theorem doN_k9 {w : World} {r : Value} (h : NoCh w r) (a b : Int) : Calls Try.prog 9 #[r, .agg #[.int .i64 9, .int .i64 a, .int .i64 b]] w fun e w' => e = .returned (.int .i64 1) ∧ Below w.heap.size w w' := by
  have h1 := h.below ((Below.refl _ _).alloc (Nat.le_refl _) (.cells #[.int .i64 9, .int .i64 a, .int .i64 b] 34))
  have F := cancelN h1
  clear h h1
  go_enter Try.func9, Try.ntmps9
  go_wp2_with fail
  refine F.mono ?_
  rintro e w1 ⟨rfl, h1⟩
  have R : Hid (Below w.heap.size w w1) := by
    have b0 : Below w.heap.size w (w.alloc (.cells #[.int .i64 9, .int .i64 a, .int .i64 b] 34)) := (Below.refl _ _).alloc (Nat.le_refl _) _
    exact b0.trans (h1.mono b0.size)
  clear h1 F
  go_wp2_with fail
  go_ret
  exact ⟨rfl, R.out⟩
set_option maxRecDepth 100000 in
set_option maxHeartbeats 8000000 in
theorem do_k10 {w : World} {n : Nat} {x : Ch} (K : ChAt w n x) (a b : Int) : Calls Try.prog 9 #[.pointer (some ⟨n, 0, none⟩), .agg #[.int .i64 10, .int .i64 a, .int .i64 b]] w fun e w' => e = .returned (.int .i64 (doE x 10 a b)) ∧ ChAt w' n (doC x 10 a b) ∧ But (fun k => k = n) w w' := by
  obtain ⟨e1, e2⟩ := do_10 (x := x) (a := a) (b := b)
  have K1 := K.below ((Below.refl _ _).alloc (Nat.le_refl _) (.cells #[.int .i64 10, .int .i64 a, .int .i64 b] 34))
  have F := replace_yes K1 a b
  rw [← e1, ← e2] at F
  generalize doE x 10 a b = E at *
  generalize doC x 10 a b = y at *
  clear K K1 e1 e2
  go_enter Try.func9, Try.ntmps9
  go_wp2_with fail
  refine F.mono ?_
  rintro e w1 ⟨rfl, h1, h2⟩
  have R : Hid (ChAt w1 n y ∧ But (fun k => k = n) w w1) := ⟨h1, ((But.refl _ w).alloc _).trans h2 (fun _ _ h => h)⟩
  clear h1 h2 F
  go_wp2_with fail
  go_ret
  exact ⟨rfl, R.out⟩
set_option maxRecDepth 100000 in
set_option maxHeartbeats 8000000 in
theorem doN_k10 {w : World} {r : Value} (h : NoCh w r) (a b : Int) : Calls Try.prog 9 #[r, .agg #[.int .i64 10, .int .i64 a, .int .i64 b]] w fun e w' => e = .returned (.int .i64 1) ∧ Below w.heap.size w w' := by
  have h1 := h.below ((Below.refl _ _).alloc (Nat.le_refl _) (.cells #[.int .i64 10, .int .i64 a, .int .i64 b] 34))
  have F := replaceN h1 a b
  clear h h1
  go_enter Try.func9, Try.ntmps9
  go_wp2_with fail
  refine F.mono ?_
  rintro e w1 ⟨rfl, h1⟩
  have R : Hid (Below w.heap.size w w1) := by
    have b0 : Below w.heap.size w (w.alloc (.cells #[.int .i64 10, .int .i64 a, .int .i64 b] 34)) := (Below.refl _ _).alloc (Nat.le_refl _) _
    exact b0.trans (h1.mono b0.size)
  clear h1 F
  go_wp2_with fail
  go_ret
  exact ⟨rfl, R.out⟩
set_option maxRecDepth 100000 in
set_option maxHeartbeats 8000000 in
theorem do_none {w : World} {n : Nat} {x : Ch} (K : ChAt w n x) (k a b : Int) (h : evK k = false) (h5 : ¬ k = 5) (h6 : ¬ k = 6) (h10 : ¬ k = 10) : Calls Try.prog 9 #[.pointer (some ⟨n, 0, none⟩), .agg #[.int .i64 k, .int .i64 a, .int .i64 b]] w fun e w' => e = .returned (.int .i64 (doE x k a b)) ∧ ChAt w' n (doC x k a b) ∧ But (fun k => k = n) w w' := by
  rw [(do_no h h5 h6 h10).1, (do_no h h5 h6 h10).2]
  obtain ⟨h1, h2, h3, h4, h8, h9⟩ := ev_not h
  have q1 : (k == 1) = false := beq_false_of_ne h1
  have q2 : (k == 2) = false := beq_false_of_ne h2
  have q3 : (k == 3) = false := beq_false_of_ne h3
  have q4 : (k == 4) = false := beq_false_of_ne h4
  have q5 : (k == 5) = false := beq_false_of_ne h5
  have q6 : (k == 6) = false := beq_false_of_ne h6
  have q8 : (k == 8) = false := beq_false_of_ne h8
  have q9 : (k == 9) = false := beq_false_of_ne h9
  have q10 : (k == 10) = false := beq_false_of_ne h10
  have R : Hid (ChAt (w.alloc (.cells #[.int .i64 k, .int .i64 a, .int .i64 b] 34)) n x ∧ But (fun k => k = n) w (w.alloc (.cells #[.int .i64 k, .int .i64 a, .int .i64 b] 34))) := ⟨K.below ((Below.refl _ _).alloc (Nat.le_refl _) _), (But.refl _ w).alloc _⟩
  clear K h
  go_enter Try.func9, Try.ntmps9
  go_wp2_with fail
  go_ret
  exact ⟨rfl, R.out⟩
theorem do_any {w : World} {n : Nat} {x : Ch} (K : ChAt w n x) (k a b : Int) : Calls Try.prog 9 #[.pointer (some ⟨n, 0, none⟩), .agg #[.int .i64 k, .int .i64 a, .int .i64 b]] w fun e w' => e = .returned (.int .i64 (doE x k a b)) ∧ ChAt w' n (doC x k a b) ∧ But (fun k => k = n) w w' := by
  cases h : evK k
  · by_cases h5 : k = 5
    · subst h5; exact do_k5 K a b
    by_cases h6 : k = 6
    · subst h6; exact do_k6 K a b
    by_cases h10 : k = 10
    · subst h10; exact do_k10 K a b
    · exact do_none K k a b h h5 h6 h10
  · rcases ev_cases h with rfl | rfl | rfl | rfl | rfl | rfl
    · exact do_k1 K a b
    · exact do_k2 K a b
    · exact do_k3 K a b
    · exact do_k4 K a b
    · exact do_k8 K a b
    · exact do_k9 K a b
theorem doN_any {w : World} {r : Value} (h : NoCh w r) {k : Int} (h1 : 1 ≤ k ∧ k ≤ 10) (h7 : ¬ k = 7) (a b : Int) : Calls Try.prog 9 #[r, .agg #[.int .i64 k, .int .i64 a, .int .i64 b]] w fun e w' => e = .returned (.int .i64 1) ∧ Below w.heap.size w w' := by
  rcases (show k = 1 ∨ k = 2 ∨ k = 3 ∨ k = 4 ∨ k = 5 ∨ k = 6 ∨ k = 8 ∨ k = 9 ∨ k = 10 by omega) with rfl | rfl | rfl | rfl | rfl | rfl | rfl | rfl | rfl
  · exact doN_k1 h a b
  · exact doN_k2 h a b
  · exact doN_k3 h a b
  · exact doN_k4 h a b
  · exact doN_k5 h a b
  · exact doN_k6 h a b
  · exact doN_k8 h a b
  · exact doN_k9 h a b
  · exact doN_k10 h a b
end Go.Proofs.Ytkkimkhkoiempaa.CH
