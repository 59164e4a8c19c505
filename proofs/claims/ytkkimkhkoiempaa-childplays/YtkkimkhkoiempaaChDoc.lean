/-
  The statements' doc: a step of the reference's, with the same answer as the program's.
-/
import Derived.Test.YtkkimkhkoiempaaChRefTrade
import Derived.Test.YtkkimkhkoiempaaChDo
namespace Go.Proofs.Ytkkimkhkoiempaa.CH
open Go.ChangeShapes Go.WideShapes Go.ChangeAt Go.RowKit Go.Lib MA

set_option maxRecDepth 100000 in
set_option maxHeartbeats 8000000 in
theorem doc_k1 {w : World} {g : Nat} {x : Ch} (K : RfAt w g x (clm x)) (G : Good x) (a b : Int) : Calls Try.prog 10 #[.pointer (some ⟨g, 0, none⟩), .agg #[.int .i64 1, .int .i64 a, .int .i64 b]] w fun e w' => e = .returned (.int .i64 (doE x 1 a b)) ∧ Rf w w' g (doC x 1 a b) (clm (doC x 1 a b)) := by
  obtain ⟨e1, e2⟩ := do_ev (x := x) (k := 1) (a := a) (b := b) (by decide)
  have K1 : RfAt (w.alloc (.cells #[.int .i64 1, .int .i64 a, .int .i64 b] 34)) g x (clm x) := Box.below K ((Below.refl _ _).alloc (Nat.le_refl _) _)
  have F := eventR_any K1 G (v := 1) (by decide)
  rw [← e1, ← e2] at F
  have H0 : Hid (Rf w (w.alloc (.cells #[.int .i64 1, .int .i64 a, .int .i64 b] 34)) g x (clm x)) := ⟨K1, (But.refl _ w).alloc _⟩
  generalize doE x 1 a b = E at *
  generalize doC x 1 a b = y at *
  clear K K1 e1 e2 G
  go_enter Try.func10, Try.ntmps10
  go_wp2_with fail
  refine F.mono ?_
  rintro e w1 ⟨rfl, h1⟩
  have R : Hid (Rf w w1 g y (clm y)) := H0.out.then h1
  clear h1 F H0
  go_wp2_with fail
  go_ret
  exact ⟨rfl, R.out⟩
set_option maxRecDepth 100000 in
set_option maxHeartbeats 8000000 in
theorem doc_k2 {w : World} {g : Nat} {x : Ch} (K : RfAt w g x (clm x)) (G : Good x) (a b : Int) : Calls Try.prog 10 #[.pointer (some ⟨g, 0, none⟩), .agg #[.int .i64 2, .int .i64 a, .int .i64 b]] w fun e w' => e = .returned (.int .i64 (doE x 2 a b)) ∧ Rf w w' g (doC x 2 a b) (clm (doC x 2 a b)) := by
  obtain ⟨e1, e2⟩ := do_ev (x := x) (k := 2) (a := a) (b := b) (by decide)
  have K1 : RfAt (w.alloc (.cells #[.int .i64 2, .int .i64 a, .int .i64 b] 34)) g x (clm x) := Box.below K ((Below.refl _ _).alloc (Nat.le_refl _) _)
  have F := eventR_any K1 G (v := 2) (by decide)
  rw [← e1, ← e2] at F
  have H0 : Hid (Rf w (w.alloc (.cells #[.int .i64 2, .int .i64 a, .int .i64 b] 34)) g x (clm x)) := ⟨K1, (But.refl _ w).alloc _⟩
  generalize doE x 2 a b = E at *
  generalize doC x 2 a b = y at *
  clear K K1 e1 e2 G
  go_enter Try.func10, Try.ntmps10
  go_wp2_with fail
  refine F.mono ?_
  rintro e w1 ⟨rfl, h1⟩
  have R : Hid (Rf w w1 g y (clm y)) := H0.out.then h1
  clear h1 F H0
  go_wp2_with fail
  go_ret
  exact ⟨rfl, R.out⟩
set_option maxRecDepth 100000 in
set_option maxHeartbeats 8000000 in
theorem doc_k3 {w : World} {g : Nat} {x : Ch} (K : RfAt w g x (clm x)) (G : Good x) (a b : Int) : Calls Try.prog 10 #[.pointer (some ⟨g, 0, none⟩), .agg #[.int .i64 3, .int .i64 a, .int .i64 b]] w fun e w' => e = .returned (.int .i64 (doE x 3 a b)) ∧ Rf w w' g (doC x 3 a b) (clm (doC x 3 a b)) := by
  obtain ⟨e1, e2⟩ := do_ev (x := x) (k := 3) (a := a) (b := b) (by decide)
  have K1 : RfAt (w.alloc (.cells #[.int .i64 3, .int .i64 a, .int .i64 b] 34)) g x (clm x) := Box.below K ((Below.refl _ _).alloc (Nat.le_refl _) _)
  have F := eventR_any K1 G (v := 3) (by decide)
  rw [← e1, ← e2] at F
  have H0 : Hid (Rf w (w.alloc (.cells #[.int .i64 3, .int .i64 a, .int .i64 b] 34)) g x (clm x)) := ⟨K1, (But.refl _ w).alloc _⟩
  generalize doE x 3 a b = E at *
  generalize doC x 3 a b = y at *
  clear K K1 e1 e2 G
  go_enter Try.func10, Try.ntmps10
  go_wp2_with fail
  refine F.mono ?_
  rintro e w1 ⟨rfl, h1⟩
  have R : Hid (Rf w w1 g y (clm y)) := H0.out.then h1
  clear h1 F H0
  go_wp2_with fail
  go_ret
  exact ⟨rfl, R.out⟩
set_option maxRecDepth 100000 in
set_option maxHeartbeats 8000000 in
theorem doc_k4 {w : World} {g : Nat} {x : Ch} (K : RfAt w g x (clm x)) (G : Good x) (a b : Int) : Calls Try.prog 10 #[.pointer (some ⟨g, 0, none⟩), .agg #[.int .i64 4, .int .i64 a, .int .i64 b]] w fun e w' => e = .returned (.int .i64 (doE x 4 a b)) ∧ Rf w w' g (doC x 4 a b) (clm (doC x 4 a b)) := by
  obtain ⟨e1, e2⟩ := do_ev (x := x) (k := 4) (a := a) (b := b) (by decide)
  have K1 : RfAt (w.alloc (.cells #[.int .i64 4, .int .i64 a, .int .i64 b] 34)) g x (clm x) := Box.below K ((Below.refl _ _).alloc (Nat.le_refl _) _)
  have F := eventR_any K1 G (v := 4) (by decide)
  rw [← e1, ← e2] at F
  have H0 : Hid (Rf w (w.alloc (.cells #[.int .i64 4, .int .i64 a, .int .i64 b] 34)) g x (clm x)) := ⟨K1, (But.refl _ w).alloc _⟩
  generalize doE x 4 a b = E at *
  generalize doC x 4 a b = y at *
  clear K K1 e1 e2 G
  go_enter Try.func10, Try.ntmps10
  go_wp2_with fail
  refine F.mono ?_
  rintro e w1 ⟨rfl, h1⟩
  have R : Hid (Rf w w1 g y (clm y)) := H0.out.then h1
  clear h1 F H0
  go_wp2_with fail
  go_ret
  exact ⟨rfl, R.out⟩
set_option maxRecDepth 100000 in
set_option maxHeartbeats 8000000 in
theorem doc_k8 {w : World} {g : Nat} {x : Ch} (K : RfAt w g x (clm x)) (G : Good x) (a b : Int) : Calls Try.prog 10 #[.pointer (some ⟨g, 0, none⟩), .agg #[.int .i64 8, .int .i64 a, .int .i64 b]] w fun e w' => e = .returned (.int .i64 (doE x 8 a b)) ∧ Rf w w' g (doC x 8 a b) (clm (doC x 8 a b)) := by
  obtain ⟨e1, e2⟩ := do_ev (x := x) (k := 8) (a := a) (b := b) (by decide)
  have K1 : RfAt (w.alloc (.cells #[.int .i64 8, .int .i64 a, .int .i64 b] 34)) g x (clm x) := Box.below K ((Below.refl _ _).alloc (Nat.le_refl _) _)
  have F := eventR_any K1 G (v := 8) (by decide)
  rw [← e1, ← e2] at F
  have H0 : Hid (Rf w (w.alloc (.cells #[.int .i64 8, .int .i64 a, .int .i64 b] 34)) g x (clm x)) := ⟨K1, (But.refl _ w).alloc _⟩
  generalize doE x 8 a b = E at *
  generalize doC x 8 a b = y at *
  clear K K1 e1 e2 G
  go_enter Try.func10, Try.ntmps10
  go_wp2_with fail
  refine F.mono ?_
  rintro e w1 ⟨rfl, h1⟩
  have R : Hid (Rf w w1 g y (clm y)) := H0.out.then h1
  clear h1 F H0
  go_wp2_with fail
  go_ret
  exact ⟨rfl, R.out⟩
set_option maxRecDepth 100000 in
set_option maxHeartbeats 8000000 in
theorem doc_k9 {w : World} {g : Nat} {x : Ch} (K : RfAt w g x (clm x)) (G : Good x) (a b : Int) : Calls Try.prog 10 #[.pointer (some ⟨g, 0, none⟩), .agg #[.int .i64 9, .int .i64 a, .int .i64 b]] w fun e w' => e = .returned (.int .i64 (doE x 9 a b)) ∧ Rf w w' g (doC x 9 a b) (clm (doC x 9 a b)) := by
  obtain ⟨e1, e2⟩ := do_ev (x := x) (k := 9) (a := a) (b := b) (by decide)
  have K1 : RfAt (w.alloc (.cells #[.int .i64 9, .int .i64 a, .int .i64 b] 34)) g x (clm x) := Box.below K ((Below.refl _ _).alloc (Nat.le_refl _) _)
  have F := eventR_any K1 G (v := 9) (by decide)
  rw [← e1, ← e2] at F
  have H0 : Hid (Rf w (w.alloc (.cells #[.int .i64 9, .int .i64 a, .int .i64 b] 34)) g x (clm x)) := ⟨K1, (But.refl _ w).alloc _⟩
  generalize doE x 9 a b = E at *
  generalize doC x 9 a b = y at *
  clear K K1 e1 e2 G
  go_enter Try.func10, Try.ntmps10
  go_wp2_with fail
  refine F.mono ?_
  rintro e w1 ⟨rfl, h1⟩
  have R : Hid (Rf w w1 g y (clm y)) := H0.out.then h1
  clear h1 F H0
  go_wp2_with fail
  go_ret
  exact ⟨rfl, R.out⟩
set_option maxRecDepth 100000 in
set_option maxHeartbeats 8000000 in
theorem doc_k5 {w : World} {g : Nat} {x : Ch} (K : RfAt w g x (clm x)) (G : Good x) (a b : Int) : Calls Try.prog 10 #[.pointer (some ⟨g, 0, none⟩), .agg #[.int .i64 5, .int .i64 a, .int .i64 b]] w fun e w' => e = .returned (.int .i64 (doE x 5 a b)) ∧ Rf w w' g (doC x 5 a b) (clm (doC x 5 a b)) := by
  obtain ⟨e1, e2⟩ := do_5 (x := x) (a := a) (b := b)
  have K1 : RfAt (w.alloc (.cells #[.int .i64 5, .int .i64 a, .int .i64 b] 34)) g x (clm x) := Box.below K ((Below.refl _ _).alloc (Nat.le_refl _) _)
  have F := tradeR_any K1 G a
  rw [← e1, ← e2] at F
  have H0 : Hid (Rf w (w.alloc (.cells #[.int .i64 5, .int .i64 a, .int .i64 b] 34)) g x (clm x)) := ⟨K1, (But.refl _ w).alloc _⟩
  generalize doE x 5 a b = E at *
  generalize doC x 5 a b = y at *
  clear K K1 e1 e2 G
  go_enter Try.func10, Try.ntmps10
  go_wp2_with fail
  refine F.mono ?_
  rintro e w1 ⟨rfl, h1⟩
  have R : Hid (Rf w w1 g y (clm y)) := H0.out.then h1
  clear h1 F H0
  go_wp2_with fail
  go_ret
  exact ⟨rfl, R.out⟩
set_option maxRecDepth 100000 in
set_option maxHeartbeats 8000000 in
theorem doc_k6 {w : World} {g : Nat} {x : Ch} (K : RfAt w g x (clm x)) (G : Good x) (a b : Int) : Calls Try.prog 10 #[.pointer (some ⟨g, 0, none⟩), .agg #[.int .i64 6, .int .i64 a, .int .i64 b]] w fun e w' => e = .returned (.int .i64 (doE x 6 a b)) ∧ Rf w w' g (doC x 6 a b) (clm (doC x 6 a b)) := by
  obtain ⟨e1, e2⟩ := do_6 (x := x) (a := a) (b := b)
  have K1 : RfAt (w.alloc (.cells #[.int .i64 6, .int .i64 a, .int .i64 b] 34)) g x (clm x) := Box.below K ((Below.refl _ _).alloc (Nat.le_refl _) _)
  have F := bustR_any K1 G a
  rw [← e1, ← e2] at F
  have H0 : Hid (Rf w (w.alloc (.cells #[.int .i64 6, .int .i64 a, .int .i64 b] 34)) g x (clm x)) := ⟨K1, (But.refl _ w).alloc _⟩
  generalize doE x 6 a b = E at *
  generalize doC x 6 a b = y at *
  clear K K1 e1 e2 G
  go_enter Try.func10, Try.ntmps10
  go_wp2_with fail
  refine F.mono ?_
  rintro e w1 ⟨rfl, h1⟩
  have R : Hid (Rf w w1 g y (clm y)) := H0.out.then h1
  clear h1 F H0
  go_wp2_with fail
  go_ret
  exact ⟨rfl, R.out⟩
set_option maxRecDepth 100000 in
set_option maxHeartbeats 8000000 in
theorem doc_k10 {w : World} {g : Nat} {x : Ch} (K : RfAt w g x (clm x)) (G : Good x) (a b : Int) : Calls Try.prog 10 #[.pointer (some ⟨g, 0, none⟩), .agg #[.int .i64 10, .int .i64 a, .int .i64 b]] w fun e w' => e = .returned (.int .i64 (doE x 10 a b)) ∧ Rf w w' g (doC x 10 a b) (clm (doC x 10 a b)) := by
  obtain ⟨e1, e2⟩ := do_10 (x := x) (a := a) (b := b)
  have K1 : RfAt (w.alloc (.cells #[.int .i64 10, .int .i64 a, .int .i64 b] 34)) g x (clm x) := Box.below K ((Below.refl _ _).alloc (Nat.le_refl _) _)
  have F := replaceR_any K1 G a b
  rw [← e1, ← e2] at F
  have H0 : Hid (Rf w (w.alloc (.cells #[.int .i64 10, .int .i64 a, .int .i64 b] 34)) g x (clm x)) := ⟨K1, (But.refl _ w).alloc _⟩
  generalize doE x 10 a b = E at *
  generalize doC x 10 a b = y at *
  clear K K1 e1 e2 G
  go_enter Try.func10, Try.ntmps10
  go_wp2_with fail
  refine F.mono ?_
  rintro e w1 ⟨rfl, h1⟩
  have R : Hid (Rf w w1 g y (clm y)) := H0.out.then h1
  clear h1 F H0
  go_wp2_with fail
  go_ret
  exact ⟨rfl, R.out⟩
set_option maxRecDepth 100000 in
set_option maxHeartbeats 8000000 in
theorem doc_none {w : World} {g : Nat} {x : Ch} (K : RfAt w g x (clm x)) (k a b : Int) (h : evK k = false) (h5 : ¬ k = 5) (h6 : ¬ k = 6) (h10 : ¬ k = 10) : Calls Try.prog 10 #[.pointer (some ⟨g, 0, none⟩), .agg #[.int .i64 k, .int .i64 a, .int .i64 b]] w fun e w' => e = .returned (.int .i64 (doE x k a b)) ∧ Rf w w' g (doC x k a b) (clm (doC x k a b)) := by
  rw [(do_no h h5 h6 h10).1, (do_no h h5 h6 h10).2]
  obtain ⟨h1, h2, h3, h4, h8, h9⟩ := ev_not h
  have q1 : (k == 1) = false := beq_false_of_ne h1
  have q2 : (k == 2) = false := beq_false_of_ne h2
  have q3 : (k == 3) = false := beq_false_of_ne h3
  have q4 : (k == 4) = false := beq_false_of_ne h4
  have q5 : (k == 5) = false := beq_false_of_ne h5
  have q6 : (k == 6) = false := beq_false_of_ne h6
  have q8 : (k == 8) = false := beq_false_of_ne h8
  have q9 : (k == 9) = false := beq_false_of_ne h9
  have q10 : (k == 10) = false := beq_false_of_ne h10
  have R : Hid (Rf w (w.alloc (.cells #[.int .i64 k, .int .i64 a, .int .i64 b] 34)) g x (clm x)) := ⟨Box.below K ((Below.refl _ _).alloc (Nat.le_refl _) _), (But.refl _ w).alloc _⟩
  clear K h
  go_enter Try.func10, Try.ntmps10
  go_wp2_with fail
  go_ret
  exact ⟨rfl, R.out⟩
theorem doc_any {w : World} {g : Nat} {x : Ch} (K : RfAt w g x (clm x)) (G : Good x) (k a b : Int) : Calls Try.prog 10 #[.pointer (some ⟨g, 0, none⟩), .agg #[.int .i64 k, .int .i64 a, .int .i64 b]] w fun e w' => e = .returned (.int .i64 (doE x k a b)) ∧ Rf w w' g (doC x k a b) (clm (doC x k a b)) := by
  cases h : evK k
  · by_cases h5 : k = 5
    · subst h5; exact doc_k5 K G a b
    by_cases h6 : k = 6
    · subst h6; exact doc_k6 K G a b
    by_cases h10 : k = 10
    · subst h10; exact doc_k10 K G a b
    · exact doc_none K k a b h h5 h6 h10
  · rcases ev_cases h with rfl | rfl | rfl | rfl | rfl | rfl
    · exact doc_k1 K G a b
    · exact doc_k2 K G a b
    · exact doc_k3 K G a b
    · exact doc_k4 K G a b
    · exact doc_k8 K G a b
    · exact doc_k9 K G a b
end Go.Proofs.Ytkkimkhkoiempaa.CH
