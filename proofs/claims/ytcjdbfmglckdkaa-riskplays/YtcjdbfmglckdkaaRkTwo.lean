/-
  The book beside the reference's; the law's step makes the same of both.
-/
import Derived.Test.YtcjdbfmglckdkaaRkMove
import Derived.Test.YtcjdbfmglckdkaaRkRef
namespace Go.Proofs.Ytcjdbfmglckdkaa.RK
open Go.ChangeShapes Go.WideShapes Go.ChangeAt Go.RowKit Go.Lib

/-- Both books hold b; no block is of both; all lies in memory that is newer than w0. -/
structure Two (w0 w : World) (P g h q d r : Nat) (v : Value) (b : Bk) : Prop where
  bk : BookAt w w0.heap.size P g h b
  rf : RefAt w w0.heap.size q d r v b
  ap : ∀ i, own P g h i → ¬ own q d r i
  bel : Below w0.heap.size w0 w
theorem Two.still {w0 w w' : World} {P g h q d r : Nat} {v : Value} {b : Bk} (T : Two w0 w P g h q d r v b) (k : Below w.heap.size w w') : Two w0 w' P g h q d r v b :=
  ⟨T.bk.below k, T.rf.below k, T.ap, T.bel.trans (k.mono T.bel.size)⟩
theorem BookAt.least {w : World} {B p g h : Nat} {b : Bk} (K : BookAt w B p g h b) (i : Nat) (hi : own p g h i) : B ≤ i ∧ i < w.heap.size := by
  rcases hi with e | e | e
  · rw [e]; exact ⟨K.lp, K.pt⟩
  · rw [e]; exact ⟨K.lg, K.gt⟩
  · rw [e]; exact ⟨K.lh, K.ht⟩
theorem RefAt.least {w : World} {B p g h : Nat} {v : Value} {b : Bk} (K : RefAt w B p g h v b) (i : Nat) (hi : own p g h i) : B ≤ i ∧ i < w.heap.size := by
  rcases hi with e | e | e
  · rw [e]; exact ⟨K.lq, K.qt⟩
  · rw [e]; exact ⟨K.ld, K.dt⟩
  · rw [e]; exact ⟨K.lr, K.rt⟩
/-- The reference's book is as it was behind what the program did. -/
theorem Two.mid {w0 w w5 : World} {P g h q d r : Nat} {v : Value} {b : Bk} (T : Two w0 w P g h q d r v b) {m : Nat} (k : But (own P g h) (w.drewN m) w5) : RefAt w5 w0.heap.size q d r v b :=
  (T.rf.drewN m).kept k (fun i hi hj => T.ap i hj hi) (fun i hi hj => by have := (T.bk.least i hj).1; omega)
/-- Behind a step of both. -/
theorem Two.both {w0 w w5 w6 : World} {P g h q d r : Nat} {v : Value} {b b' : Bk} (T : Two w0 w P g h q d r v b) {m : Nat} (K5 : BookAt w5 w0.heap.size P g h b') (k5 : But (own P g h) (w.drewN m) w5) (K6 : RefAt w6 w0.heap.size q d r v b') (k6 : But (own q d r) w5 w6) : Two w0 w6 P g h q d r v b' := by
  have z5 := k5.size
  have z := T.bel.size
  refine ⟨K5.kept k6 T.ap, K6, T.ap, ?_⟩
  exact ((below_more T.bel m).trans (k5.below z (fun i hi => (T.bk.least i hi).1))).trans (k6.below (Nat.le_trans z z5) (fun i hi => (K6.least i hi).1))
set_option maxRecDepth 100000 in
set_option maxHeartbeats 8000000 in
theorem step_1 {w0 w : World} {P g h q d r : Nat} {v : Value} {b : Bk} (T : Two w0 w P g h q d r v b) (a s n : Int) : Calls Try.prog 11 #[.pointer (some ⟨P, 0, none⟩), .pointer (some ⟨q, 0, none⟩), .agg #[.int .i64 1, .int .i64 a, .int .i64 s, .int .i64 n]] w fun e w' => e = .returned (.bool true) ∧ (∃ b', Two w0 w' P g h q d r v b') ∧ But (fun i => own P g h i ∨ own q d r i) w w' := by
  have T1 := T.still ((Below.refl _ w).alloc (Nat.le_refl _) (.cells #[.int .i64 1, .int .i64 a, .int .i64 s, .int .i64 n] 33))
  have Z : w.heap.size < (w.alloc (.cells #[.int .i64 1, .int .i64 a, .int .i64 s, .int .i64 n] 33)).heap.size := by simp
  have c1 : (w.alloc (.cells #[.int .i64 1, .int .i64 a, .int .i64 s, .int .i64 n] 33)).cell? ⟨w.heap.size, 1, none⟩ = some (.int .i64 a) := by simp
  have c2 : (w.alloc (.cells #[.int .i64 1, .int .i64 a, .int .i64 s, .int .i64 n] 33)).cell? ⟨w.heap.size, 2, none⟩ = some (.int .i64 s) := by simp
  have c3 : (w.alloc (.cells #[.int .i64 1, .int .i64 a, .int .i64 s, .int .i64 n] 33)).cell? ⟨w.heap.size, 3, none⟩ = some (.int .i64 n) := by simp
  have nP : ¬ own P g h w.heap.size := fun e => by have := (T.bk.least _ e).2; omega
  have nQ : ¬ own q d r w.heap.size := fun e => by have := (T.rf.least _ e).2; omega
  clear T
  obtain ⟨b1, hb1⟩ : ∃ b1, resB b a s n = b1 := ⟨_, rfl⟩
  obtain ⟨E, hE⟩ : ∃ E, resE b a s n = E := ⟨_, rfl⟩
  have G1 := fun m => res_any (T1.bk.drewN m) a s n
  have G2 := fun m w5 (k : But (own P g h) ((w.alloc (.cells #[.int .i64 1, .int .i64 a, .int .i64 s, .int .i64 n] 33)).drewN m) w5) => rRes_any (T1.mid k) a s n
  rw [hb1, hE] at G1 G2
  have HT : Hid (Two w0 (w.alloc (.cells #[.int .i64 1, .int .i64 a, .int .i64 s, .int .i64 n] 33)) P g h q d r v b) := T1
  clear T1 hb1 hE
  go_enter Try.func11, Try.ntmps11
  go_wp2_with fail
  go_region_held3 (fun w' => w'.cell? ⟨w.heap.size, 1, none⟩ = some (.int .i64 a) ∧ w'.cell? ⟨w.heap.size, 2, none⟩ = some (.int .i64 s) ∧ w'.cell? ⟨w.heap.size, 3, none⟩ = some (.int .i64 n)) (go_keep) (first
    | (go_at_call 14; refine (G1 _).mono ?_; rintro e w5 ⟨rfl, K5, k5⟩; have f51 := (k5.cell (k := w.heap.size) (o := 1) Z nP).trans c1; have f52 := (k5.cell (k := w.heap.size) (o := 2) Z nP).trans c2; have f53 := (k5.cell (k := w.heap.size) (o := 3) Z nP).trans c3)
    | (go_at_call 23; refine (G2 _ _ k5).mono ?_; rintro e w6 ⟨rfl, K6, k6⟩; have f61 := (k6.cell (k := w.heap.size) (o := 1) (Nat.lt_of_lt_of_le Z k5.size) nQ).trans f51; have f62 := (k6.cell (k := w.heap.size) (o := 2) (Nat.lt_of_lt_of_le Z k5.size) nQ).trans f52; have f63 := (k6.cell (k := w.heap.size) (o := 3) (Nat.lt_of_lt_of_le Z k5.size) nQ).trans f53))
  have D := HT.out.both K5 k5 K6 k6
  go_wp2_with fail
  go_ret
  exact ⟨by simp, ⟨b1, D⟩, ((((But.refl _ w).alloc _).drewN _).trans k5 (fun i _ h => .inl h)).trans k6 (fun i _ h => .inr h)⟩
set_option maxRecDepth 100000 in
set_option maxHeartbeats 8000000 in
theorem step_2 {w0 w : World} {P g h q d r : Nat} {v : Value} {b : Bk} (T : Two w0 w P g h q d r v b) (a s n : Int) : Calls Try.prog 11 #[.pointer (some ⟨P, 0, none⟩), .pointer (some ⟨q, 0, none⟩), .agg #[.int .i64 2, .int .i64 a, .int .i64 s, .int .i64 n]] w fun e w' => e = .returned (.bool true) ∧ (∃ b', Two w0 w' P g h q d r v b') ∧ But (fun i => own P g h i ∨ own q d r i) w w' := by
  have T1 := T.still ((Below.refl _ w).alloc (Nat.le_refl _) (.cells #[.int .i64 2, .int .i64 a, .int .i64 s, .int .i64 n] 33))
  have Z : w.heap.size < (w.alloc (.cells #[.int .i64 2, .int .i64 a, .int .i64 s, .int .i64 n] 33)).heap.size := by simp
  have c2 : (w.alloc (.cells #[.int .i64 2, .int .i64 a, .int .i64 s, .int .i64 n] 33)).cell? ⟨w.heap.size, 2, none⟩ = some (.int .i64 s) := by simp
  have c3 : (w.alloc (.cells #[.int .i64 2, .int .i64 a, .int .i64 s, .int .i64 n] 33)).cell? ⟨w.heap.size, 3, none⟩ = some (.int .i64 n) := by simp
  have nP : ¬ own P g h w.heap.size := fun e => by have := (T.bk.least _ e).2; omega
  have nQ : ¬ own q d r w.heap.size := fun e => by have := (T.rf.least _ e).2; omega
  clear T
  obtain ⟨b1, hb1⟩ : ∃ b1, rszB b s n = b1 := ⟨_, rfl⟩
  obtain ⟨E, hE⟩ : ∃ E, rszE b s n = E := ⟨_, rfl⟩
  have G1 := fun m => rsz_any (T1.bk.drewN m) s n
  have G2 := fun m w5 (k : But (own P g h) ((w.alloc (.cells #[.int .i64 2, .int .i64 a, .int .i64 s, .int .i64 n] 33)).drewN m) w5) => rRsz_any (T1.mid k) s n
  rw [hb1, hE] at G1 G2
  have HT : Hid (Two w0 (w.alloc (.cells #[.int .i64 2, .int .i64 a, .int .i64 s, .int .i64 n] 33)) P g h q d r v b) := T1
  clear T1 hb1 hE
  go_enter Try.func11, Try.ntmps11
  go_wp2_with fail
  go_region_held3 (fun w' => w'.cell? ⟨w.heap.size, 2, none⟩ = some (.int .i64 s) ∧ w'.cell? ⟨w.heap.size, 3, none⟩ = some (.int .i64 n)) (go_keep) (first
    | (go_at_call 15; refine (G1 _).mono ?_; rintro e w5 ⟨rfl, K5, k5⟩; have f52 := (k5.cell (k := w.heap.size) (o := 2) Z nP).trans c2; have f53 := (k5.cell (k := w.heap.size) (o := 3) Z nP).trans c3)
    | (go_at_call 24; refine (G2 _ _ k5).mono ?_; rintro e w6 ⟨rfl, K6, k6⟩; have f62 := (k6.cell (k := w.heap.size) (o := 2) (Nat.lt_of_lt_of_le Z k5.size) nQ).trans f52; have f63 := (k6.cell (k := w.heap.size) (o := 3) (Nat.lt_of_lt_of_le Z k5.size) nQ).trans f53))
  have D := HT.out.both K5 k5 K6 k6
  go_wp2_with fail
  go_ret
  exact ⟨by simp, ⟨b1, D⟩, ((((But.refl _ w).alloc _).drewN _).trans k5 (fun i _ h => .inl h)).trans k6 (fun i _ h => .inr h)⟩
set_option maxRecDepth 100000 in
set_option maxHeartbeats 8000000 in
theorem step_3 {w0 w : World} {P g h q d r : Nat} {v : Value} {b : Bk} (T : Two w0 w P g h q d r v b) (a s n : Int) : Calls Try.prog 11 #[.pointer (some ⟨P, 0, none⟩), .pointer (some ⟨q, 0, none⟩), .agg #[.int .i64 3, .int .i64 a, .int .i64 s, .int .i64 n]] w fun e w' => e = .returned (.bool true) ∧ (∃ b', Two w0 w' P g h q d r v b') ∧ But (fun i => own P g h i ∨ own q d r i) w w' := by
  have T1 := T.still ((Below.refl _ w).alloc (Nat.le_refl _) (.cells #[.int .i64 3, .int .i64 a, .int .i64 s, .int .i64 n] 33))
  have Z : w.heap.size < (w.alloc (.cells #[.int .i64 3, .int .i64 a, .int .i64 s, .int .i64 n] 33)).heap.size := by simp
  have c2 : (w.alloc (.cells #[.int .i64 3, .int .i64 a, .int .i64 s, .int .i64 n] 33)).cell? ⟨w.heap.size, 2, none⟩ = some (.int .i64 s) := by simp
  have c3 : (w.alloc (.cells #[.int .i64 3, .int .i64 a, .int .i64 s, .int .i64 n] 33)).cell? ⟨w.heap.size, 3, none⟩ = some (.int .i64 n) := by simp
  have nP : ¬ own P g h w.heap.size := fun e => by have := (T.bk.least _ e).2; omega
  have nQ : ¬ own q d r w.heap.size := fun e => by have := (T.rf.least _ e).2; omega
  clear T
  obtain ⟨b1, hb1⟩ : ∃ b1, stlB b s n = b1 := ⟨_, rfl⟩
  obtain ⟨E, hE⟩ : ∃ E, stlE b s n = E := ⟨_, rfl⟩
  have G1 := fun m => stl_any (T1.bk.drewN m) s n
  have G2 := fun m w5 (k : But (own P g h) ((w.alloc (.cells #[.int .i64 3, .int .i64 a, .int .i64 s, .int .i64 n] 33)).drewN m) w5) => rStl_any (T1.mid k) s n
  rw [hb1, hE] at G1 G2
  have HT : Hid (Two w0 (w.alloc (.cells #[.int .i64 3, .int .i64 a, .int .i64 s, .int .i64 n] 33)) P g h q d r v b) := T1
  clear T1 hb1 hE
  go_enter Try.func11, Try.ntmps11
  go_wp2_with fail
  go_region_held3 (fun w' => w'.cell? ⟨w.heap.size, 2, none⟩ = some (.int .i64 s) ∧ w'.cell? ⟨w.heap.size, 3, none⟩ = some (.int .i64 n)) (go_keep) (first
    | (go_at_call 16; refine (G1 _).mono ?_; rintro e w5 ⟨rfl, K5, k5⟩; have f52 := (k5.cell (k := w.heap.size) (o := 2) Z nP).trans c2; have f53 := (k5.cell (k := w.heap.size) (o := 3) Z nP).trans c3)
    | (go_at_call 25; refine (G2 _ _ k5).mono ?_; rintro e w6 ⟨rfl, K6, k6⟩; have f62 := (k6.cell (k := w.heap.size) (o := 2) (Nat.lt_of_lt_of_le Z k5.size) nQ).trans f52; have f63 := (k6.cell (k := w.heap.size) (o := 3) (Nat.lt_of_lt_of_le Z k5.size) nQ).trans f53))
  have D := HT.out.both K5 k5 K6 k6
  go_wp2_with fail
  go_ret
  exact ⟨by simp, ⟨b1, D⟩, ((((But.refl _ w).alloc _).drewN _).trans k5 (fun i _ h => .inl h)).trans k6 (fun i _ h => .inr h)⟩
set_option maxRecDepth 100000 in
set_option maxHeartbeats 8000000 in
theorem step_4 {w0 w : World} {P g h q d r : Nat} {v : Value} {b : Bk} (T : Two w0 w P g h q d r v b) (a s n : Int) : Calls Try.prog 11 #[.pointer (some ⟨P, 0, none⟩), .pointer (some ⟨q, 0, none⟩), .agg #[.int .i64 4, .int .i64 a, .int .i64 s, .int .i64 n]] w fun e w' => e = .returned (.bool true) ∧ (∃ b', Two w0 w' P g h q d r v b') ∧ But (fun i => own P g h i ∨ own q d r i) w w' := by
  have T1 := T.still ((Below.refl _ w).alloc (Nat.le_refl _) (.cells #[.int .i64 4, .int .i64 a, .int .i64 s, .int .i64 n] 33))
  have Z : w.heap.size < (w.alloc (.cells #[.int .i64 4, .int .i64 a, .int .i64 s, .int .i64 n] 33)).heap.size := by simp
  have c1 : (w.alloc (.cells #[.int .i64 4, .int .i64 a, .int .i64 s, .int .i64 n] 33)).cell? ⟨w.heap.size, 1, none⟩ = some (.int .i64 a) := by simp
  have c3 : (w.alloc (.cells #[.int .i64 4, .int .i64 a, .int .i64 s, .int .i64 n] 33)).cell? ⟨w.heap.size, 3, none⟩ = some (.int .i64 n) := by simp
  have nP : ¬ own P g h w.heap.size := fun e => by have := (T.bk.least _ e).2; omega
  have nQ : ¬ own q d r w.heap.size := fun e => by have := (T.rf.least _ e).2; omega
  clear T
  obtain ⟨b1, hb1⟩ : ∃ b1, undB b a n = b1 := ⟨_, rfl⟩
  obtain ⟨E, hE⟩ : ∃ E, undE b a n = E := ⟨_, rfl⟩
  have G1 := fun m => und_any (T1.bk.drewN m) a n
  have G2 := fun m w5 (k : But (own P g h) ((w.alloc (.cells #[.int .i64 4, .int .i64 a, .int .i64 s, .int .i64 n] 33)).drewN m) w5) => rUnd_any (T1.mid k) a n
  rw [hb1, hE] at G1 G2
  have HT : Hid (Two w0 (w.alloc (.cells #[.int .i64 4, .int .i64 a, .int .i64 s, .int .i64 n] 33)) P g h q d r v b) := T1
  clear T1 hb1 hE
  go_enter Try.func11, Try.ntmps11
  go_wp2_with fail
  go_region_held3 (fun w' => w'.cell? ⟨w.heap.size, 1, none⟩ = some (.int .i64 a) ∧ w'.cell? ⟨w.heap.size, 3, none⟩ = some (.int .i64 n)) (go_keep) (first
    | (go_at_call 17; refine (G1 _).mono ?_; rintro e w5 ⟨rfl, K5, k5⟩; have f51 := (k5.cell (k := w.heap.size) (o := 1) Z nP).trans c1; have f53 := (k5.cell (k := w.heap.size) (o := 3) Z nP).trans c3)
    | (go_at_call 26; refine (G2 _ _ k5).mono ?_; rintro e w6 ⟨rfl, K6, k6⟩; have f61 := (k6.cell (k := w.heap.size) (o := 1) (Nat.lt_of_lt_of_le Z k5.size) nQ).trans f51; have f63 := (k6.cell (k := w.heap.size) (o := 3) (Nat.lt_of_lt_of_le Z k5.size) nQ).trans f53))
  have D := HT.out.both K5 k5 K6 k6
  go_wp2_with fail
  go_ret
  exact ⟨by simp, ⟨b1, D⟩, ((((But.refl _ w).alloc _).drewN _).trans k5 (fun i _ h => .inl h)).trans k6 (fun i _ h => .inr h)⟩
set_option maxRecDepth 100000 in
set_option maxHeartbeats 8000000 in
theorem step_0 {w0 w : World} {P g h q d r : Nat} {v : Value} {b : Bk} (T : Two w0 w P g h q d r v b) (k a s n : Int) (h1 : ¬ k = 1) (h2 : ¬ k = 2) (h3 : ¬ k = 3) (h4 : ¬ k = 4) : Calls Try.prog 11 #[.pointer (some ⟨P, 0, none⟩), .pointer (some ⟨q, 0, none⟩), .agg #[.int .i64 k, .int .i64 a, .int .i64 s, .int .i64 n]] w fun e w' => e = .returned (.bool true) ∧ (∃ b', Two w0 w' P g h q d r v b') ∧ But (fun i => own P g h i ∨ own q d r i) w w' := by
  have HT : Hid (Two w0 (w.alloc (.cells #[.int .i64 k, .int .i64 a, .int .i64 s, .int .i64 n] 33)) P g h q d r v b) := T.still ((Below.refl _ w).alloc (Nat.le_refl _) (.cells #[.int .i64 k, .int .i64 a, .int .i64 s, .int .i64 n] 33))
  clear T
  go_enter Try.func11, Try.ntmps11
  go_wp2_with fail
  go_ret
  exact ⟨rfl, ⟨b, HT.out⟩, (But.refl _ w).alloc _⟩
theorem step_any {w0 w : World} {P g h q d r : Nat} {v : Value} {b : Bk} (T : Two w0 w P g h q d r v b) (k a s n : Int) : Calls Try.prog 11 #[.pointer (some ⟨P, 0, none⟩), .pointer (some ⟨q, 0, none⟩), .agg #[.int .i64 k, .int .i64 a, .int .i64 s, .int .i64 n]] w fun e w' => e = .returned (.bool true) ∧ (∃ b', Two w0 w' P g h q d r v b') ∧ But (fun i => own P g h i ∨ own q d r i) w w' := by
  by_cases h1 : k = 1
  · subst h1; exact step_1 T a s n
  by_cases h2 : k = 2
  · subst h2; exact step_2 T a s n
  by_cases h3 : k = 3
  · subst h3; exact step_3 T a s n
  by_cases h4 : k = 4
  · subst h4; exact step_4 T a s n
  exact step_0 T k a s n h1 h2 h3 h4
end Go.Proofs.Ytcjdbfmglckdkaa.RK
