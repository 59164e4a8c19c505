/-
  StreakTrips: the same execution again and again trips at just the last one that may not be; another one between, and it begins anew. For every most and any two executions, no condition.
-/
import Derived.Test.YtfgkgeeldmmfjaaStrAwake
import Derived.Test.YtfgkgeeldmmfjaaFrame7
namespace Go.Proofs.Ytfgkgeeldmmfjaa
open Go.ChangeShapes Go.WideShapes Go.ChangeAt Go.RowKit Go.Lib

/-- Two steps are held against each other part by part. -/
theorem op_eq (a a' : Bool) (b c d b' c' d' : Int) (w : World) : (Op.equalIn 10000 30 (.agg #[.bool a, .int .i64 b, .int .i64 c, .int .i64 d]) (.agg #[.bool a', .int .i64 b', .int .i64 c', .int .i64 d'])).run Try.prog w = .ok (decide (a = a' ∧ b = b' ∧ c = c' ∧ d = d')) w := by
  rw [show (10000 : Nat) = 9999 + 1 from rfl, run_equalIn_struct (P := Try.prog) w 9999 _ _ _ (by kernel_rfl) (by kernel_rfl)]
  simp [Program.fieldsOf, Try.underlying30, Op.eqFields, go_sem, Try.underlying3, Try.underlying4]
  by_cases h0 : a = a' <;> by_cases h1 : b = b' <;> by_cases h2 : c = c' <;> by_cases h3 : d = d' <;> simp [h0, h1, h2, h3]
/-- A streak beside two steps that lie in boxes of their own, all in memory that is newer than w0. -/
structure Trp (w0 : World) (P most : Nat) (v q x v' q' x' : Int) (w : World) (V Q X : Int) (c : Nat) (t : Bool) : Prop where
  str : Str w P most V Q X c t
  below : Below w0.heap.size w0 w
  apart : w0.heap.size + 1 < P
  o1 : w.cell? ⟨w0.heap.size, 1, none⟩ = some (.int .i64 v)
  o2 : w.cell? ⟨w0.heap.size, 2, none⟩ = some (.int .i64 q)
  o3 : w.cell? ⟨w0.heap.size, 3, none⟩ = some (.int .i64 x)
  r1 : w.cell? ⟨w0.heap.size + 1, 1, none⟩ = some (.int .i64 v')
  r2 : w.cell? ⟨w0.heap.size + 1, 2, none⟩ = some (.int .i64 q')
  r3 : w.cell? ⟨w0.heap.size + 1, 3, none⟩ = some (.int .i64 x')
theorem Trp.put {w0 w w' : World} {P most c c' : Nat} {v q x v' q' x' V Q X V' Q' X' : Int} {t t' : Bool} (h : Trp w0 P most v q x v' q' x' w V Q X c t) (s : Str w' P most V' Q' X' c' t') (k : But (fun k => k = P) w w') : Trp w0 P most v q x v' q' x' w' V' Q' X' c' t' := by
  have ap := h.apart
  have lt1 : w0.heap.size < w.heap.size := World.block_lt_of_cell? _ _ h.o1
  have lt2 : w0.heap.size + 1 < w.heap.size := World.block_lt_of_cell? _ _ h.r1
  have n1 : ¬ w0.heap.size = P := by omega
  have n2 : ¬ w0.heap.size + 1 = P := by omega
  exact ⟨s, h.below.trans (k.below h.below.size (fun i hi => by subst hi; omega)), ap, by rw [k.cell lt1 n1]; exact h.o1, by rw [k.cell lt1 n1]; exact h.o2, by rw [k.cell lt1 n1]; exact h.o3, by rw [k.cell lt2 n2]; exact h.r1, by rw [k.cell lt2 n2]; exact h.r2, by rw [k.cell lt2 n2]; exact h.r3⟩
/-- The two boxes that are laid first. -/
def boxes (w : World) (c : Bool) (v q x : Int) (c' : Bool) (v' q' x' : Int) : World := (w.alloc (.cells #[.bool c, .int .i64 v, .int .i64 q, .int .i64 x] 30)).alloc (.cells #[.bool c', .int .i64 v', .int .i64 q', .int .i64 x'] 30)
structure Boxes (w W : World) (c : Bool) (v q x : Int) (c' : Bool) (v' q' x' : Int) : Prop where
  below : Below w.heap.size w W
  size : w.heap.size + 1 < W.heap.size
  o0 : W.cell? ⟨w.heap.size, 0, none⟩ = some (.bool c)
  o1 : W.cell? ⟨w.heap.size, 1, none⟩ = some (.int .i64 v)
  o2 : W.cell? ⟨w.heap.size, 2, none⟩ = some (.int .i64 q)
  o3 : W.cell? ⟨w.heap.size, 3, none⟩ = some (.int .i64 x)
  r0 : W.cell? ⟨w.heap.size + 1, 0, none⟩ = some (.bool c')
  r1 : W.cell? ⟨w.heap.size + 1, 1, none⟩ = some (.int .i64 v')
  r2 : W.cell? ⟨w.heap.size + 1, 2, none⟩ = some (.int .i64 q')
  r3 : W.cell? ⟨w.heap.size + 1, 3, none⟩ = some (.int .i64 x')
theorem boxes_laid (w : World) (c : Bool) (v q x : Int) (c' : Bool) (v' q' x' : Int) : Boxes w (boxes w c v q x c' v' q' x') c v q x c' v' q' x' := by
  unfold boxes
  exact ⟨((Below.refl _ w).alloc (Nat.le_refl _) _).alloc (by simp) _, by simp, by simp, by simp, by simp, by simp, by simp, by simp, by simp, by simp⟩
theorem Boxes.more {w W W' : World} {c c' : Bool} {v q x v' q' x' : Int} (h : Boxes w W c v q x c' v' q' x') (k : Below W.heap.size W W') : Boxes w W' c v q x c' v' q' x' := by
  have z := k.size
  have s := h.size
  exact ⟨h.below.trans (k.mono (by omega)), by omega, (k.cell (World.block_lt_of_cell? _ _ h.o0)).trans h.o0, (k.cell (World.block_lt_of_cell? _ _ h.o1)).trans h.o1, (k.cell (World.block_lt_of_cell? _ _ h.o2)).trans h.o2, (k.cell (World.block_lt_of_cell? _ _ h.o3)).trans h.o3,
    (k.cell (World.block_lt_of_cell? _ _ h.r0)).trans h.r0, (k.cell (World.block_lt_of_cell? _ _ h.r1)).trans h.r1, (k.cell (World.block_lt_of_cell? _ _ h.r2)).trans h.r2, (k.cell (World.block_lt_of_cell? _ _ h.r3)).trans h.r3⟩
set_option maxRecDepth 100000 in
set_option maxHeartbeats 2000000 in
theorem trips_low (w : World) (most : Int) (c c' : Bool) (v q x v' q' x' : Int) (h : most < 2) :
    Calls Try.prog 5 #[.int .i64 most, .agg #[.bool c, .int .i64 v, .int .i64 q, .int .i64 x], .agg #[.bool c', .int .i64 v', .int .i64 q', .int .i64 x']] w fun e w' => e = .returned (.bool true) ∧ Below w.heap.size w w' := by
  have L := boxes_laid w c v q x c' v' q' x'
  obtain ⟨W, hW⟩ : ∃ W, W = boxes w c v q x c' v' q' x' := ⟨_, rfl⟩
  rw [← hW] at L
  unfold boxes at hW
  have F1 := awake7_any W
  go_enter Try.func5, Try.ntmps5
  go_wp2_with fail
  rw [← hW]
  clear hW
  refine F1.mono ?_
  rintro e w1 ⟨rfl, hb⟩
  obtain ⟨BB, SZ, o0, o1, o2, o3, r0, r1, r2, r3⟩ := L.more hb
  clear hb L F1
  go_wp2_with fail
  go_ret
  exact ⟨by simp, BB⟩
set_option maxRecDepth 100000 in
set_option maxHeartbeats 2000000 in
theorem trips_high (w : World) (most : Int) (c c' : Bool) (v q x v' q' x' : Int) (h1 : ¬ most < 2) (h : 100 < most) :
    Calls Try.prog 5 #[.int .i64 most, .agg #[.bool c, .int .i64 v, .int .i64 q, .int .i64 x], .agg #[.bool c', .int .i64 v', .int .i64 q', .int .i64 x']] w fun e w' => e = .returned (.bool true) ∧ Below w.heap.size w w' := by
  have L := boxes_laid w c v q x c' v' q' x'
  obtain ⟨W, hW⟩ : ∃ W, W = boxes w c v q x c' v' q' x' := ⟨_, rfl⟩
  rw [← hW] at L
  unfold boxes at hW
  have F1 := awake7_any W
  go_enter Try.func5, Try.ntmps5
  go_wp2_with fail
  rw [← hW]
  clear hW
  refine F1.mono ?_
  rintro e w1 ⟨rfl, hb⟩
  obtain ⟨BB, SZ, o0, o1, o2, o3, r0, r1, r2, r3⟩ := L.more hb
  clear hb L F1
  go_wp2_with fail
  go_ret
  exact ⟨by simp, BB⟩
set_option maxRecDepth 100000 in
set_option maxHeartbeats 2000000 in
theorem trips_same (w : World) (most : Int) (c : Bool) (v q x v' q' x' : Int) (h1 : ¬ most < 2) (h2 : ¬ 100 < most) (h : v = v' ∧ q = q' ∧ x = x') :
    Calls Try.prog 5 #[.int .i64 most, .agg #[.bool c, .int .i64 v, .int .i64 q, .int .i64 x], .agg #[.bool c, .int .i64 v', .int .i64 q', .int .i64 x']] w fun e w' => e = .returned (.bool true) ∧ Below w.heap.size w w' := by
  have L := boxes_laid w c v q x c v' q' x'
  obtain ⟨W, hW⟩ : ∃ W, W = boxes w c v q x c v' q' x' := ⟨_, rfl⟩
  rw [← hW] at L
  unfold boxes at hW
  have F1 := awake7_any W
  have E := fun w => op_eq c c v q x v' q' x' w
  rw [decide_eq_true ⟨rfl, h⟩] at E
  clear h
  go_enter Try.func5, Try.ntmps5
  go_wp2_with fail
  rw [← hW]
  clear hW
  refine F1.mono ?_
  rintro e w1 ⟨rfl, hb⟩
  obtain ⟨BB, SZ, o0, o1, o2, o3, r0, r1, r2, r3⟩ := L.more hb
  clear hb L F1
  go_wp2_with fail
  go_ret
  exact ⟨by simp, BB⟩
set_option maxRecDepth 100000 in
set_option maxHeartbeats 2000000 in
theorem trips_clearA (w : World) (most : Int) (c' : Bool) (v q x v' q' x' : Int) (h1 : ¬ most < 2) (h2 : ¬ 100 < most) (h : decide (true = c' ∧ v = v' ∧ q = q' ∧ x = x') = true) :
    Calls Try.prog 5 #[.int .i64 most, .agg #[.bool true, .int .i64 v, .int .i64 q, .int .i64 x], .agg #[.bool c', .int .i64 v', .int .i64 q', .int .i64 x']] w fun e w' => e = .returned (.bool true) ∧ Below w.heap.size w w' := by
  have L := boxes_laid w true v q x c' v' q' x'
  obtain ⟨W, hW⟩ : ∃ W, W = boxes w true v q x c' v' q' x' := ⟨_, rfl⟩
  rw [← hW] at L
  unfold boxes at hW
  have F1 := awake7_any W
  have E := fun w => op_eq true c' v q x v' q' x' w
  rw [h] at E
  clear h
  go_enter Try.func5, Try.ntmps5
  go_wp2_with fail
  rw [← hW]
  clear hW
  refine F1.mono ?_
  rintro e w1 ⟨rfl, hb⟩
  obtain ⟨BB, SZ, o0, o1, o2, o3, r0, r1, r2, r3⟩ := L.more hb
  clear hb L F1
  go_wp2_with fail
  go_ret
  exact ⟨by simp, BB⟩
set_option maxRecDepth 100000 in
set_option maxHeartbeats 2000000 in
theorem trips_clearB (w : World) (most : Int) (c' : Bool) (v q x v' q' x' : Int) (h1 : ¬ most < 2) (h2 : ¬ 100 < most) (h : decide (true = c' ∧ v = v' ∧ q = q' ∧ x = x') = false) :
    Calls Try.prog 5 #[.int .i64 most, .agg #[.bool true, .int .i64 v, .int .i64 q, .int .i64 x], .agg #[.bool c', .int .i64 v', .int .i64 q', .int .i64 x']] w fun e w' => e = .returned (.bool true) ∧ Below w.heap.size w w' := by
  have L := boxes_laid w true v q x c' v' q' x'
  obtain ⟨W, hW⟩ : ∃ W, W = boxes w true v q x c' v' q' x' := ⟨_, rfl⟩
  rw [← hW] at L
  unfold boxes at hW
  have F1 := awake7_any W
  have E := fun w => op_eq true c' v q x v' q' x' w
  rw [h] at E
  clear h
  go_enter Try.func5, Try.ntmps5
  go_wp2_with fail
  rw [← hW]
  clear hW
  refine F1.mono ?_
  rintro e w1 ⟨rfl, hb⟩
  obtain ⟨BB, SZ, o0, o1, o2, o3, r0, r1, r2, r3⟩ := L.more hb
  clear hb L F1
  go_wp2_with fail
  go_ret
  exact ⟨by simp, BB⟩
set_option maxRecDepth 100000 in
set_option maxHeartbeats 2000000 in
theorem trips_clearC (w : World) (most : Int) (v q x v' q' x' : Int) (h1 : ¬ most < 2) (h2 : ¬ 100 < most) :
    Calls Try.prog 5 #[.int .i64 most, .agg #[.bool false, .int .i64 v, .int .i64 q, .int .i64 x], .agg #[.bool true, .int .i64 v', .int .i64 q', .int .i64 x']] w fun e w' => e = .returned (.bool true) ∧ Below w.heap.size w w' := by
  have L := boxes_laid w false v q x true v' q' x'
  obtain ⟨W, hW⟩ : ∃ W, W = boxes w false v q x true v' q' x' := ⟨_, rfl⟩
  rw [← hW] at L
  unfold boxes at hW
  have F1 := awake7_any W
  have E := fun w => op_eq false true v q x v' q' x' w
  rw [decide_eq_false (fun h => absurd h.1 (by simp))] at E
  go_enter Try.func5, Try.ntmps5
  go_wp2_with fail
  rw [← hW]
  clear hW
  refine F1.mono ?_
  rintro e w1 ⟨rfl, hb⟩
  obtain ⟨BB, SZ, o0, o1, o2, o3, r0, r1, r2, r3⟩ := L.more hb
  clear hb L F1
  go_wp2_with fail
  go_ret
  exact ⟨by simp, BB⟩
set_option maxRecDepth 100000 in
set_option maxHeartbeats 8000000 in
theorem trips_main (w : World) (M : Nat) (v q x v' q' x' : Int) (m1 : 2 ≤ M) (m2 : M ≤ 100) (hd : ¬ (v = v' ∧ q = q' ∧ x = x')) :
    Calls Try.prog 5 #[.int .i64 (M : Int), .agg #[.bool false, .int .i64 v, .int .i64 q, .int .i64 x], .agg #[.bool false, .int .i64 v', .int .i64 q', .int .i64 x']] w fun e w' => e = .returned (.bool true) ∧ Below w.heap.size w w' := by
  have L := boxes_laid w false v q x false v' q' x'
  obtain ⟨W, hW⟩ : ∃ W, W = boxes w false v q x false v' q' x' := ⟨_, rfl⟩
  rw [← hW] at L
  unfold boxes at hW
  have F1 := awake7_any W
  have E := fun w => op_eq false false v q x v' q' x' w
  rw [decide_eq_false (fun h => hd h.2)] at E
  have F2 := fun w => new_yes M w m1 (by omega)
  have t1 : ¬ (M : Int) < 2 := by omega
  have t2 : ¬ (100 : Int) < (M : Int) := by omega
  go_enter Try.func5, Try.ntmps5
  go_wp2_with fail
  rw [← hW]
  clear hW
  refine F1.mono ?_
  rintro e w1 ⟨rfl, hb⟩
  have L1 := L.more hb
  have BB1 := L1.size
  clear hb L F1
  obtain ⟨BB, SZ, o0, o1, o2, o3, r0, r1, r2, r3⟩ := id L1
  have HL : Hid (Boxes w w1 false v q x false v' q' x') := L1
  clear L1
  go_wp2_with fail
  refine (F2 _).mono ?_
  rintro e w2 ⟨rfl, S2, B2, _⟩
  have L2 := HL.out.more B2
  obtain ⟨P, hP⟩ : ∃ P, P = w1.heap.size := ⟨_, rfl⟩
  rw [← hP] at S2 BB1
  rw [← hP]
  have T2 : Trp w P M v q x v' q' x' w2 0 0 0 0 false := ⟨S2, L2.below, BB1, L2.o1, L2.o2, L2.o3, L2.r1, L2.r2, L2.r3⟩
  clear hP HL L2 S2 B2 F2 E o0 o1 o2 o3 r0 r1 r2 r3 BB SZ BB1
  go_wp2_with fail
  go_loopw [39] (fun i wr => ∃ k : Nat, i = .int .i64 (k : Int) ∧ k + 1 ≤ M ∧ ((k = 0 ∧ Trp w P M v q x v' q' x' wr 0 0 0 0 false) ∨ (0 < k ∧ Trp w P M v q x v' q' x' wr v q x k false))) (fun i _ => M - (RowKit.intOf i).toNat)
  case atStart => exact ⟨0, rfl, by omega, .inl ⟨rfl, T2⟩⟩
  case round =>
    clear T2
    obtain ⟨k, rfl, hk, T⟩ := hrel
    by_cases hlt : k + 1 < M
    · have t : (k : Int) < (M : Int) - 1 := by omega
      have N1 : (∃ V Q X c, Trp w P M v q x v' q' x' wr V Q X c false) ∧ Calls Try.prog 9 #[.pointer (some ⟨P, 0, none⟩), .int .i64 v, .int .i64 q, .int .i64 x] wr fun e w' => e = .returned (.bool false) ∧ Str w' P M v q x (k + 1) false ∧ But (fun k => k = P) wr w' := by
        rcases T with ⟨rfl, T⟩ | ⟨h0, T⟩
        · exact ⟨⟨_, _, _, _, T⟩, note_first T.str m1 (by omega) v q x⟩
        · exact ⟨⟨_, _, _, _, T⟩, note_same T.str (by omega) (by omega)⟩
      clear T
      obtain ⟨⟨V, Q, X, c, T⟩, G1⟩ := N1
      have HT : Hid (Trp w P M v q x v' q' x' wr V Q X c false) := T
      obtain ⟨_, _, _, o1, o2, o3, _, _, _⟩ := T
      go_wp2_with fail
      refine G1.mono ?_
      rintro e w3 ⟨rfl, S3, k3⟩
      have T3 := HT.out.put S3 k3
      clear S3 k3 HT o1 o2 o3 G1
      go_wp2_with fail
      go_roundw
      case rel => exact ⟨k + 1, by simp, by omega, .inr ⟨by omega, T3⟩⟩
      case measure => simp [RowKit.intOf]; omega
    · have t : ¬ (k : Int) < (M : Int) - 1 := by omega
      have T : Trp w P M v q x v' q' x' wr v q x k false := by
        rcases T with ⟨h0, _⟩ | ⟨_, T⟩
        · exact absurd h0 (by omega)
        · exact T
      have G1 := note_other T.str m1 v' q' x' (fun h => hd ⟨h.1.symm, h.2.1.symm, h.2.2.symm⟩)
      have HT : Hid (Trp w P M v q x v' q' x' wr v q x k false) := T
      have HD : Hid (¬ (v = v' ∧ q = q' ∧ x = x')) := hd
      obtain ⟨_, _, _, _, _, _, o1, o2, o3⟩ := T
      clear hd
      go_wp2_with fail
      refine G1.mono ?_
      rintro e w3 ⟨rfl, S3, k3⟩
      have T3 := HT.out.put S3 k3
      have G2 := count_any T3.str m1
      clear S3 k3 HT o1 o2 o3 G1
      go_wp2_with fail
      refine G2.mono ?_
      rintro e w4 ⟨rfl, rfl⟩
      clear G2
      go_wp2_with fail
      go_loopw [65] (fun i wr => ∃ k : Nat, i = .int .i64 (k : Int) ∧ k + 1 ≤ M ∧ ((k = 0 ∧ Trp w P M v q x v' q' x' wr v' q' x' 1 false) ∨ (0 < k ∧ Trp w P M v q x v' q' x' wr v q x k false))) (fun i _ => M - (RowKit.intOf i).toNat)
      case atStart => exact ⟨0, rfl, by omega, .inl ⟨rfl, T3⟩⟩
      case round =>
        clear T3
        obtain ⟨j, rfl, hj, T⟩ := hrel
        by_cases hlt : j + 1 < M
        · have t : (j : Int) < (M : Int) - 1 := by omega
          have N1 : (∃ V Q X c, Trp w P M v q x v' q' x' wr V Q X c false) ∧ Calls Try.prog 9 #[.pointer (some ⟨P, 0, none⟩), .int .i64 v, .int .i64 q, .int .i64 x] wr fun e w' => e = .returned (.bool false) ∧ Str w' P M v q x (j + 1) false ∧ But (fun k => k = P) wr w' := by
            rcases T with ⟨rfl, T⟩ | ⟨h0, T⟩
            · exact ⟨⟨_, _, _, _, T⟩, note_other T.str m1 v q x HD.out⟩
            · exact ⟨⟨_, _, _, _, T⟩, note_same T.str (by omega) (by omega)⟩
          clear T
          obtain ⟨⟨V, Q, X, c, T⟩, G1⟩ := N1
          have HT : Hid (Trp w P M v q x v' q' x' wr V Q X c false) := T
          obtain ⟨_, _, _, o1, o2, o3, _, _, _⟩ := T
          go_wp2_with fail
          refine G1.mono ?_
          rintro e w3 ⟨rfl, S3, k3⟩
          have T3 := HT.out.put S3 k3
          clear S3 k3 HT o1 o2 o3 G1
          go_wp2_with fail
          go_roundw
          case rel => exact ⟨j + 1, by simp, by omega, .inr ⟨by omega, T3⟩⟩
          case measure => simp [RowKit.intOf]; omega
        · have t : ¬ (j : Int) < (M : Int) - 1 := by omega
          have T : Trp w P M v q x v' q' x' wr v q x j false := by
            rcases T with ⟨h0, _⟩ | ⟨_, T⟩
            · exact absurd h0 (by omega)
            · exact T
          have G1 := note_trip T.str m1 (by omega) (by omega)
          have HT : Hid (Trp w P M v q x v' q' x' wr v q x j false) := T
          obtain ⟨_, _, _, o1, o2, o3, _, _, _⟩ := T
          go_wp2_with fail
          refine G1.mono ?_
          rintro e w3 ⟨rfl, S3, k3⟩
          have T3 := HT.out.put S3 k3
          clear S3 k3 HT o1 o2 o3 G1
          have G2 := note_other T3.str m1 v' q' x' (fun h => HD.out ⟨h.1.symm, h.2.1.symm, h.2.2.symm⟩)
          have HT : Hid (Trp w P M v q x v' q' x' w3 v q x (j + 1) true) := T3
          obtain ⟨_, _, _, _, _, _, o1, o2, o3⟩ := T3
          go_wp2_with fail
          refine G2.mono ?_
          rintro e w4 ⟨rfl, S4, k4⟩
          have T4 := HT.out.put S4 k4
          clear S4 k4 HT o1 o2 o3 G2
          have BF := T4.below
          go_wp2_with fail
          go_ret
          exact ⟨by simp, BF⟩
theorem streakTrips_walk (w : World) (most : Int) (_bd : -9223372036854775808 ≤ most ∧ most ≤ 9223372036854775807) (c : Bool) (v q x : Int) (c' : Bool) (v' q' x' : Int) :
    Calls Try.prog 5 #[.int .i64 most, .agg #[.bool c, .int .i64 v, .int .i64 q, .int .i64 x], .agg #[.bool c', .int .i64 v', .int .i64 q', .int .i64 x']] w fun e w' => e = .returned (.bool true) ∧ Below w.heap.size w w' := by
  by_cases h1 : most < 2
  · exact trips_low w most c c' v q x v' q' x' h1
  by_cases h2 : 100 < most
  · exact trips_high w most c c' v q x v' q' x' h1 h2
  cases c
  · cases c'
    · by_cases hd : v = v' ∧ q = q' ∧ x = x'
      · exact trips_same w most false v q x v' q' x' h1 h2 hd
      · obtain ⟨M, rfl⟩ : ∃ r : Nat, most = (r : Int) := ⟨most.toNat, by omega⟩
        exact trips_main w M v q x v' q' x' (by omega) (by omega) hd
    · exact trips_clearC w most v q x v' q' x' h1 h2
  · by_cases h : decide (true = c' ∧ v = v' ∧ q = q' ∧ x = x') = true
    · exact trips_clearA w most c' v q x v' q' x' h1 h2 h
    · exact trips_clearB w most c' v q x v' q' x' h1 h2 (by simpa using h)
theorem streakTrips_own : ownKnob Try.prog.godebug = none := by kernel_rfl
theorem streakTrips_laidOut : laidOutB Try.prog = true := by kernel_rfl
set_option maxRecDepth 100000 in
theorem streakTrips_lifted (os : Os) (started : os.Started) (H : Type) (enc : TypeId × Value → H) :
    ReturnsInHanded {} Try.checked os 5 .any (Rows.streakTripsSpec.pre6 enc Try.prog Try.f5 Rows.streakTripsRow.domain false) (Rows.streakTripsSpec.post enc Try.prog Try.f5 false true false false) := by
  refine returnsInHanded_of_change (C := Try.checked) streakTrips_own started (by kernel_rfl) Try.func5
    (ChangeSpec.witness6 (enc := enc) (C := Try.checked) false ⟨#[], #[.int .i64 0, .agg #[.bool false, .int .i64 0, .int .i64 0, .int .i64 0], .agg #[.bool false, .int .i64 0, .int .i64 0, .int .i64 0]], []⟩ 8 (by kernel_rfl) (by kernel_rfl) (by kernel_rfl) (by kernel_rfl)) ?_
  intro W base args ds gs before hval0 hW hcnd _
  have hval : ∀ (j : Nat) t v, Try.f5.params[j]? = some t → args[j]? = some v → Value.okWide Try.prog W .any base t v := hval0
  have hW' := hW
  obtain ⟨p, q, hA0, hV, rfl, hfz, hnd⟩ := hW
  have hA : DataW.TrodAll enc Try.prog W 0 (fun _ => true) true Try.f5.params.toList args.toList ds p := hA0
  rw [Try.params5] at hA hval
  obtain ⟨v0, vs0, d0, ds0, p0, q0, hargs, rfl, rfl, h0, r0⟩ := trodAll_cons hA
  obtain ⟨v1, vs1, d1, ds1, p1, q1, rfl, rfl, rfl, h1, r1⟩ := trodAll_cons r0
  obtain ⟨v2, vs2, d2, ds2, p2, q2, rfl, rfl, rfl, h2, r2⟩ := trodAll_cons r1
  obtain ⟨rfl, rfl, rfl⟩ := trodAll_nil r2
  obtain rfl : args = #[v0, v1, v2] := by cases args; simp_all
  obtain ⟨rfl, rfl⟩ := trodVars_none hV
  obtain ⟨a0, rfl, rfl, rfl, w0⟩ := open_int Try.underlying3 (hval 0 3 v0 rfl rfl) h0
  have bd0 := bounds_i64 w0
  obtain ⟨f10, f11, f12, f13, y10, y11, y12, y13, m1, rfl, rfl, rfl, g10, g11, g12, g13⟩ := Joins.open_agg4 Try.underlying30 (by kernel_rfl) (by kernel_rfl) (hval 1 30 v1 rfl rfl) h1
  obtain ⟨b1, eb1, rfl⟩ := trod_a_bool Try.underlying4 g10
  obtain ⟨x1, ex1, rfl, wx1⟩ := DataW.trod_int Try.underlying3 g11
  obtain ⟨y1, ey1, rfl, wy1⟩ := DataW.trod_int Try.underlying3 g12
  obtain ⟨z1, ez1, rfl, wz1⟩ := DataW.trod_int Try.underlying3 g13
  simp only [List.cons.injEq, and_true] at eb1 ex1 ey1 ez1
  subst eb1 ex1 ey1 ez1
  obtain ⟨f20, f21, f22, f23, y20, y21, y22, y23, m2, rfl, rfl, rfl, g20, g21, g22, g23⟩ := Joins.open_agg4 Try.underlying30 (by kernel_rfl) (by kernel_rfl) (hval 2 30 v2 rfl rfl) h2
  obtain ⟨b2, eb2, rfl⟩ := trod_a_bool Try.underlying4 g20
  obtain ⟨x2, ex2, rfl, wx2⟩ := DataW.trod_int Try.underlying3 g21
  obtain ⟨y2, ey2, rfl, wy2⟩ := DataW.trod_int Try.underlying3 g22
  obtain ⟨z2, ez2, rfl, wz2⟩ := DataW.trod_int Try.underlying3 g23
  simp only [List.cons.injEq, and_true] at eb2 ex2 ey2 ez2
  subst eb2 ex2 ey2 ez2
  clear hA0 hval0
  simp only [List.append_nil] at hW'
  refine (streakTrips_walk W a0 bd0 b1 x1 y1 z1 b2 x2 y2 z2).mono fun e W' ⟨he, bel⟩ => ?_
  subst he
  exact ⟨_, rfl, _, _, _, [], _, [], hW', trodAll_mk1 (shut_bool Try.underlying4 _), (trodAll_cons_mk (shut_int Try.underlying3 w0) (trodAll_cons_mk (Joins.shut_agg4 (P := Try.prog) (y0 := (.lit (.bool b1), [])) (y1 := (.lit (.int .i64 x1), [])) (y2 := (.lit (.int .i64 y1), [])) (y3 := (.lit (.int .i64 z1), [])) Try.underlying30 (by kernel_rfl) (by kernel_rfl) ⟨1, by simp [DataW.trod, Try.underlying4]⟩ ⟨1, by simp [DataW.trod, Try.underlying3, wx1]⟩ ⟨1, by simp [DataW.trod, Try.underlying3, wy1]⟩ ⟨1, by simp [DataW.trod, Try.underlying3, wz1]⟩) (trodAll_cons_mk (Joins.shut_agg4 (P := Try.prog) (y0 := (.lit (.bool b2), [])) (y1 := (.lit (.int .i64 x2), [])) (y2 := (.lit (.int .i64 y2), [])) (y3 := (.lit (.int .i64 z2), [])) Try.underlying30 (by kernel_rfl) (by kernel_rfl) ⟨1, by simp [DataW.trod, Try.underlying4]⟩ ⟨1, by simp [DataW.trod, Try.underlying3, wx2]⟩ ⟨1, by simp [DataW.trod, Try.underlying3, wy2]⟩ ⟨1, by simp [DataW.trod, Try.underlying3, wz2]⟩) trodAll_mk0))), rfl, bel.frame _, fun h => by cases h⟩

/-- THE STATEMENT. -/
theorem streakTrips_proved : Rows.StreakTripsSaid :=
  OpenClaim.holds_of_wide 5 Try.f5 rfl rfl rfl rfl rfl rfl rfl ⟨rfl, rfl, rfl, rfl, rfl⟩ rfl rfl rfl rfl rfl (by kernel_rfl) Try.func5 (by kernel_rfl)
    (of_decide_eq_true (by kernel_rfl)) (by unfold Func.isWrapper; first | (rw [if_pos (by decide +kernel)]; kernel_rfl) | (rw [if_neg (by decide +kernel)]; exact ⟨rfl, rfl⟩))
    (fun os started H enc _ => streakTrips_lifted os started H enc)
#print axioms streakTrips_proved
end Go.Proofs.Ytfgkgeeldmmfjaa
