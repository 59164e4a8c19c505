/-
  Contracts of child's behind, in, happen: an event, its answer and the child behind it.
-/
import Derived.Test.YtkkimkhkoiempaaChBook
namespace Go.Proofs.Ytkkimkhkoiempaa.CH
open Go.ChangeShapes Go.WideShapes Go.ChangeAt Go.RowKit Go.Lib MA

/-- No sum runs over. -/
def Fit (x : Ch) (v a : Int) : Prop := (v = 5 ∨ v = 6 → -4611686018427387904 ≤ x.c + a ∧ x.c + a ≤ 4611686018427387904) ∧ (v = 7 → (-4611686018427387904 ≤ x.c - a ∧ x.c - a ≤ 4611686018427387904) ∧ (-4611686018427387904 ≤ x.q - a ∧ x.q - a ≤ 4611686018427387904) ∧ (-4611686018427387904 ≤ x.nq - a ∧ x.nq - a ≤ 4611686018427387904))
theorem fit_of {x : Ch} {v a : Int} (g : Good x) (h : Ev x v a) : Fit x v a := by
  have hc := g.c
  have hq := g.q
  have hn : x.nq ≤ 1099511627776 ∧ -1099511627776 ≤ x.nq := by
    by_cases e : x.st = 5
    · have := g.n5 e; omega
    · have := g.n0 e; omega
  have hm : clm x ≤ 2199023255552 := by
    unfold clm
    by_cases e : opB x.st = true
    · rw [if_pos e]; omega
    · rw [if_neg e]; omega
  refine ⟨fun hv => ?_, fun hv => ?_⟩
  · rcases h with h | h | h | h | h
    · have := ev_cases h; omega
    all_goals omega
  · rcases h with h | h | h | h | h
    · have := ev_cases h; omega
    all_goals omega
theorem inn_5 {x : Ch} {s v : Int} (h : sta x s v = 5) : inn x s v = ⟨x.id, x.ve, x.sd, 5, x.q, x.p, x.nq, x.np, x.c⟩ := by
  unfold inn
  rw [if_pos h]
theorem inn_n {x : Ch} {s v t : Int} (h : sta x s v = t) (h5 : ¬ t = 5) : inn x s v = ⟨x.id, x.ve, x.sd, t, x.q, x.p, 0, 0, x.c⟩ := by
  unfold inn
  rw [h, if_neg h5]
theorem sta_full {x : Ch} {s v : Int} (hv : v = 3 ∨ v = 8) (h : x.q ≤ x.c) : sta x s v = 6 := if_pos ⟨hv, h⟩
theorem sta_rest {x : Ch} {s v : Int} (h : ¬ x.q ≤ x.c) : sta x s v = s := if_neg (fun k => h k.2)
theorem below2 (w : World) (o o' : Obj) : Below w.heap.size w ((w.alloc o).alloc o') := ((Below.refl _ _).alloc (Nat.le_refl _) _).alloc (by simp) _
set_option maxRecDepth 100000 in
set_option maxHeartbeats 8000000 in
theorem behind_tr5 (x : Ch) (a b : Int) (w : World) (hf : Fit x 5 a) : Calls Try.prog 40 #[tV x, .int .i64 5, .int .i64 a, .int .i64 b] w fun e w' => e = .returned (tV (bhd x 5 a b)) ∧ Below w.heap.size w w' := by
  rw [bhd_tr (by omega)]
  have f1 := hf.1 (by omega)
  have hw1 : IntKind.i64.wrap (x.c + a) = x.c + a := by rw [IntKind.wrap_i64]; omega
  clear hf
  obtain ⟨id, ve, sd, st, q, p, nq, np, c⟩ := x
  try simp only at *
  go_enter Try.func40, Try.ntmps40
  go_wp2_with fail
  refine bodyPost_ret (v := tV ⟨id, ve, sd, st, q, p, nq, np, c + a⟩) (by simp [results, Try.results40, go_sem]) rfl ⟨rfl, ?_⟩
  exact below2 _ _ _
set_option maxRecDepth 100000 in
set_option maxHeartbeats 8000000 in
theorem behind_tr6 (x : Ch) (a b : Int) (w : World) (hf : Fit x 6 a) : Calls Try.prog 40 #[tV x, .int .i64 6, .int .i64 a, .int .i64 b] w fun e w' => e = .returned (tV (bhd x 6 a b)) ∧ Below w.heap.size w w' := by
  rw [bhd_tr (by omega)]
  have f1 := hf.1 (by omega)
  have hw1 : IntKind.i64.wrap (x.c + a) = x.c + a := by rw [IntKind.wrap_i64]; omega
  clear hf
  obtain ⟨id, ve, sd, st, q, p, nq, np, c⟩ := x
  try simp only at *
  go_enter Try.func40, Try.ntmps40
  go_wp2_with fail
  refine bodyPost_ret (v := tV ⟨id, ve, sd, st, q, p, nq, np, c + a⟩) (by simp [results, Try.results40, go_sem]) rfl ⟨rfl, ?_⟩
  exact below2 _ _ _
set_option maxRecDepth 100000 in
set_option maxHeartbeats 8000000 in
theorem behind_bu (x : Ch) (a b : Int) (w : World) (hf : Fit x 7 a) : Calls Try.prog 40 #[tV x, .int .i64 7, .int .i64 a, .int .i64 b] w fun e w' => e = .returned (tV (bhd x 7 a b)) ∧ Below w.heap.size w w' := by
  rw [bhd_7]
  have f1 := hf.2 rfl
  have hw1 : IntKind.i64.wrap (x.c - a) = x.c - a := by rw [IntKind.wrap_i64]; omega
  have hw2 : IntKind.i64.wrap (x.q - a) = x.q - a := by rw [IntKind.wrap_i64]; omega
  have hw3 : IntKind.i64.wrap (x.nq - a) = x.nq - a := by rw [IntKind.wrap_i64]; omega
  clear hf
  obtain ⟨id, ve, sd, st, q, p, nq, np, c⟩ := x
  try simp only at *
  go_enter Try.func40, Try.ntmps40
  go_wp2_with fail
  refine bodyPost_ret (v := tV ⟨id, ve, sd, st, q - a, p, nq - a, np, c - a⟩) (by simp [results, Try.results40, go_sem]) rfl ⟨rfl, ?_⟩
  exact below2 _ _ _
set_option maxRecDepth 100000 in
set_option maxHeartbeats 8000000 in
theorem behind_rp (x : Ch) (a b : Int) (w : World) : Calls Try.prog 40 #[tV x, .int .i64 10, .int .i64 a, .int .i64 b] w fun e w' => e = .returned (tV (bhd x 10 a b)) ∧ Below w.heap.size w w' := by
  rw [bhd_10]
  obtain ⟨id, ve, sd, st, q, p, nq, np, c⟩ := x
  try simp only at *
  go_enter Try.func40, Try.ntmps40
  go_wp2_with fail
  refine bodyPost_ret (v := tV ⟨id, ve, sd, st, q, p, a, b, c⟩) (by simp [results, Try.results40, go_sem]) rfl ⟨rfl, ?_⟩
  exact below2 _ _ _
set_option maxRecDepth 100000 in
set_option maxHeartbeats 8000000 in
theorem behind_rd (x : Ch) (a b : Int) (w : World) : Calls Try.prog 40 #[tV x, .int .i64 3, .int .i64 a, .int .i64 b] w fun e w' => e = .returned (tV (bhd x 3 a b)) ∧ Below w.heap.size w w' := by
  rw [bhd_3]
  obtain ⟨id, ve, sd, st, q, p, nq, np, c⟩ := x
  try simp only at *
  go_enter Try.func40, Try.ntmps40
  go_wp2_with fail
  refine bodyPost_ret (v := tV ⟨id, ve, sd, st, nq, np, nq, np, c⟩) (by simp [results, Try.results40, go_sem]) rfl ⟨rfl, ?_⟩
  exact below2 _ _ _
set_option maxRecDepth 100000 in
set_option maxHeartbeats 8000000 in
theorem behind_e1 (x : Ch) (a b : Int) (w : World) : Calls Try.prog 40 #[tV x, .int .i64 1, .int .i64 a, .int .i64 b] w fun e w' => e = .returned (tV (bhd x 1 a b)) ∧ Below w.heap.size w w' := by
  rw [bhd_ev (by omega)]
  obtain ⟨id, ve, sd, st, q, p, nq, np, c⟩ := x
  try simp only at *
  go_enter Try.func40, Try.ntmps40
  go_wp2_with fail
  refine bodyPost_ret (v := tV ⟨id, ve, sd, st, q, p, nq, np, c⟩) (by simp [results, Try.results40, go_sem]) rfl ⟨rfl, ?_⟩
  exact below2 _ _ _
set_option maxRecDepth 100000 in
set_option maxHeartbeats 8000000 in
theorem behind_e2 (x : Ch) (a b : Int) (w : World) : Calls Try.prog 40 #[tV x, .int .i64 2, .int .i64 a, .int .i64 b] w fun e w' => e = .returned (tV (bhd x 2 a b)) ∧ Below w.heap.size w w' := by
  rw [bhd_ev (by omega)]
  obtain ⟨id, ve, sd, st, q, p, nq, np, c⟩ := x
  try simp only at *
  go_enter Try.func40, Try.ntmps40
  go_wp2_with fail
  refine bodyPost_ret (v := tV ⟨id, ve, sd, st, q, p, nq, np, c⟩) (by simp [results, Try.results40, go_sem]) rfl ⟨rfl, ?_⟩
  exact below2 _ _ _
set_option maxRecDepth 100000 in
set_option maxHeartbeats 8000000 in
theorem behind_e4 (x : Ch) (a b : Int) (w : World) : Calls Try.prog 40 #[tV x, .int .i64 4, .int .i64 a, .int .i64 b] w fun e w' => e = .returned (tV (bhd x 4 a b)) ∧ Below w.heap.size w w' := by
  rw [bhd_ev (by omega)]
  obtain ⟨id, ve, sd, st, q, p, nq, np, c⟩ := x
  try simp only at *
  go_enter Try.func40, Try.ntmps40
  go_wp2_with fail
  refine bodyPost_ret (v := tV ⟨id, ve, sd, st, q, p, nq, np, c⟩) (by simp [results, Try.results40, go_sem]) rfl ⟨rfl, ?_⟩
  exact below2 _ _ _
set_option maxRecDepth 100000 in
set_option maxHeartbeats 8000000 in
theorem behind_e8 (x : Ch) (a b : Int) (w : World) : Calls Try.prog 40 #[tV x, .int .i64 8, .int .i64 a, .int .i64 b] w fun e w' => e = .returned (tV (bhd x 8 a b)) ∧ Below w.heap.size w w' := by
  rw [bhd_ev (by omega)]
  obtain ⟨id, ve, sd, st, q, p, nq, np, c⟩ := x
  try simp only at *
  go_enter Try.func40, Try.ntmps40
  go_wp2_with fail
  refine bodyPost_ret (v := tV ⟨id, ve, sd, st, q, p, nq, np, c⟩) (by simp [results, Try.results40, go_sem]) rfl ⟨rfl, ?_⟩
  exact below2 _ _ _
set_option maxRecDepth 100000 in
set_option maxHeartbeats 8000000 in
theorem behind_e9 (x : Ch) (a b : Int) (w : World) : Calls Try.prog 40 #[tV x, .int .i64 9, .int .i64 a, .int .i64 b] w fun e w' => e = .returned (tV (bhd x 9 a b)) ∧ Below w.heap.size w w' := by
  rw [bhd_ev (by omega)]
  obtain ⟨id, ve, sd, st, q, p, nq, np, c⟩ := x
  try simp only at *
  go_enter Try.func40, Try.ntmps40
  go_wp2_with fail
  refine bodyPost_ret (v := tV ⟨id, ve, sd, st, q, p, nq, np, c⟩) (by simp [results, Try.results40, go_sem]) rfl ⟨rfl, ?_⟩
  exact below2 _ _ _
theorem behind_any (x : Ch) (v a b : Int) (w : World) (hv : 1 ≤ v ∧ v ≤ 10) (hf : Fit x v a) : Calls Try.prog 40 #[tV x, .int .i64 v, .int .i64 a, .int .i64 b] w fun e w' => e = .returned (tV (bhd x v a b)) ∧ Below w.heap.size w w' := by
  rcases (show v = 1 ∨ v = 2 ∨ v = 3 ∨ v = 4 ∨ v = 5 ∨ v = 6 ∨ v = 7 ∨ v = 8 ∨ v = 9 ∨ v = 10 by omega) with rfl | rfl | rfl | rfl | rfl | rfl | rfl | rfl | rfl | rfl
  · exact behind_e1 x a b w
  · exact behind_e2 x a b w
  · exact behind_rd x a b w
  · exact behind_e4 x a b w
  · exact behind_tr5 x a b w hf
  · exact behind_tr6 x a b w hf
  · exact behind_bu x a b w hf
  · exact behind_e8 x a b w
  · exact behind_e9 x a b w
  · exact behind_rp x a b w
set_option maxRecDepth 100000 in
set_option maxHeartbeats 8000000 in
theorem in_full3 (x : Ch) (s : Int) (w : World) (h : x.q ≤ x.c) : Calls Try.prog 42 #[tV x, .int .i64 s, .int .i64 3] w fun e w' => e = .returned (tV (inn x s 3)) ∧ Below w.heap.size w w' := by
  rw [inn_n (sta_full (by omega) h) (by omega)]
  obtain ⟨id, ve, sd, st, q, p, nq, np, c⟩ := x
  try simp only at *
  go_enter Try.func42, Try.ntmps42
  go_wp2_with fail
  refine bodyPost_ret (v := tV ⟨id, ve, sd, 6, q, p, 0, 0, c⟩) (by simp [results, Try.results42, go_sem]) rfl ⟨rfl, ?_⟩
  exact below2 _ _ _
set_option maxRecDepth 100000 in
set_option maxHeartbeats 8000000 in
theorem in_five3 (x : Ch) (w : World) (h : ¬ x.q ≤ x.c) : Calls Try.prog 42 #[tV x, .int .i64 5, .int .i64 3] w fun e w' => e = .returned (tV (inn x 5 3)) ∧ Below w.heap.size w w' := by
  rw [inn_5 (sta_rest h)]
  obtain ⟨id, ve, sd, st, q, p, nq, np, c⟩ := x
  try simp only at *
  go_enter Try.func42, Try.ntmps42
  go_wp2_with fail
  refine bodyPost_ret (v := tV ⟨id, ve, sd, 5, q, p, nq, np, c⟩) (by simp [results, Try.results42, go_sem]) rfl ⟨rfl, ?_⟩
  exact below2 _ _ _
set_option maxRecDepth 100000 in
set_option maxHeartbeats 8000000 in
theorem in_rest3 (x : Ch) (s : Int) (w : World) (h : ¬ x.q ≤ x.c) (h5 : ¬ s = 5) : Calls Try.prog 42 #[tV x, .int .i64 s, .int .i64 3] w fun e w' => e = .returned (tV (inn x s 3)) ∧ Below w.heap.size w w' := by
  rw [inn_n (sta_rest h) h5]
  have s1 : (s == 5) = false := beq_false_of_ne h5
  have s2 : (s != 5) = true := by simp [bne, s1]
  obtain ⟨id, ve, sd, st, q, p, nq, np, c⟩ := x
  try simp only at *
  go_enter Try.func42, Try.ntmps42
  go_wp2_with fail
  refine bodyPost_ret (v := tV ⟨id, ve, sd, s, q, p, 0, 0, c⟩) (by simp [results, Try.results42, go_sem]) rfl ⟨rfl, ?_⟩
  exact below2 _ _ _
set_option maxRecDepth 100000 in
set_option maxHeartbeats 8000000 in
theorem in_full8 (x : Ch) (s : Int) (w : World) (h : x.q ≤ x.c) : Calls Try.prog 42 #[tV x, .int .i64 s, .int .i64 8] w fun e w' => e = .returned (tV (inn x s 8)) ∧ Below w.heap.size w w' := by
  rw [inn_n (sta_full (by omega) h) (by omega)]
  obtain ⟨id, ve, sd, st, q, p, nq, np, c⟩ := x
  try simp only at *
  go_enter Try.func42, Try.ntmps42
  go_wp2_with fail
  refine bodyPost_ret (v := tV ⟨id, ve, sd, 6, q, p, 0, 0, c⟩) (by simp [results, Try.results42, go_sem]) rfl ⟨rfl, ?_⟩
  exact below2 _ _ _
set_option maxRecDepth 100000 in
set_option maxHeartbeats 8000000 in
theorem in_five8 (x : Ch) (w : World) (h : ¬ x.q ≤ x.c) : Calls Try.prog 42 #[tV x, .int .i64 5, .int .i64 8] w fun e w' => e = .returned (tV (inn x 5 8)) ∧ Below w.heap.size w w' := by
  rw [inn_5 (sta_rest h)]
  obtain ⟨id, ve, sd, st, q, p, nq, np, c⟩ := x
  try simp only at *
  go_enter Try.func42, Try.ntmps42
  go_wp2_with fail
  refine bodyPost_ret (v := tV ⟨id, ve, sd, 5, q, p, nq, np, c⟩) (by simp [results, Try.results42, go_sem]) rfl ⟨rfl, ?_⟩
  exact below2 _ _ _
set_option maxRecDepth 100000 in
set_option maxHeartbeats 8000000 in
theorem in_rest8 (x : Ch) (s : Int) (w : World) (h : ¬ x.q ≤ x.c) (h5 : ¬ s = 5) : Calls Try.prog 42 #[tV x, .int .i64 s, .int .i64 8] w fun e w' => e = .returned (tV (inn x s 8)) ∧ Below w.heap.size w w' := by
  rw [inn_n (sta_rest h) h5]
  have s1 : (s == 5) = false := beq_false_of_ne h5
  have s2 : (s != 5) = true := by simp [bne, s1]
  obtain ⟨id, ve, sd, st, q, p, nq, np, c⟩ := x
  try simp only at *
  go_enter Try.func42, Try.ntmps42
  go_wp2_with fail
  refine bodyPost_ret (v := tV ⟨id, ve, sd, s, q, p, 0, 0, c⟩) (by simp [results, Try.results42, go_sem]) rfl ⟨rfl, ?_⟩
  exact below2 _ _ _
set_option maxRecDepth 100000 in
set_option maxHeartbeats 8000000 in
theorem in_five (x : Ch) (v : Int) (w : World) (h3 : ¬ v = 3) (h8 : ¬ v = 8) : Calls Try.prog 42 #[tV x, .int .i64 5, .int .i64 v] w fun e w' => e = .returned (tV (inn x 5 v)) ∧ Below w.heap.size w w' := by
  rw [inn_5 (sta_no ⟨h3, h8⟩)]
  have v3 : (v == 3) = false := beq_false_of_ne h3
  have v8 : (v == 8) = false := beq_false_of_ne h8
  obtain ⟨id, ve, sd, st, q, p, nq, np, c⟩ := x
  try simp only at *
  go_enter Try.func42, Try.ntmps42
  go_wp2_with fail
  refine bodyPost_ret (v := tV ⟨id, ve, sd, 5, q, p, nq, np, c⟩) (by simp [results, Try.results42, go_sem]) rfl ⟨rfl, ?_⟩
  exact below2 _ _ _
set_option maxRecDepth 100000 in
set_option maxHeartbeats 8000000 in
theorem in_rest (x : Ch) (v s : Int) (w : World) (h3 : ¬ v = 3) (h8 : ¬ v = 8) (h5 : ¬ s = 5) : Calls Try.prog 42 #[tV x, .int .i64 s, .int .i64 v] w fun e w' => e = .returned (tV (inn x s v)) ∧ Below w.heap.size w w' := by
  rw [inn_n (sta_no ⟨h3, h8⟩) h5]
  have s1 : (s == 5) = false := beq_false_of_ne h5
  have s2 : (s != 5) = true := by simp [bne, s1]
  have v3 : (v == 3) = false := beq_false_of_ne h3
  have v8 : (v == 8) = false := beq_false_of_ne h8
  obtain ⟨id, ve, sd, st, q, p, nq, np, c⟩ := x
  try simp only at *
  go_enter Try.func42, Try.ntmps42
  go_wp2_with fail
  refine bodyPost_ret (v := tV ⟨id, ve, sd, s, q, p, 0, 0, c⟩) (by simp [results, Try.results42, go_sem]) rfl ⟨rfl, ?_⟩
  exact below2 _ _ _
theorem in_any (x : Ch) (s v : Int) (w : World) : Calls Try.prog 42 #[tV x, .int .i64 s, .int .i64 v] w fun e w' => e = .returned (tV (inn x s v)) ∧ Below w.heap.size w w' := by
  by_cases h3 : v = 3
  · subst h3
    by_cases h : x.q ≤ x.c
    · exact in_full3 x s w h
    by_cases h5 : s = 5
    · subst h5; exact in_five3 x w h
    · exact in_rest3 x s w h h5
  by_cases h8 : v = 8
  · subst h8
    by_cases h : x.q ≤ x.c
    · exact in_full8 x s w h
    by_cases h5 : s = 5
    · subst h5; exact in_five8 x w h
    · exact in_rest8 x s w h h5
  by_cases h5 : s = 5
  · subst h5; exact in_five x v w h3 h8
  · exact in_rest x v s w h3 h8 h5
end Go.Proofs.Ytkkimkhkoiempaa.CH
