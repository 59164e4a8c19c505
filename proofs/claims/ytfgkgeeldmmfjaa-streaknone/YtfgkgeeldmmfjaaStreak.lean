/-
  A streak in memory, and the contracts of streak's New, made, Note, Count, Tripped, Clear.
-/
import Derived.Test.YtfgkgeeldmmfjaaBut
namespace Go.Proofs.Ytfgkgeeldmmfjaa
open Go.ChangeShapes Go.WideShapes Go.ChangeAt Go.RowKit Go.Lib

/-- The world holds at block p a streak: its most, the last execution, how often it came, and whether it has tripped. -/
structure Str (w : World) (p most : Nat) (v q x : Int) (c : Nat) (t : Bool) : Prop where
  cmost : w.cell? ⟨p, 0, none⟩ = some (.int .i64 (most : Int))
  cv : w.cell? ⟨p, 1, none⟩ = some (.int .i64 v)
  cq : w.cell? ⟨p, 2, none⟩ = some (.int .i64 q)
  cx : w.cell? ⟨p, 3, none⟩ = some (.int .i64 x)
  cc : w.cell? ⟨p, 4, none⟩ = some (.int .i64 (c : Int))
  ct : w.cell? ⟨p, 5, none⟩ = some (.bool t)
  thaw : ∀ j, w.frozen? ⟨p, j, none⟩ = false
theorem Str.lt {w : World} {p most c : Nat} {v q x : Int} {t : Bool} (h : Str w p most v q x c t) : p < w.heap.size := World.block_lt_of_cell? _ _ h.cmost
theorem Str.kept {w w' : World} {p most c : Nat} {v q x : Int} {t : Bool} {T : Nat → Prop} (h : Str w p most v q x c t) (k : But T w w') (hT : ¬ T p) : Str w' p most v q x c t := by
  have hlt := h.lt
  exact ⟨by rw [k.cell hlt hT]; exact h.cmost, by rw [k.cell hlt hT]; exact h.cv, by rw [k.cell hlt hT]; exact h.cq, by rw [k.cell hlt hT]; exact h.cx, by rw [k.cell hlt hT]; exact h.cc, by rw [k.cell hlt hT]; exact h.ct, fun j => by rw [k.frozen hlt hT]; exact h.thaw j⟩
theorem Str.below {w w' : World} {p most c : Nat} {v q x : Int} {t : Bool} (h : Str w p most v q x c t) (k : Below w.heap.size w w') : Str w' p most v q x c t :=
  h.kept (T := fun _ => False) (But.of_below k) id
theorem Str.set1 {w : World} {p most c : Nat} {v q x : Int} {t : Bool} (h : Str w p most v q x c t) (y : Int) : Str (w.setCell ⟨p, 1, none⟩ (.int .i64 y)) p most y q x c t :=
  ⟨by rw [World.cell?_setCell_other _ _ _ _ (by simp)]; exact h.cmost, World.cell?_setCell_same' _ _ _ (by rw [h.cv]; rfl), by rw [World.cell?_setCell_other _ _ _ _ (by simp)]; exact h.cq, by rw [World.cell?_setCell_other _ _ _ _ (by simp)]; exact h.cx, by rw [World.cell?_setCell_other _ _ _ _ (by simp)]; exact h.cc, by rw [World.cell?_setCell_other _ _ _ _ (by simp)]; exact h.ct, fun j => by rw [World.frozen?_setCell]; exact h.thaw j⟩
theorem Str.set2 {w : World} {p most c : Nat} {v q x : Int} {t : Bool} (h : Str w p most v q x c t) (y : Int) : Str (w.setCell ⟨p, 2, none⟩ (.int .i64 y)) p most v y x c t :=
  ⟨by rw [World.cell?_setCell_other _ _ _ _ (by simp)]; exact h.cmost, by rw [World.cell?_setCell_other _ _ _ _ (by simp)]; exact h.cv, World.cell?_setCell_same' _ _ _ (by rw [h.cq]; rfl), by rw [World.cell?_setCell_other _ _ _ _ (by simp)]; exact h.cx, by rw [World.cell?_setCell_other _ _ _ _ (by simp)]; exact h.cc, by rw [World.cell?_setCell_other _ _ _ _ (by simp)]; exact h.ct, fun j => by rw [World.frozen?_setCell]; exact h.thaw j⟩
theorem Str.set3 {w : World} {p most c : Nat} {v q x : Int} {t : Bool} (h : Str w p most v q x c t) (y : Int) : Str (w.setCell ⟨p, 3, none⟩ (.int .i64 y)) p most v q y c t :=
  ⟨by rw [World.cell?_setCell_other _ _ _ _ (by simp)]; exact h.cmost, by rw [World.cell?_setCell_other _ _ _ _ (by simp)]; exact h.cv, by rw [World.cell?_setCell_other _ _ _ _ (by simp)]; exact h.cq, World.cell?_setCell_same' _ _ _ (by rw [h.cx]; rfl), by rw [World.cell?_setCell_other _ _ _ _ (by simp)]; exact h.cc, by rw [World.cell?_setCell_other _ _ _ _ (by simp)]; exact h.ct, fun j => by rw [World.frozen?_setCell]; exact h.thaw j⟩
theorem Str.set4 {w : World} {p most c : Nat} {v q x : Int} {t : Bool} (h : Str w p most v q x c t) (d : Nat) : Str (w.setCell ⟨p, 4, none⟩ (.int .i64 (d : Int))) p most v q x d t :=
  ⟨by rw [World.cell?_setCell_other _ _ _ _ (by simp)]; exact h.cmost, by rw [World.cell?_setCell_other _ _ _ _ (by simp)]; exact h.cv, by rw [World.cell?_setCell_other _ _ _ _ (by simp)]; exact h.cq, by rw [World.cell?_setCell_other _ _ _ _ (by simp)]; exact h.cx, World.cell?_setCell_same' _ _ _ (by rw [h.cc]; rfl), by rw [World.cell?_setCell_other _ _ _ _ (by simp)]; exact h.ct, fun j => by rw [World.frozen?_setCell]; exact h.thaw j⟩
theorem Str.set5 {w : World} {p most c : Nat} {v q x : Int} {t : Bool} (h : Str w p most v q x c t) (u : Bool) : Str (w.setCell ⟨p, 5, none⟩ (.bool u)) p most v q x c u :=
  ⟨by rw [World.cell?_setCell_other _ _ _ _ (by simp)]; exact h.cmost, by rw [World.cell?_setCell_other _ _ _ _ (by simp)]; exact h.cv, by rw [World.cell?_setCell_other _ _ _ _ (by simp)]; exact h.cq, by rw [World.cell?_setCell_other _ _ _ _ (by simp)]; exact h.cx, by rw [World.cell?_setCell_other _ _ _ _ (by simp)]; exact h.cc, World.cell?_setCell_same' _ _ _ (by rw [h.ct]; rfl), fun j => by rw [World.frozen?_setCell]; exact h.thaw j⟩
theorem Str.drewN {w : World} {p most c : Nat} {v q x : Int} {t : Bool} (h : Str w p most v q x c t) (m : Nat) : Str (w.drewN m) p most v q x c t := h.below (below_drewN _ _ _)
theorem Str.set0 {w : World} {p most c : Nat} {v q x : Int} {t : Bool} (h : Str w p most v q x c t) : Str (w.setCell ⟨p, 0, none⟩ (.int .i64 (most : Int))) p most v q x c t :=
  ⟨World.cell?_setCell_same' _ _ _ (by rw [h.cmost]; rfl), by rw [World.cell?_setCell_other _ _ _ _ (by simp)]; exact h.cv, by rw [World.cell?_setCell_other _ _ _ _ (by simp)]; exact h.cq, by rw [World.cell?_setCell_other _ _ _ _ (by simp)]; exact h.cx, by rw [World.cell?_setCell_other _ _ _ _ (by simp)]; exact h.cc, by rw [World.cell?_setCell_other _ _ _ _ (by simp)]; exact h.ct, fun j => by rw [World.frozen?_setCell]; exact h.thaw j⟩
theorem But.put {p : Nat} {a w : World} (h : But (fun k => k = p) a w) (o : Nat) (u : Value) : But (fun k => k = p) a (w.setCell ⟨p, o, none⟩ u) := h.setCell p o u (fun _ => rfl)
/-- A streak that is none. -/
def NoStr (w : World) (r : Value) : Prop := r = .pointer none ∨ ∃ b, r = .pointer (some ⟨b, 0, none⟩) ∧ w.cell? ⟨b, 0, none⟩ = some (.int .i64 0)

set_option maxHeartbeats 1000000 in
theorem new_no (most : Int) (w : World) (h : most < 2 ∨ 1024 < most) : Calls Try.prog 7 #[.int .i64 most] w fun e w' => e = .returned (.tuple #[.pointer none, .int .i64 2]) ∧ w' = w := by
  by_cases h1 : most < 2
  · go_enter Try.func7, Try.ntmps7
    go_wp2
    go_ret2
    exact ⟨rfl, rfl⟩
  · have h2 : 1024 < most := by omega
    go_enter Try.func7, Try.ntmps7
    go_wp2
    go_ret2
    exact ⟨rfl, rfl⟩
set_option maxHeartbeats 1000000 in
theorem new_yes (most : Nat) (w : World) (h1 : 2 ≤ most) (h2 : most ≤ 1024) : Calls Try.prog 7 #[.int .i64 (most : Int)] w fun e w' =>
    e = .returned (.tuple #[.pointer (some ⟨w.heap.size, 0, none⟩), .int .i64 0]) ∧ Str w' w.heap.size most 0 0 0 0 false ∧ Below w.heap.size w w' ∧ w'.heap.size = w.heap.size + 1 := by
  have t1 : ¬ (most : Int) < 2 := by omega
  have t2 : ¬ (1024 : Int) < (most : Int) := by omega
  go_enter Try.func7, Try.ntmps7
  go_wp2
  go_ret2
  exact ⟨rfl, ⟨by simp, by simp, by simp, by simp, by simp, by simp, fun j => by simp⟩, (Below.refl _ w).alloc (Nat.le_refl _) _, by simp⟩

theorem made_yes (p most : Nat) (w : World) (h : w.cell? ⟨p, 0, none⟩ = some (.int .i64 (most : Int))) (hr : 2 ≤ most) :
    Calls Try.prog 14 #[.pointer (some ⟨p, 0, none⟩)] w fun e w' => e = .returned (.bool true) ∧ w' = w := by
  have t : (0 : Int) < (most : Int) := by omega
  go_enter Try.func14, Try.ntmps14
  go_wp2
  go_ret
  exact ⟨by simp; omega, rfl⟩
theorem made_no {w : World} {r : Value} (h : NoStr w r) : Calls Try.prog 14 #[r] w fun e w' => e = .returned (.bool false) ∧ w' = w := by
  rcases h with rfl | ⟨b, rfl, h⟩
  · go_enter Try.func14, Try.ntmps14
    go_wp2
    go_ret
    exact ⟨rfl, rfl⟩
  · go_enter Try.func14, Try.ntmps14
    go_wp2
    go_ret
    exact ⟨by simp, rfl⟩
theorem count_any {w : World} {p most c : Nat} {v q x : Int} {t : Bool} (h : Str w p most v q x c t) (hm : 2 ≤ most) :
    Calls Try.prog 11 #[.pointer (some ⟨p, 0, none⟩)] w fun e w' => e = .returned (.int .i64 (c : Int)) ∧ w' = w := by
  have F1 := made_yes p most w h.cmost hm
  have hc := h.cc
  clear h
  go_enter Try.func11, Try.ntmps11
  go_wp2_with fail
  refine F1.mono ?_
  rintro e w1 ⟨rfl, rfl⟩
  go_wp2_with fail
  go_ret
  exact ⟨rfl, rfl⟩
theorem countN {w : World} {r : Value} (h : NoStr w r) : Calls Try.prog 11 #[r] w fun e w' => e = .returned (.int .i64 0) ∧ w' = w := by
  have F1 := made_no h
  go_enter Try.func11, Try.ntmps11
  go_wp2_with fail
  refine F1.mono ?_
  rintro e w1 ⟨rfl, rfl⟩
  go_wp2_with fail
  go_ret
  exact ⟨rfl, rfl⟩
theorem tripped_any {w : World} {p most c : Nat} {v q x : Int} {t : Bool} (h : Str w p most v q x c t) (hm : 2 ≤ most) :
    Calls Try.prog 13 #[.pointer (some ⟨p, 0, none⟩)] w fun e w' => e = .returned (.bool t) ∧ w' = w := by
  have F1 := made_yes p most w h.cmost hm
  have hc := h.ct
  clear h
  go_enter Try.func13, Try.ntmps13
  go_wp2_with fail
  refine F1.mono ?_
  rintro e w1 ⟨rfl, rfl⟩
  go_wp2_with fail
  go_ret
  exact ⟨rfl, rfl⟩
theorem trippedN {w : World} {r : Value} (h : NoStr w r) : Calls Try.prog 13 #[r] w fun e w' => e = .returned (.bool false) ∧ w' = w := by
  have F1 := made_no h
  go_enter Try.func13, Try.ntmps13
  go_wp2_with fail
  refine F1.mono ?_
  rintro e w1 ⟨rfl, rfl⟩
  go_wp2_with fail
  go_ret
  exact ⟨rfl, rfl⟩
theorem clear_any {w : World} {p most c : Nat} {v q x : Int} {t : Bool} (h : Str w p most v q x c t) (hm : 2 ≤ most) :
    Calls Try.prog 8 #[.pointer (some ⟨p, 0, none⟩)] w fun e w' => e = .returned (.tuple #[]) ∧ Str w' p most 0 0 0 0 false ∧ But (fun k => k = p) w w' := by
  have F1 := made_yes p most w h.cmost hm
  have HS : Hid (Str w p most v q x c t) := h
  obtain ⟨h0, h1, h2, h3, h4, h5, h6⟩ := h
  go_enter Try.func8, Try.ntmps8
  go_wp2_with fail
  refine F1.mono ?_
  rintro e w1 ⟨rfl, rfl⟩
  go_wp2_with fail
  go_end0
  exact ⟨rfl, (((((HS.out.set0).set1 0).set2 0).set3 0).set4 0).set5 false, ((((((But.refl _ _).put _ _).put _ _).put _ _).put _ _).put _ _).put _ _⟩
theorem clearN {w : World} {r : Value} (h : NoStr w r) : Calls Try.prog 8 #[r] w fun e w' => e = .returned (.tuple #[]) ∧ w' = w := by
  have F1 := made_no h
  go_enter Try.func8, Try.ntmps8
  go_wp2_with fail
  refine F1.mono ?_
  rintro e w1 ⟨rfl, rfl⟩
  go_wp2_with fail
  go_end0
  exact ⟨rfl, rfl⟩
/-- Two executions are held against each other part by part. -/
theorem exec_eq (a b c d e f : Int) (w : World) : (Op.equalIn 10000 39 (.agg #[.int .i64 a, .int .i64 b, .int .i64 c]) (.agg #[.int .i64 d, .int .i64 e, .int .i64 f])).run Try.prog w = .ok (decide (a = d ∧ b = e ∧ c = f)) w := by
  rw [show (10000 : Nat) = 9999 + 1 from rfl, run_equalIn_struct (P := Try.prog) w 9999 _ _ _ (by kernel_rfl) (by kernel_rfl)]
  simp [Program.fieldsOf, Try.underlying39, Op.eqFields, go_sem, Try.underlying3]
  by_cases h1 : a = d <;> by_cases h2 : b = e <;> by_cases h3 : c = f <;> simp [h1, h2, h3]
set_option maxRecDepth 100000 in
set_option maxHeartbeats 1000000 in
/-- The same again, and not too many. -/
theorem note_same {w : World} {p most c : Nat} {v q x : Int} {t : Bool} (h : Str w p most v q x c t) (hm : most ≤ 1024) (hc : c + 1 < most) :
    Calls Try.prog 9 #[.pointer (some ⟨p, 0, none⟩), .int .i64 v, .int .i64 q, .int .i64 x] w fun e w' => e = .returned (.bool t) ∧ Str w' p most v q x (c + 1) t ∧ But (fun k => k = p) w w' := by
  have F1 := made_yes p most w h.cmost (by omega)
  have lt := h.lt
  have HS : Hid (Str w p most v q x c t) := h
  obtain ⟨h0, h1, h2, h3, h4, h5, h6⟩ := h
  have E := fun w => exec_eq v q x v q x w
  rw [decide_eq_true ⟨rfl, rfl, rfl⟩] at E
  have t1 : decide ((most : Int) ≤ (c : Int) + 1) = false := decide_eq_false (by omega)
  have t2 : (c : Int) < 1000000 := by omega
  have t3 : 0 ≤ (c : Int) := by omega
  go_enter Try.func9, Try.ntmps9
  go_wp2_with fail
  refine F1.mono ?_
  rintro e w1 ⟨rfl, rfl⟩
  go_wp2_with fail
  go_quiet (fail)
  go_wp2_with fail
  go_quiet (fail)
  go_wp2_with fail
  go_ret
  have S0 := (HS.out.below ((Below.refl _ w1).alloc (Nat.le_refl _) (.cells #[.int .i64 v, .int .i64 q, .int .i64 x] 39)))
  have B0 := (But.refl (fun k => k = p) w1).alloc (.cells #[.int .i64 v, .int .i64 q, .int .i64 x] 39)
  exact ⟨by simp, ((S0.drewN _).set4 (c + 1)).drewN _, ((B0.drewN _).put _ _).drewN _⟩
set_option maxRecDepth 100000 in
set_option maxHeartbeats 1000000 in
/-- The same again, and too many. -/
theorem note_trip {w : World} {p most c : Nat} {v q x : Int} {t : Bool} (h : Str w p most v q x c t) (hm : 2 ≤ most) (hc : most ≤ c + 1) (hf : c < 1000000) :
    Calls Try.prog 9 #[.pointer (some ⟨p, 0, none⟩), .int .i64 v, .int .i64 q, .int .i64 x] w fun e w' => e = .returned (.bool true) ∧ Str w' p most v q x (c + 1) true ∧ But (fun k => k = p) w w' := by
  have F1 := made_yes p most w h.cmost (by omega)
  have lt := h.lt
  have HS : Hid (Str w p most v q x c t) := h
  obtain ⟨h0, h1, h2, h3, h4, h5, h6⟩ := h
  have E := fun w => exec_eq v q x v q x w
  rw [decide_eq_true ⟨rfl, rfl, rfl⟩] at E
  have t1 : decide ((most : Int) ≤ (c : Int) + 1) = true := decide_eq_true (by omega)
  have t2 : (c : Int) < 1000000 := by omega
  have t3 : 0 ≤ (c : Int) := by omega
  go_enter Try.func9, Try.ntmps9
  go_wp2_with fail
  refine F1.mono ?_
  rintro e w1 ⟨rfl, rfl⟩
  go_wp2_with fail
  go_quiet (fail)
  go_wp2_with fail
  go_quiet (fail)
  go_wp2_with fail
  go_ret
  have S0 := (HS.out.below ((Below.refl _ w1).alloc (Nat.le_refl _) (.cells #[.int .i64 v, .int .i64 q, .int .i64 x] 39)))
  have B0 := (But.refl (fun k => k = p) w1).alloc (.cells #[.int .i64 v, .int .i64 q, .int .i64 x] 39)
  exact ⟨by simp, (((S0.drewN _).set4 (c + 1)).drewN _).set5 true, (((B0.drewN _).put _ _).drewN _).put _ _⟩
set_option maxRecDepth 100000 in
set_option maxHeartbeats 1000000 in
/-- Another one: the count begins anew. -/
theorem note_other {w : World} {p most c : Nat} {v q x : Int} {t : Bool} (h : Str w p most v q x c t) (hm : 2 ≤ most) (v' q' x' : Int) (hd : ¬ (v' = v ∧ q' = q ∧ x' = x)) :
    Calls Try.prog 9 #[.pointer (some ⟨p, 0, none⟩), .int .i64 v', .int .i64 q', .int .i64 x'] w fun e w' => e = .returned (.bool t) ∧ Str w' p most v' q' x' 1 t ∧ But (fun k => k = p) w w' := by
  have F1 := made_yes p most w h.cmost (by omega)
  have lt := h.lt
  have HS : Hid (Str w p most v q x c t) := h
  obtain ⟨h0, h1, h2, h3, h4, h5, h6⟩ := h
  have E := fun w => exec_eq v' q' x' v q x w
  rw [decide_eq_false hd] at E
  clear hd
  have t1 : decide ((most : Int) ≤ 1) = false := decide_eq_false (by omega)
  go_enter Try.func9, Try.ntmps9
  go_wp2_with fail
  refine F1.mono ?_
  rintro e w1 ⟨rfl, rfl⟩
  go_wp2_with fail
  go_quiet (fail)
  go_wp2_with fail
  have S0 := (HS.out.below ((Below.refl _ w1).alloc (Nat.le_refl _) (.cells #[.int .i64 v', .int .i64 q', .int .i64 x'] 39)))
  have B0 := (But.refl (fun k => k = p) w1).alloc (.cells #[.int .i64 v', .int .i64 q', .int .i64 x'] 39)
  have S1 := (((((S0.drewN nq).set1 v').set2 q').set3 x').set4 0).set4 1
  have B1 := (((((B0.drewN nq).put 1 (.int .i64 v')).put 2 (.int .i64 q')).put 3 (.int .i64 x')).put 4 (.int .i64 0)).put 4 (.int .i64 1)
  obtain ⟨W, hW⟩ : ∃ W, W = ((((((w1.alloc (.cells #[.int .i64 v', .int .i64 q', .int .i64 x'] 39)).drewN nq).setCell ⟨p, 1, none⟩ (.int .i64 v')).setCell ⟨p, 2, none⟩ (.int .i64 q')).setCell ⟨p, 3, none⟩ (.int .i64 x')).setCell ⟨p, 4, none⟩ (.int .i64 0)).setCell ⟨p, 4, none⟩ (.int .i64 1) := ⟨_, rfl⟩
  have S1 : Str W p most v' q' x' 1 t := by rw [hW]; exact S1
  have B1 : But (fun k => k = p) w1 W := by rw [hW]; exact B1
  rw [← hW]
  clear hW S0 B0 h0 h1 h2 h3 h4 h5 h6 E
  have h0 := S1.cmost
  have h4 : W.cell? ⟨p, 4, none⟩ = some (.int .i64 1) := S1.cc
  have h5 := S1.ct
  go_quiet (fail)
  go_wp2_with fail
  go_ret
  exact ⟨by simp, S1.drewN _, B1.drewN _⟩
/-- The first of all is noted like any other. -/
theorem note_first {w : World} {p most : Nat} {t : Bool} (h : Str w p most 0 0 0 0 t) (hm : 2 ≤ most) (hM : most ≤ 1024) (v q x : Int) :
    Calls Try.prog 9 #[.pointer (some ⟨p, 0, none⟩), .int .i64 v, .int .i64 q, .int .i64 x] w fun e w' => e = .returned (.bool t) ∧ Str w' p most v q x 1 t ∧ But (fun k => k = p) w w' := by
  by_cases e : v = 0 ∧ q = 0 ∧ x = 0
  · obtain ⟨rfl, rfl, rfl⟩ := e
    exact note_same h hM (by omega)
  · exact note_other h hm v q x e
theorem noteN {w : World} {r : Value} (h : NoStr w r) (v q x : Int) : Calls Try.prog 9 #[r, .int .i64 v, .int .i64 q, .int .i64 x] w fun e w' => e = .returned (.bool false) ∧ w' = w := by
  have F1 := made_no h
  go_enter Try.func9, Try.ntmps9
  go_wp2_with fail
  refine F1.mono ?_
  rintro e w1 ⟨rfl, rfl⟩
  go_wp2_with fail
  go_ret
  exact ⟨rfl, rfl⟩
end Go.Proofs.Ytfgkgeeldmmfjaa
