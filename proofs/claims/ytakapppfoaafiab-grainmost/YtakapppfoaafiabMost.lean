/-
  For every offer and every int the Go function GrainMost, over the landed program, returns true and leaves its arguments and all old memory as they were. No condition.
-/
import Derived.Test.YtakapppfoaafiabGMath
import Derived.Lib.SmallJoins
namespace Go.Proofs.Ytakapppfoaafiab
open Go.ChangeShapes Go.WideShapes Go.ChangeAt Go.RowKit

theorem worth_le (q p u : Int) (hu : woE q u = 0) (k : p ≤ u) : (woE q p = 2 ∧ p < 0) ∨ (woE q p = 0 ∧ woN q p ≤ woN q u) := by
  unfold woE at hu
  by_cases b : woBad q u
  · rw [if_pos b] at hu; exact absurd hu (by decide)
  · rw [if_neg b] at hu
    have a := ansE_ok _ hu
    unfold woBad at b
    by_cases c : p < 0
    · left; unfold woE; rw [if_pos (by unfold woBad; omega)]; exact ⟨rfl, c⟩
    · right
      have nb : ¬ woBad q p := by unfold woBad; omega
      have nb2 : ¬ woBad q u := by unfold woBad; omega
      have h1 : q * p ≤ q * u := Int.mul_le_mul_of_nonneg_left k (by omega)
      have h0 : 0 ≤ q * p := Int.mul_nonneg (by omega) (by omega)
      have z := ans_is (q * p) (by omega)
      unfold woE woN
      rw [if_neg nb, if_neg nb, if_neg nb2, z.1, z.2, a.2]
      exact ⟨rfl, h1⟩
theorem worth_zero (q u : Int) (h : woE q u ≠ 0) : woN q u = 0 := by
  unfold woE at h
  unfold woN
  by_cases b : woBad q u
  · rw [if_pos b]
  · rw [if_neg b] at h ⊢
    unfold ansE at h
    unfold ansN
    by_cases c : -9223372036854775808 ≤ q * u ∧ q * u ≤ 9223372036854775807
    · rw [if_pos c] at h; exact absurd rfl h
    · rw [if_neg c]
theorem worth_err (q u : Int) : woE q u = 0 ∨ woE q u = 2 ∨ woE q u = 10 := by
  unfold woE
  by_cases b : woBad q u
  · rw [if_pos b]; omega
  · rw [if_neg b]; have := ansE_one (q * u); omega

set_option maxHeartbeats 2000000 in
theorem most_skip (s l p h q : Int) (w : World) (k : ¬ (goodB s l p = true ∧ p ≤ h ∧ l ≤ h)) :
    Calls Try.prog 3 #[.agg #[.int .i64 s, .int .i64 l, .int .i64 p, .int .i64 h], .int .i64 q] w fun e w' => e = .returned (.bool true) ∧ Below w.heap.size w w' := by
  have G := good_any s l p
  by_cases c : goodB s l p = true
  · rw [c] at G
    have k2 : ¬ (p ≤ h ∧ l ≤ h) := fun x => k ⟨c, x⟩
    clear c k
    by_cases c2 : p ≤ h
    all_goals
      go_enter Try.func3, Try.ntmps3
      go_wp2_with fail
      refine (awake2_any _).mono ?_
      rintro e W ⟨rfl, hb1⟩
      have B1 : Below w.heap.size w W := ((Below.refl _ _).alloc (Nat.le_refl _) _).trans (hb1.mono (by simp))
      have p0 := hb1.cell (p := ⟨w.heap.size, 0, none⟩) (by simp)
      have p1 := hb1.cell (p := ⟨w.heap.size, 1, none⟩) (by simp)
      have p2 := hb1.cell (p := ⟨w.heap.size, 2, none⟩) (by simp)
      have p3 := hb1.cell (p := ⟨w.heap.size, 3, none⟩) (by simp)
      simp at p0 p1 p2 p3
      clear hb1
      go_wp2_with fail
      refine (G _).mono ?_
      rintro e w2 ⟨rfl, rfl⟩
      go_wp2
      go_ret
      exact ⟨rfl, B1⟩
  · rw [show goodB s l p = false by simpa using c] at G
    clear c k
    go_enter Try.func3, Try.ntmps3
    go_wp2_with fail
    refine (awake2_any _).mono ?_
    rintro e W ⟨rfl, hb1⟩
    have B1 : Below w.heap.size w W := ((Below.refl _ _).alloc (Nat.le_refl _) _).trans (hb1.mono (by simp))
    have p0 := hb1.cell (p := ⟨w.heap.size, 0, none⟩) (by simp)
    have p1 := hb1.cell (p := ⟨w.heap.size, 1, none⟩) (by simp)
    have p2 := hb1.cell (p := ⟨w.heap.size, 2, none⟩) (by simp)
    have p3 := hb1.cell (p := ⟨w.heap.size, 3, none⟩) (by simp)
    simp at p0 p1 p2 p3
    clear hb1
    go_wp2_with fail
    refine (G _).mono ?_
    rintro e w2 ⟨rfl, rfl⟩
    go_wp2
    go_ret
    exact ⟨rfl, B1⟩
set_option maxHeartbeats 2000000 in
theorem most_on (s l p h q u a b x y : Int) (w : World) (k1 : p ≤ h) (k2 : l ≤ h)
    (G : ∀ w, Calls Try.prog 5 #[.int .i64 s, .int .i64 l, .int .i64 p] w fun e w' => e = .returned (.bool true) ∧ w' = w)
    (F1 : ∀ w, Calls Try.prog 7 #[.int .i64 s, .int .i64 l, .int .i64 h] w fun e w' => e = .returned (.int .i64 u) ∧ w' = w)
    (F2 : ∀ w, Calls Try.prog 6 #[.int .i64 q, .int .i64 u] w fun e w' => e = .returned (.tuple #[.int .i64 a, .int .i64 b]) ∧ Below w.heap.size w w')
    (F3 : ∀ w, Calls Try.prog 6 #[.int .i64 q, .int .i64 p] w fun e w' => e = .returned (.tuple #[.int .i64 x, .int .i64 y]) ∧ Below w.heap.size w w')
    (c : (b = 2 ∨ b = 10) ∧ a = 0 ∨ b = 0 ∧ (y = 2 ∧ p < 0 ∨ y = 0 ∧ x ≤ a)) :
    Calls Try.prog 3 #[.agg #[.int .i64 s, .int .i64 l, .int .i64 p, .int .i64 h], .int .i64 q] w fun e w' => e = .returned (.bool true) ∧ Below w.heap.size w w' := by
  rcases c with ⟨rfl | rfl, rfl⟩ | ⟨rfl, ⟨rfl, c⟩ | ⟨rfl, c⟩⟩
  all_goals
    go_enter Try.func3, Try.ntmps3
    go_wp2_with fail
    refine (awake2_any _).mono ?_
    rintro e W ⟨rfl, hb1⟩
    have B1 : Below w.heap.size w W := ((Below.refl _ _).alloc (Nat.le_refl _) _).trans (hb1.mono (by simp))
    have p0 := hb1.cell (p := ⟨w.heap.size, 0, none⟩) (by simp)
    have p1 := hb1.cell (p := ⟨w.heap.size, 1, none⟩) (by simp)
    have p2 := hb1.cell (p := ⟨w.heap.size, 2, none⟩) (by simp)
    have p3 := hb1.cell (p := ⟨w.heap.size, 3, none⟩) (by simp)
    simp at p0 p1 p2 p3
    clear hb1
    go_wp2_with fail
    refine (G _).mono ?_
    rintro e w2 ⟨rfl, rfl⟩
    go_wp2_with fail
    refine (F1 _).mono ?_
    rintro e w3 ⟨rfl, rfl⟩
    go_wp2_with fail
    refine (F2 _).mono ?_
    rintro e V ⟨rfl, hb2⟩
    have q0 := (hb2.cell (World.block_lt_of_cell? _ _ p0)).trans p0
    have q1 := (hb2.cell (World.block_lt_of_cell? _ _ p1)).trans p1
    have q2 := (hb2.cell (World.block_lt_of_cell? _ _ p2)).trans p2
    have q3 := (hb2.cell (World.block_lt_of_cell? _ _ p3)).trans p3
    have B2 := B1.trans (hb2.mono B1.size)
    clear p0 p1 p2 p3 hb2
  · go_wp2
    go_ret
    exact ⟨rfl, B2⟩
  · go_wp2
    go_ret
    exact ⟨rfl, B2⟩
  · go_wp2_with fail
    refine (F3 _).mono ?_
    rintro e U ⟨rfl, hb3⟩
    have r2 := (hb3.cell (World.block_lt_of_cell? _ _ q2)).trans q2
    have B3 := B2.trans (hb3.mono B2.size)
    clear q0 q1 q2 q3 hb3
    go_wp2
    go_ret
    exact ⟨rfl, B3⟩
  · go_wp2_with fail
    refine (F3 _).mono ?_
    rintro e U ⟨rfl, hb3⟩
    have r2 := (hb3.cell (World.block_lt_of_cell? _ _ q2)).trans q2
    have B3 := B2.trans (hb3.mono B2.size)
    clear q0 q1 q2 q3 hb3
    go_wp2
    go_ret
    exact ⟨rfl, B3⟩
theorem grainMost_walk (s l p h q : Int) (w : World) :
    Calls Try.prog 3 #[.agg #[.int .i64 s, .int .i64 l, .int .i64 p, .int .i64 h], .int .i64 q] w fun e w' => e = .returned (.bool true) ∧ Below w.heap.size w w' := by
  by_cases k : goodB s l p = true ∧ p ≤ h ∧ l ≤ h
  · obtain ⟨k0, k1, k2⟩ := k
    refine most_on s l p h q (worstV s l h) (woN q (worstV s l h)) (woE q (worstV s l h)) (woN q p) (woE q p) w k1 k2 (fun w => ?_) (fun w => worst_any s l h w) (fun w => worth_any q _ w) (fun w => worth_any q p w) ?_
    · have := good_any s l p w; rwa [k0] at this
    · have kp : p ≤ worstV s l h := by
        unfold goodB at k0
        have := of_decide_eq_true k0
        unfold worstV
        split <;> omega
      by_cases c : woE q (worstV s l h) = 0
      · exact .inr ⟨c, worth_le q p _ c kp⟩
      · refine .inl ⟨?_, worth_zero q _ c⟩
        have := worth_err q (worstV s l h)
        omega
  · exact most_skip s l p h q w k

theorem grainMost_own : ownKnob Try.prog.godebug = none := by kernel_rfl
set_option maxRecDepth 100000 in
theorem grainMost_lifted (os : Os) (started : os.Started) (H : Type) (enc : TypeId × Value → H) :
    ReturnsInHanded {} Try.checked os 3 .any (Rows.grainMostSpec.pre6 enc Try.prog Try.f3 Rows.grainMostRow.domain false) (Rows.grainMostSpec.post enc Try.prog Try.f3 false true false false) := by
  refine returnsInHanded_of_change (C := Try.checked) grainMost_own started (by kernel_rfl) Try.func3
    (ChangeSpec.witness6 (enc := enc) (C := Try.checked) false ⟨#[], #[.agg #[.int .i64 0, .int .i64 0, .int .i64 0, .int .i64 0], .int .i64 0], []⟩ 8 (by kernel_rfl) (by kernel_rfl) (by kernel_rfl) (by kernel_rfl)) ?_
  intro W base args ds gs before hval0 hW hcnd _
  have hval : ∀ (j : Nat) t v, Try.f3.params[j]? = some t → args[j]? = some v → Value.okWide Try.prog W .any base t v := hval0
  have hW' := hW
  obtain ⟨p, q, hA0, hV, rfl, hfz, hnd⟩ := hW
  have hA : DataW.TrodAll enc Try.prog W 0 (fun _ => true) true Try.f3.params.toList args.toList ds p := hA0
  rw [Try.params3] at hA hval
  obtain ⟨v0, vs0, d0, ds0, p0, q0, hargs, rfl, rfl, h0, r0⟩ := trodAll_cons hA
  obtain ⟨v1, vs1, d1, ds1, p1, q1, rfl, rfl, rfl, h1, r1⟩ := trodAll_cons r0
  obtain ⟨rfl, rfl, rfl⟩ := trodAll_nil r1
  obtain rfl : args = #[v0, v1] := by cases args; simp_all
  obtain ⟨rfl, rfl⟩ := trodVars_none hV
  obtain ⟨x0, x1, x2, x3, y0, y1, y2, y3, m, rfl, rfl, rfl, hy0, hy1, hy2, hy3⟩ := Joins.open_agg4 Try.underlying23 (by kernel_rfl) (by kernel_rfl) (hval 0 23 v0 rfl rfl) h0
  obtain ⟨a, ea, rfl, wa⟩ := DataW.trod_int Try.underlying3 hy0
  obtain ⟨b, eb, rfl, wb⟩ := DataW.trod_int Try.underlying3 hy1
  obtain ⟨c, ec, rfl, wc⟩ := DataW.trod_int Try.underlying3 hy2
  obtain ⟨d, ed, rfl, wd⟩ := DataW.trod_int Try.underlying3 hy3
  simp only [List.cons.injEq, and_true] at ea eb ec ed
  subst ea eb ec ed
  obtain ⟨a1, rfl, rfl, rfl, w1⟩ := open_int Try.underlying3 (hval 1 3 v1 rfl rfl) h1
  clear hA0 hval0
  simp only [List.append_nil] at hW'
  refine (grainMost_walk a b c d a1 W).mono fun e W' ⟨he, bel⟩ => ?_
  subst he
  exact ⟨_, rfl, _, _, _, [], [], [], hW', trodAll_mk1 (shut_bool Try.underlying4 _), (trodAll_cons_mk (Joins.shut_agg4 (y0 := (.lit (.int .i64 a), [])) (y1 := (.lit (.int .i64 b), [])) (y2 := (.lit (.int .i64 c), [])) (y3 := (.lit (.int .i64 d), [])) Try.underlying23 (by kernel_rfl) (by kernel_rfl) ⟨1, by simp [DataW.trod, Try.underlying3, wa]⟩ ⟨1, by simp [DataW.trod, Try.underlying3, wb]⟩ ⟨1, by simp [DataW.trod, Try.underlying3, wc]⟩ ⟨1, by simp [DataW.trod, Try.underlying3, wd]⟩) (trodAll_cons_mk (shut_int Try.underlying3 w1) trodAll_mk0)), rfl, bel.frame _, fun h => by cases h⟩

/-- THE STATEMENT. -/
theorem grainMost_proved : Rows.GrainMostSaid :=
  OpenClaim.holds_of_wide 3 Try.f3 rfl rfl rfl rfl rfl rfl rfl ⟨rfl, rfl, rfl, rfl, rfl⟩ rfl rfl rfl rfl rfl (by kernel_rfl) Try.func3 (by kernel_rfl)
    (of_decide_eq_true (by kernel_rfl)) (by unfold Func.isWrapper; first | (rw [if_pos (by decide +kernel)]; kernel_rfl) | (rw [if_neg (by decide +kernel)]; exact ⟨rfl, rfl⟩))
    (fun os started H enc _ => grainMost_lifted os started H enc)
#print axioms grainMost_proved
end Go.Proofs.Ytakapppfoaafiab
