/-
  For every target, lot and quantity the Go function PaceGoals, over the landed program, returns true and leaves all old memory as it was. No condition.
-/
import Derived.Test.YtcjbokbdgpbjoaaPaAwake
import Derived.Test.YtcjbokbdgpbjoaaPaRef
import Derived.Test.YtcjbokbdgpbjoaaFrame3
namespace Go.Proofs.Ytcjbokbdgpbjoaa
open Go.ChangeShapes Go.WideShapes Go.ChangeAt Go.RowKit PA

set_option maxHeartbeats 1000000 in
theorem goalR_any (target lot qty : Int) (w : World) (l1 : lot ≤ 9223372036854775807) :
    Calls Try.prog 14 #[.int .i64 target, .int .i64 lot, .int .i64 qty] w fun e w' => e = .returned (.tuple #[.int .i64 (goN target lot qty), .int .i64 (goE target lot qty)]) ∧ w = w' := by
  have F1 : ∀ w, Calls Try.prog 25 #[.int .i64 qty, .int .i64 0, .int .i64 1099511627776] w fun e w' => e = .returned (.bool (timeB qty)) ∧ w = w' := fun w => in_any qty 0 1099511627776 w
  have F2 := fun w => in_any target 0 qty w
  unfold goN goE
  by_cases hl : lot < 1
  · have e0 : decide (1 ≤ lot) = false := decide_eq_false (by omega)
    rw [e0]
    simp only [Bool.and_false, Bool.false_eq_true, if_false]
    clear F1 F2 e0
    go_enter Try.func14, Try.ntmps14
    go_wp2_with fail
    go_ret2
    exact ⟨rfl, rfl⟩
  have e0 : decide (1 ≤ lot) = true := decide_eq_true (by omega)
  rw [e0]
  cases hp : timeB qty
  · rw [hp] at F1
    simp only [Bool.false_and, Bool.false_eq_true, if_false]
    clear hp F2 e0
    go_enter Try.func14, Try.ntmps14
    go_wp2_with fail
    refine (F1 _).mono ?_
    rintro e w1 ⟨rfl, rfl⟩
    go_wp2_with fail
    go_ret2
    exact ⟨rfl, rfl⟩
  rw [hp] at F1
  cases hq : inB target 0 qty
  · rw [hq] at F2
    simp only [Bool.false_and, Bool.and_false, Bool.false_eq_true, if_false]
    clear hp hq e0
    go_enter Try.func14, Try.ntmps14
    go_wp2_with fail
    refine (F1 _).mono ?_
    rintro e w1 ⟨rfl, rfl⟩
    go_wp2_with fail
    refine (F2 _).mono ?_
    rintro e w1 ⟨rfl, rfl⟩
    go_wp2_with fail
    go_ret2
    exact ⟨rfl, rfl⟩
  rw [hq] at F2
  have b1 := inB_iff.1 hp
  have b2 := inB_iff.1 hq
  have hf := ce_facts target lot (by omega) b2.1
  have m0 := Int.emod_nonneg target (by omega : lot ≠ 0)
  have m1 := Int.emod_lt_of_pos target (by omega : 0 < lot)
  have m2 : target % lot ≤ target := by
    by_cases hlt : target < lot
    · rw [Int.emod_eq_of_lt b2.1 hlt]; omega
    · omega
  obtain ⟨r, hr⟩ : ∃ r, target % lot = r := ⟨_, rfl⟩
  have hT : target.tmod lot = r := by rw [Int.tmod_eq_emod_of_nonneg b2.1]; exact hr
  obtain ⟨N, hN⟩ : ∃ N, Hid (min (ceV target lot) qty = N) := ⟨_, rfl⟩
  show Calls _ _ _ _ fun e w' => e = .returned (.tuple #[.int .i64 (min (ceV target lot) qty), .int .i64 0]) ∧ w = w'
  rw [hN.out]
  rw [hr] at hf m0 m1 m2
  replace hr : Hid (target % lot = r) := hr
  have l0 : lot ≠ 0 := by omega
  have l2 : (lot == 0) = false := beq_false_of_ne l0
  have l3 : ¬ lot = -1 := by omega
  by_cases hz : r = 0
  · have e1 : N = target := by rw [← hN.out, hf.2.2.2.1 hz]; omega
    subst e1
    subst hz
    clear hf hN hr hp hq e0 b1 b2 m0 m1 m2
    go_enter Try.func14, Try.ntmps14
    go_wp2_with fail
    refine (F1 _).mono ?_
    rintro e w1 ⟨rfl, rfl⟩
    go_wp2_with fail
    refine (F2 _).mono ?_
    rintro e w1 ⟨rfl, rfl⟩
    go_wp2_with fail
    go_ret2
    exact ⟨rfl, rfl⟩
  have hv := hf.2.2.2.2 hz
  by_cases hg : qty - target < lot - r
  · have e1 : N = qty := by rw [← hN.out, hv]; omega
    subst e1
    have t1 : ¬ r = 0 := hz
    clear hf hN hr hp hq e0 hv
    go_enter Try.func14, Try.ntmps14
    go_wp2_with fail
    refine (F1 _).mono ?_
    rintro e w1 ⟨rfl, rfl⟩
    go_wp2_with fail
    refine (F2 _).mono ?_
    rintro e w1 ⟨rfl, rfl⟩
    go_wp2_with fail
    go_ret2
    exact ⟨rfl, rfl⟩
  · have e1 : target - r + lot = N := by rw [← hN.out, hv]; omega
    have t1 : ¬ r = 0 := hz
    replace e1 : Hid (target - r + lot = N) := e1
    clear hf hN hr hp hq e0 hv
    go_enter Try.func14, Try.ntmps14
    go_wp2_with fail
    refine (F1 _).mono ?_
    rintro e w1 ⟨rfl, rfl⟩
    go_wp2_with fail
    refine (F2 _).mono ?_
    rintro e w1 ⟨rfl, rfl⟩
    go_wp2_with fail
    go_ret2
    exact ⟨by rw [e1.out]; rfl, rfl⟩

theorem paceGoals_walk (w : World) (target : Int) (_b0 : -9223372036854775808 ≤ target ∧ target ≤ 9223372036854775807) (lot : Int) (b1 : -9223372036854775808 ≤ lot ∧ lot ≤ 9223372036854775807) (qty : Int) (_b2 : -9223372036854775808 ≤ qty ∧ qty ≤ 9223372036854775807) :
    Calls Try.prog 5 #[.int .i64 target, .int .i64 lot, .int .i64 qty] w fun e w' => e = .returned (.bool true) ∧ Below w.heap.size w w' := by
  have G := fun w => goal_any target lot qty w b1.2
  have R := fun w => goalR_any target lot qty w b1.2
  generalize goN target lot qty = N at *
  generalize goE target lot qty = E at *
  clear b1 _b0 _b2
  go_enter Try.func5, Try.ntmps5
  go_wp2_with fail
  refine (awake24_any _).mono ?_
  rintro e w1 ⟨rfl, hb1⟩
  go_wp2_with fail
  refine (G _).mono ?_
  rintro e w2 ⟨rfl, hb2⟩
  go_wp2_with fail
  refine (R _).mono ?_
  rintro e w3 ⟨rfl, rfl⟩
  go_wp2_with fail
  go_ret
  exact ⟨by simp, hb1.trans (hb2.mono hb1.size)⟩
theorem paceGoals_own : ownKnob Try.prog.godebug = none := by kernel_rfl
theorem paceGoals_laidOut : laidOutB Try.prog = true := by kernel_rfl
set_option maxRecDepth 100000 in
theorem paceGoals_lifted (os : Os) (started : os.Started) (H : Type) (enc : TypeId × Value → H) :
    ReturnsInHanded {} Try.checked os 5 .any (Rows.paceGoalsSpec.pre6 enc Try.prog Try.f5 Rows.paceGoalsRow.domain false) (Rows.paceGoalsSpec.post enc Try.prog Try.f5 false true false false) := by
  refine returnsInHanded_of_change (C := Try.checked) paceGoals_own started (by kernel_rfl) Try.func5
    (ChangeSpec.witness6 (enc := enc) (C := Try.checked) false ⟨#[], #[.int .i64 0, .int .i64 0, .int .i64 0], []⟩ 8 (by kernel_rfl) (by kernel_rfl) (by kernel_rfl) (by kernel_rfl)) ?_
  intro W base args ds gs before hval0 hW hcnd _
  have hval : ∀ (j : Nat) t v, Try.f5.params[j]? = some t → args[j]? = some v → Value.okWide Try.prog W .any base t v := hval0
  have hW' := hW
  obtain ⟨p, q, hA0, hV, rfl, hfz, hnd⟩ := hW
  have hA : DataW.TrodAll enc Try.prog W 0 (fun _ => true) true Try.f5.params.toList args.toList ds p := hA0
  rw [Try.params5] at hA hval
  obtain ⟨v0, vs0, d0, ds0, p0, q0, hargs, rfl, rfl, h0, r0⟩ := trodAll_cons hA
  obtain ⟨v1, vs1, d1, ds1, p1, q1, rfl, rfl, rfl, h1, r1⟩ := trodAll_cons r0
  obtain ⟨v2, vs2, d2, ds2, p2, q2, rfl, rfl, rfl, h2, r2⟩ := trodAll_cons r1
  obtain ⟨rfl, rfl, rfl⟩ := trodAll_nil r2
  obtain rfl : args = #[v0, v1, v2] := by cases args; simp_all
  obtain ⟨rfl, rfl⟩ := trodVars_none hV
  obtain ⟨a0, rfl, rfl, rfl, w0⟩ := open_int Try.underlying3 (hval 0 3 v0 rfl rfl) h0
  have bd0 := bounds_i64 w0
  obtain ⟨a1, rfl, rfl, rfl, w1⟩ := open_int Try.underlying3 (hval 1 3 v1 rfl rfl) h1
  have bd1 := bounds_i64 w1
  obtain ⟨a2, rfl, rfl, rfl, w2⟩ := open_int Try.underlying3 (hval 2 3 v2 rfl rfl) h2
  have bd2 := bounds_i64 w2
  clear hA0 hval0
  simp only [List.append_nil] at hW'
  refine (paceGoals_walk W a0 bd0 a1 bd1 a2 bd2).mono fun e W' ⟨he, bel⟩ => ?_
  subst he
  exact ⟨_, rfl, _, _, _, [], _, [], hW', trodAll_mk1 (shut_bool Try.underlying4 _), (trodAll_cons_mk (shut_int Try.underlying3 w0) (trodAll_cons_mk (shut_int Try.underlying3 w1) (trodAll_cons_mk (shut_int Try.underlying3 w2) trodAll_mk0))), rfl, bel.frame _, fun h => by cases h⟩

/-- THE STATEMENT. -/
theorem paceGoals_proved : Rows.PaceGoalsSaid :=
  OpenClaim.holds_of_wide 5 Try.f5 rfl rfl rfl rfl rfl rfl rfl ⟨rfl, rfl, rfl, rfl, rfl⟩ rfl rfl rfl rfl rfl (by kernel_rfl) Try.func5 (by kernel_rfl)
    (of_decide_eq_true (by kernel_rfl)) (by unfold Func.isWrapper; first | (rw [if_pos (by decide +kernel)]; kernel_rfl) | (rw [if_neg (by decide +kernel)]; exact ⟨rfl, rfl⟩))
    (fun os started H enc _ => paceGoals_lifted os started H enc)
#print axioms paceGoals_proved
end Go.Proofs.Ytcjbokbdgpbjoaa
