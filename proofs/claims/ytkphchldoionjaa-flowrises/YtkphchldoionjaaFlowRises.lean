/-
  For every quantity, rate and volume the Go function FlowRises, over the landed program, returns true and leaves all old memory as it was. No condition.
-/
import Derived.Test.YtkphchldoionjaaFlStep
import Derived.Test.YtkphchldoionjaaLess
import Derived.Test.YtkphchldoionjaaFrame3
namespace Go.Proofs.Ytkphchldoionjaa
open Go.ChangeShapes Go.WideShapes Go.ChangeAt Go.RowKit FL

theorem flowRises_idle (w : World) (q r v : Int) (h : 10000 ≤ r ∨ r < 0 ∨ 4611686018427387904 ≤ v ∨ v < 0) :
    Calls Try.prog 6 #[.int .i64 q, .int .i64 r, .int .i64 v] w fun e w' => e = .returned (.bool true) ∧ Below w.heap.size w w' := by
  by_cases h1 : 10000 ≤ r
  · clear h
    go_enter Try.func6, Try.ntmps6
    go_wp2_with fail
    refine (awake25_any _).mono ?_
    rintro e w1 ⟨rfl, hb1⟩
    go_wp2_with fail
    go_ret
    exact ⟨rfl, hb1⟩
  by_cases h2 : r < 0
  · clear h
    go_enter Try.func6, Try.ntmps6
    go_wp2_with fail
    refine (awake25_any _).mono ?_
    rintro e w1 ⟨rfl, hb1⟩
    go_wp2_with fail
    go_ret
    exact ⟨rfl, hb1⟩
  by_cases h3 : 4611686018427387904 ≤ v
  · clear h
    go_enter Try.func6, Try.ntmps6
    go_wp2_with fail
    refine (awake25_any _).mono ?_
    rintro e w1 ⟨rfl, hb1⟩
    go_wp2_with fail
    go_ret
    exact ⟨rfl, hb1⟩
  · have h4 : v < 0 := by omega
    clear h
    go_enter Try.func6, Try.ntmps6
    go_wp2_with fail
    refine (awake25_any _).mono ?_
    rintro e w1 ⟨rfl, hb1⟩
    go_wp2_with fail
    go_ret
    exact ⟨rfl, hb1⟩
set_option maxHeartbeats 1000000 in
theorem flowRises_walk (w : World) (q : Int) (_bq : -9223372036854775808 ≤ q ∧ q ≤ 9223372036854775807) (r : Int) (_br : -9223372036854775808 ≤ r ∧ r ≤ 9223372036854775807) (v : Int) (_bv : -9223372036854775808 ≤ v ∧ v ≤ 9223372036854775807) :
    Calls Try.prog 6 #[.int .i64 q, .int .i64 r, .int .i64 v] w fun e w' => e = .returned (.bool true) ∧ Below w.heap.size w w' := by
  by_cases hi : 10000 ≤ r ∨ r < 0 ∨ 4611686018427387904 ≤ v ∨ v < 0
  · exact flowRises_idle w q r v hi
  have t1 : ¬ 10000 ≤ r := by omega
  have t2 : ¬ r < 0 := by omega
  have t3 : ¬ 4611686018427387904 ≤ v := by omega
  have t4 : ¬ v < 0 := by omega
  have w1 : wrap64 (r + 1) = r + 1 := wrap_in _ (by omega) (by omega)
  have w2 : wrap64 (v + 1) = v + 1 := wrap_in _ (by omega) (by omega)
  have F1 := fun w => target_any q r v w
  have F2 := fun w => target_any q (r + 1) v w
  have F3 := fun w => target_any q r (v + 1) w
  cases hq : inB q 0 1099511627776
  · have bad : ∀ r v, tgN q r v = 0 ∧ tgE q r v = 2 := fun r v => by unfold tgN tgE fineB; rw [hq]; exact ⟨rfl, rfl⟩
    rw [(bad r v).1, (bad r v).2] at F1
    rw [(bad (r + 1) v).1, (bad (r + 1) v).2] at F2
    rw [(bad r (v + 1)).1, (bad r (v + 1)).2] at F3
    clear bad hi hq _bq _br _bv
    go_enter Try.func6, Try.ntmps6
    go_wp2_with fail
    refine (awake25_any _).mono ?_
    rintro e w3 ⟨rfl, hb1⟩
    go_wp2_with fail
    refine (F1 _).mono ?_
    rintro e w4 ⟨rfl, hb2⟩
    go_wp2_with fail
    refine (F2 _).mono ?_
    rintro e w5 ⟨rfl, hb3⟩
    go_wp2_with fail
    refine (F3 _).mono ?_
    rintro e w6 ⟨rfl, hb4⟩
    have s1 := hb1.size
    have s2 := hb2.size
    have s3 := hb3.size
    go_wp2_with fail
    go_ret
    exact ⟨rfl, ((hb1.trans (hb2.mono s1)).trans (hb3.mono (by omega))).trans (hb4.mono (by omega))⟩
  · have b := inB_iff.1 hq
    have f1 : Fine q r v := ⟨b.1, b.2, by omega, by omega, by omega, by omega⟩
    have f2 : Fine q (r + 1) v := ⟨b.1, b.2, by omega, by omega, by omega, by omega⟩
    have f3 : Fine q r (v + 1) := ⟨b.1, b.2, by omega, by omega, by omega, by omega⟩
    have good : ∀ r v, Fine q r v → tgN q r v = min (vol r v) q ∧ tgE q r v = 0 := fun r v h => by unfold tgN tgE; rw [of_fine h]; exact ⟨rfl, rfl⟩
    rw [(good _ _ f1).1, (good _ _ f1).2] at F1
    rw [(good _ _ f2).1, (good _ _ f2).2] at F2
    rw [(good _ _ f3).1, (good _ _ f3).2] at F3
    have p1 := part_bd f1
    have p2 : vol r v ≤ vol (r + 1) v := part_rate f1.v0
    have p3 : vol r v ≤ vol r (v + 1) := part_volume f1.r0
    have p4 := part_most f1
    obtain ⟨a, ha⟩ : ∃ a, min (vol r v) q = a := ⟨_, rfl⟩
    obtain ⟨b', hb'⟩ : ∃ a, min (vol (r + 1) v) q = a := ⟨_, rfl⟩
    obtain ⟨c, hc⟩ : ∃ a, min (vol r (v + 1)) q = a := ⟨_, rfl⟩
    have k0 : 0 ≤ a := by omega
    have k1 : a ≤ b' := by omega
    have k2 : a ≤ c := by omega
    have k3 : c ≤ q := by omega
    have k4 : b' ≤ q := by omega
    have k5 : decide (v * r < a * 10000) = false := decide_eq_false (by omega)
    have F4 := fun w => less_any v r a 10000 w (by omega) (by omega) (by omega) (by omega) (by omega) (by omega) (by omega) (by omega)
    rw [k5] at F4
    rw [ha] at F1
    rw [hb'] at F2
    rw [hc] at F3
    clear good hi hq _bq _br _bv f1 f2 f3 p1 p2 p3 p4 ha hb' hc k5 b
    go_enter Try.func6, Try.ntmps6
    go_wp2_with fail
    refine (awake25_any _).mono ?_
    rintro e w3 ⟨rfl, hb1⟩
    go_wp2_with fail
    refine (F1 _).mono ?_
    rintro e w4 ⟨rfl, hb2⟩
    go_wp2_with fail
    refine (F2 _).mono ?_
    rintro e w5 ⟨rfl, hb3⟩
    go_wp2_with fail
    refine (F3 _).mono ?_
    rintro e w6 ⟨rfl, hb4⟩
    go_wp2_with fail
    refine (F4 _).mono ?_
    rintro e w7 ⟨rfl, hb5⟩
    have s1 := hb1.size
    have s2 := hb2.size
    have s3 := hb3.size
    have s4 := hb4.size
    go_wp2_with fail
    go_ret
    exact ⟨rfl, (((hb1.trans (hb2.mono s1)).trans (hb3.mono (by omega))).trans (hb4.mono (by omega))).trans (hb5.mono (by omega))⟩
theorem flowRises_own : ownKnob Try.prog.godebug = none := by kernel_rfl
theorem flowRises_laidOut : laidOutB Try.prog = true := by kernel_rfl
set_option maxRecDepth 100000 in
theorem flowRises_lifted (os : Os) (started : os.Started) (H : Type) (enc : TypeId × Value → H) :
    ReturnsInHanded {} Try.checked os 6 .any (Rows.flowRisesSpec.pre6 enc Try.prog Try.f6 Rows.flowRisesRow.domain false) (Rows.flowRisesSpec.post enc Try.prog Try.f6 false true false false) := by
  refine returnsInHanded_of_change (C := Try.checked) flowRises_own started (by kernel_rfl) Try.func6
    (ChangeSpec.witness6 (enc := enc) (C := Try.checked) false ⟨#[], #[.int .i64 0, .int .i64 0, .int .i64 0], []⟩ 8 (by kernel_rfl) (by kernel_rfl) (by kernel_rfl) (by kernel_rfl)) ?_
  intro W base args ds gs before hval0 hW hcnd _
  have hval : ∀ (j : Nat) t v, Try.f6.params[j]? = some t → args[j]? = some v → Value.okWide Try.prog W .any base t v := hval0
  have hW' := hW
  obtain ⟨p, q, hA0, hV, rfl, hfz, hnd⟩ := hW
  have hA : DataW.TrodAll enc Try.prog W 0 (fun _ => true) true Try.f6.params.toList args.toList ds p := hA0
  rw [Try.params6] at hA hval
  obtain ⟨v0, vs0, d0, ds0, p0, q0, hargs, rfl, rfl, h0, r0⟩ := trodAll_cons hA
  obtain ⟨v1, vs1, d1, ds1, p1, q1, rfl, rfl, rfl, h1, r1⟩ := trodAll_cons r0
  obtain ⟨v2, vs2, d2, ds2, p2, q2, rfl, rfl, rfl, h2, r2⟩ := trodAll_cons r1
  obtain ⟨rfl, rfl, rfl⟩ := trodAll_nil r2
  obtain rfl : args = #[v0, v1, v2] := by cases args; simp_all
  obtain ⟨rfl, rfl⟩ := trodVars_none hV
  obtain ⟨a0, rfl, rfl, rfl, w0⟩ := open_int Try.underlying3 (hval 0 3 v0 rfl rfl) h0
  have bd0 := bounds_i64 w0
  obtain ⟨a1, rfl, rfl, rfl, w1⟩ := open_int Try.underlying3 (hval 1 3 v1 rfl rfl) h1
  have bd1 := bounds_i64 w1
  obtain ⟨a2, rfl, rfl, rfl, w2⟩ := open_int Try.underlying3 (hval 2 3 v2 rfl rfl) h2
  have bd2 := bounds_i64 w2
  clear hA0 hval0
  simp only [List.append_nil] at hW'
  refine (flowRises_walk W a0 bd0 a1 bd1 a2 bd2).mono fun e W' ⟨he, bel⟩ => ?_
  subst he
  exact ⟨_, rfl, _, _, _, [], _, [], hW', trodAll_mk1 (shut_bool Try.underlying4 _), (trodAll_cons_mk (shut_int Try.underlying3 w0) (trodAll_cons_mk (shut_int Try.underlying3 w1) (trodAll_cons_mk (shut_int Try.underlying3 w2) trodAll_mk0))), rfl, bel.frame _, fun h => by cases h⟩

/-- THE STATEMENT. -/
theorem flowRises_proved : Rows.FlowRisesSaid :=
  OpenClaim.holds_of_wide 6 Try.f6 rfl rfl rfl rfl rfl rfl rfl ⟨rfl, rfl, rfl, rfl, rfl⟩ rfl rfl rfl rfl rfl (by kernel_rfl) Try.func6 (by kernel_rfl)
    (of_decide_eq_true (by kernel_rfl)) (by unfold Func.isWrapper; first | (rw [if_pos (by decide +kernel)]; kernel_rfl) | (rw [if_neg (by decide +kernel)]; exact ⟨rfl, rfl⟩))
    (fun os started H enc _ => flowRises_lifted os started H enc)
#print axioms flowRises_proved
end Go.Proofs.Ytkphchldoionjaa
