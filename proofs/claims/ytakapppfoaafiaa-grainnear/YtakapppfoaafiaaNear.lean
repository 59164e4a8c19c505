/-
  For every two ints the Go function GrainNear, over the landed program, returns true and leaves its arguments and all old memory as they were. No condition.
-/
import Derived.Test.YtakapppfoaafiaaGMath
namespace Go.Proofs.Ytakapppfoaafiaa
open Go.ChangeShapes Go.WideShapes Go.ChangeAt Go.RowKit

theorem on_yes (n s : Int) (w : World) (h : ¬ stepBad n s) (k : n % s = 0) (n2 : n ≤ 9223372036854775807) (s2 : s ≤ 9223372036854775807) :
    Calls Try.prog 15 #[.int .i64 n, .int .i64 s] w fun e w' => e = .returned (.bool true) ∧ Below w.heap.size w w' := by
  have := on_any n s w n2 s2
  rwa [show onB n s = true by unfold onB; simp [h, k]] at this
set_option maxHeartbeats 1000000 in
theorem near_bad (n s : Int) (w : World) (h : stepBad n s) :
    Calls Try.prog 7 #[.int .i64 n, .int .i64 s] w fun e w' => e = .returned (.bool true) ∧ Below w.heap.size w w' := by
  unfold stepBad at h
  by_cases k : n < 0
  all_goals
    go_enter Try.func7, Try.ntmps7
    go_wp2_with fail
    refine (awake2_any _).mono ?_
    rintro e w1 ⟨rfl, hb1⟩
    go_wp2
    go_ret
    exact ⟨rfl, hb1⟩
set_option maxHeartbeats 1000000 in
theorem near_good (n s f c d : Int) (w : World) (hn : 0 ≤ n) (hs : 1 ≤ s) (n2 : n ≤ 9223372036854775807)
    (F1 : ∀ w, Calls Try.prog 10 #[.int .i64 n, .int .i64 s] w fun e w' => e = .returned (.tuple #[.int .i64 f, .int .i64 0]) ∧ Below w.heap.size w w')
    (F2 : ∀ w, Calls Try.prog 11 #[.int .i64 n, .int .i64 s] w fun e w' => e = .returned (.tuple #[.int .i64 c, .int .i64 d]) ∧ Below w.heap.size w w')
    (F3 : ∀ w, Calls Try.prog 15 #[.int .i64 f, .int .i64 s] w fun e w' => e = .returned (.bool true) ∧ Below w.heap.size w w')
    (F4 : ∀ w, Calls Try.prog 15 #[.int .i64 n, .int .i64 s] w fun e w' => e = .returned (.bool (f == n)) ∧ Below w.heap.size w w')
    (F5 : d = 0 → ∀ w, Calls Try.prog 15 #[.int .i64 c, .int .i64 s] w fun e w' => e = .returned (.bool true) ∧ Below w.heap.size w w')
    (f0 : 0 ≤ f) (f1 : f ≤ n) (f2 : n - f < s) (hd : d = 0 ∧ n ≤ c ∧ c - n < s ∧ c ≤ 9223372036854775807 ∨ d = 10) :
    Calls Try.prog 7 #[.int .i64 n, .int .i64 s] w fun e w' => e = .returned (.bool true) ∧ Below w.heap.size w w' := by
  rcases hd with ⟨rfl, c1, c2, c3⟩ | rfl
  · have F6 := F5 rfl
    clear F5
    go_enter Try.func7, Try.ntmps7
    go_wp2_with fail
    refine (awake2_any _).mono ?_
    rintro e w1 ⟨rfl, hb1⟩
    go_wp2_with fail
    refine (F1 _).mono ?_
    rintro e w2 ⟨rfl, hb2⟩
    go_wp2_with fail
    refine (F2 _).mono ?_
    rintro e w3 ⟨rfl, hb3⟩
    go_wp2_with fail
    refine (F3 _).mono ?_
    rintro e w4 ⟨rfl, hb4⟩
    go_wp2_with fail
    refine (F4 _).mono ?_
    rintro e w5 ⟨rfl, hb5⟩
    go_wp2_with fail
    refine (F6 _).mono ?_
    rintro e w6 ⟨rfl, hb6⟩
    go_wp2
    go_ret
    have B2 := hb1.trans (hb2.mono hb1.size)
    have B3 := B2.trans (hb3.mono B2.size)
    have B4 := B3.trans (hb4.mono B3.size)
    have B5 := B4.trans (hb5.mono B4.size)
    exact ⟨rfl, B5.trans (hb6.mono B5.size)⟩
  · clear F5
    go_enter Try.func7, Try.ntmps7
    go_wp2_with fail
    refine (awake2_any _).mono ?_
    rintro e w1 ⟨rfl, hb1⟩
    go_wp2_with fail
    refine (F1 _).mono ?_
    rintro e w2 ⟨rfl, hb2⟩
    go_wp2_with fail
    refine (F2 _).mono ?_
    rintro e w3 ⟨rfl, hb3⟩
    go_wp2_with fail
    refine (F3 _).mono ?_
    rintro e w4 ⟨rfl, hb4⟩
    go_wp2_with fail
    refine (F4 _).mono ?_
    rintro e w5 ⟨rfl, hb5⟩
    go_wp2
    go_ret
    have B2 := hb1.trans (hb2.mono hb1.size)
    have B3 := B2.trans (hb3.mono B2.size)
    have B4 := B3.trans (hb4.mono B3.size)
    exact ⟨rfl, B4.trans (hb5.mono B4.size)⟩
theorem grainNear_walk (n s : Int) (_n1 : -9223372036854775808 ≤ n) (n2 : n ≤ 9223372036854775807) (_s1 : -9223372036854775808 ≤ s) (s2 : s ≤ 9223372036854775807) (w : World) :
    Calls Try.prog 7 #[.int .i64 n, .int .i64 s] w fun e w' => e = .returned (.bool true) ∧ Below w.heap.size w w' := by
  by_cases h : stepBad n s
  · exact near_bad n s w h
  · have h' := h
    unfold stepBad at h'
    have hn : 0 ≤ n := by omega
    have hs : 1 ≤ s := by omega
    have b := floor_bd n s hn hs
    have c := ceV_bd n s hs
    refine near_good n s (n - n % s) (ansN (ceV n s)) (ansE (ceV n s)) w hn hs n2 ?_ ?_ ?_ ?_ ?_ b.1 b.2.1 b.2.2 ?_
    · intro w
      have := floor_any n s w n2 s2
      rwa [show flN n s = n - n % s from if_neg h, show flE n s = 0 from if_neg h] at this
    · intro w
      have := ceil_any n s w n2 s2
      rwa [show ceN n s = _ from if_neg h, show ceE n s = _ from if_neg h] at this
    · exact fun w => on_yes _ s w (by unfold stepBad; omega) (floor_on n s) (by omega) s2
    · intro w
      have := on_any n s w n2 s2
      rwa [show onB n s = (n - n % s == n) by unfold onB; rw [Bool.eq_iff_iff]; simp [h]; omega] at this
    · intro k w
      have q := ansE_ok _ k
      rw [q.2]
      exact on_yes _ s w (by unfold stepBad; omega) (ceV_on n s hs) (by omega) s2
    · by_cases k : ceV n s ≤ 9223372036854775807
      · have q := ans_is (ceV n s) (by omega)
        rw [q.1, q.2]; omega
      · right; unfold ansE; rw [if_neg (by omega)]
theorem grainNear_own : ownKnob Try.prog.godebug = none := by kernel_rfl
set_option maxRecDepth 100000 in
theorem grainNear_lifted (os : Os) (started : os.Started) (H : Type) (enc : TypeId × Value → H) :
    ReturnsInHanded {} Try.checked os 7 .any (Rows.grainNearSpec.pre6 enc Try.prog Try.f7 Rows.grainNearRow.domain false) (Rows.grainNearSpec.post enc Try.prog Try.f7 false true false false) := by
  refine returnsInHanded_of_change (C := Try.checked) grainNear_own started (by kernel_rfl) Try.func7
    (ChangeSpec.witness6 (enc := enc) (C := Try.checked) false ⟨#[], #[.int .i64 0, .int .i64 0], []⟩ 8 (by kernel_rfl) (by kernel_rfl) (by kernel_rfl) (by kernel_rfl)) ?_
  intro W base args ds gs before hval0 hW hcnd _
  have hval : ∀ (j : Nat) t v, Try.f7.params[j]? = some t → args[j]? = some v → Value.okWide Try.prog W .any base t v := hval0
  have hW' := hW
  obtain ⟨p, q, hA0, hV, rfl, hfz, hnd⟩ := hW
  have hA : DataW.TrodAll enc Try.prog W 0 (fun _ => true) true Try.f7.params.toList args.toList ds p := hA0
  rw [Try.params7] at hA hval
  obtain ⟨v0, vs0, d0, ds0, p0, q0, hargs, rfl, rfl, h0, r0⟩ := trodAll_cons hA
  obtain ⟨v1, vs1, d1, ds1, p1, q1, rfl, rfl, rfl, h1, r1⟩ := trodAll_cons r0
  obtain ⟨rfl, rfl, rfl⟩ := trodAll_nil r1
  obtain rfl : args = #[v0, v1] := by cases args; simp_all
  obtain ⟨rfl, rfl⟩ := trodVars_none hV
  obtain ⟨a0, rfl, rfl, rfl, w0⟩ := open_int Try.underlying3 (hval 0 3 v0 rfl rfl) h0
  obtain ⟨a1, rfl, rfl, rfl, w1⟩ := open_int Try.underlying3 (hval 1 3 v1 rfl rfl) h1
  clear hA0 hval0
  simp only [List.append_nil] at hW'
  have b0 := bounds_i64 w0
  have b1 := bounds_i64 w1
  refine (grainNear_walk a0 a1 b0.1 b0.2 b1.1 b1.2 W).mono fun e W' ⟨he, bel⟩ => ?_
  subst he
  exact ⟨_, rfl, _, _, _, [], [], [], hW', trodAll_mk1 (shut_bool Try.underlying4 _), (trodAll_cons_mk (shut_int Try.underlying3 w0) (trodAll_cons_mk (shut_int Try.underlying3 w1) trodAll_mk0)), rfl, bel.frame _, fun h => by cases h⟩

/-- THE STATEMENT. -/
theorem grainNear_proved : Rows.GrainNearSaid :=
  OpenClaim.holds_of_wide 7 Try.f7 rfl rfl rfl rfl rfl rfl rfl ⟨rfl, rfl, rfl, rfl, rfl⟩ rfl rfl rfl rfl rfl (by kernel_rfl) Try.func7 (by kernel_rfl)
    (of_decide_eq_true (by kernel_rfl)) (by unfold Func.isWrapper; first | (rw [if_pos (by decide +kernel)]; kernel_rfl) | (rw [if_neg (by decide +kernel)]; exact ⟨rfl, rfl⟩))
    (fun os started H enc _ => grainNear_lifted os started H enc)
#print axioms grainNear_proved

end Go.Proofs.Ytakapppfoaafiaa
