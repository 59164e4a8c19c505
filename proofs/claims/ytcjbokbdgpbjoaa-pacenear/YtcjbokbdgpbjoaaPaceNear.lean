/-
  For every target, lot and quantity the Go function PaceNear, over the landed program, returns true and leaves all old memory as it was. No condition.
-/
import Derived.Test.YtcjbokbdgpbjoaaPaLaws
namespace Go.Proofs.Ytcjbokbdgpbjoaa
open Go.ChangeShapes Go.WideShapes Go.ChangeAt Go.RowKit PA

set_option maxHeartbeats 1000000 in
theorem paceNear_walk (w : World) (target : Int) (_b0 : -9223372036854775808 ≤ target ∧ target ≤ 9223372036854775807) (lot : Int) (b1 : -9223372036854775808 ≤ lot ∧ lot ≤ 9223372036854775807) (qty : Int) (_b2 : -9223372036854775808 ≤ qty ∧ qty ≤ 9223372036854775807) :
    Calls Try.prog 7 #[.int .i64 target, .int .i64 lot, .int .i64 qty] w fun e w' => e = .returned (.bool true) ∧ Below w.heap.size w w' := by
  have G := fun w => goal_any target lot qty w b1.2
  by_cases hg : timeB qty = true ∧ inB target 0 qty = true ∧ 1 ≤ lot
  · obtain ⟨h1, h2, h3⟩ := hg
    have c1 := inB_iff.1 h1
    have c2 := inB_iff.1 h2
    have hf := ce_facts target lot h3 c2.1
    have e1 : goN target lot qty = min (ceV target lot) qty := by unfold goN; rw [h1, h2, decide_eq_true h3]; rfl
    have e2 : goE target lot qty = 0 := by unfold goE; rw [h1, h2, decide_eq_true h3]; rfl
    rw [e1, e2] at G
    have l2 : (lot == 0) = false := beq_false_of_ne (by omega)
    have l3 : ¬ lot = -1 := by omega
    obtain ⟨N, hN⟩ : ∃ N, min (ceV target lot) qty = N := ⟨_, rfl⟩
    have g1 : target ≤ N := by omega
    have g2 : N - target < lot := by omega
    have g3 : N ≤ qty := by omega
    rw [hN] at G
    by_cases hq : N = qty
    · subst hq
      clear hN hf h1 h2 e1 e2 _b0 b1 _b2
      go_enter Try.func7, Try.ntmps7
      go_wp2_with fail
      refine (awake24_any _).mono ?_
      rintro e w1 ⟨rfl, hb1⟩
      go_wp2_with fail
      refine (G _).mono ?_
      rintro e w2 ⟨rfl, hb2⟩
      go_wp2_with fail
      go_ret
      exact ⟨by simp, hb1.trans (hb2.mono hb1.size)⟩
    · have eN : N = ceV target lot := by omega
      have hT : N.tmod lot = 0 := by rw [Int.tmod_eq_emod_of_nonneg (by omega), eN]; exact hf.2.2.1
      have t2 : (N == qty) = false := beq_false_of_ne hq
      clear hN hf h1 h2 e1 e2 _b0 b1 _b2 eN
      go_enter Try.func7, Try.ntmps7
      go_wp2_with fail
      refine (awake24_any _).mono ?_
      rintro e w1 ⟨rfl, hb1⟩
      go_wp2_with fail
      refine (G _).mono ?_
      rintro e w2 ⟨rfl, hb2⟩
      go_wp2_with fail
      go_ret
      exact ⟨by simp, hb1.trans (hb2.mono hb1.size)⟩
  · have hx : (timeB qty && (inB target 0 qty && decide (1 ≤ lot))) = false := by
      cases h1 : timeB qty
      · rfl
      cases h2 : inB target 0 qty
      · rfl
      have : ¬ 1 ≤ lot := fun h3 => hg ⟨h1, h2, h3⟩
      simp [this]
    have e1 : goN target lot qty = 0 := by unfold goN; rw [hx]; rfl
    have e2 : goE target lot qty = 2 := by unfold goE; rw [hx]; rfl
    rw [e1, e2] at G
    clear hx e1 e2 hg _b0 b1 _b2
    go_enter Try.func7, Try.ntmps7
    go_wp2_with fail
    refine (awake24_any _).mono ?_
    rintro e w1 ⟨rfl, hb1⟩
    go_wp2_with fail
    refine (G _).mono ?_
    rintro e w2 ⟨rfl, hb2⟩
    go_wp2_with fail
    go_ret
    exact ⟨rfl, hb1.trans (hb2.mono hb1.size)⟩
theorem paceNear_own : ownKnob Try.prog.godebug = none := by kernel_rfl
theorem paceNear_laidOut : laidOutB Try.prog = true := by kernel_rfl
set_option maxRecDepth 100000 in
theorem paceNear_lifted (os : Os) (started : os.Started) (H : Type) (enc : TypeId × Value → H) :
    ReturnsInHanded {} Try.checked os 7 .any (Rows.paceNearSpec.pre6 enc Try.prog Try.f7 Rows.paceNearRow.domain false) (Rows.paceNearSpec.post enc Try.prog Try.f7 false true false false) := by
  refine returnsInHanded_of_change (C := Try.checked) paceNear_own started (by kernel_rfl) Try.func7
    (ChangeSpec.witness6 (enc := enc) (C := Try.checked) false ⟨#[], #[.int .i64 0, .int .i64 0, .int .i64 0], []⟩ 8 (by kernel_rfl) (by kernel_rfl) (by kernel_rfl) (by kernel_rfl)) ?_
  intro W base args ds gs before hval0 hW hcnd _
  have hval : ∀ (j : Nat) t v, Try.f7.params[j]? = some t → args[j]? = some v → Value.okWide Try.prog W .any base t v := hval0
  have hW' := hW
  obtain ⟨p, q, hA0, hV, rfl, hfz, hnd⟩ := hW
  have hA : DataW.TrodAll enc Try.prog W 0 (fun _ => true) true Try.f7.params.toList args.toList ds p := hA0
  rw [Try.params7] at hA hval
  obtain ⟨v0, vs0, d0, ds0, p0, q0, hargs, rfl, rfl, h0, r0⟩ := trodAll_cons hA
  obtain ⟨v1, vs1, d1, ds1, p1, q1, rfl, rfl, rfl, h1, r1⟩ := trodAll_cons r0
  obtain ⟨v2, vs2, d2, ds2, p2, q2, rfl, rfl, rfl, h2, r2⟩ := trodAll_cons r1
  obtain ⟨rfl, rfl, rfl⟩ := trodAll_nil r2
  obtain rfl : args = #[v0, v1, v2] := by cases args; simp_all
  obtain ⟨rfl, rfl⟩ := trodVars_none hV
  obtain ⟨a0, rfl, rfl, rfl, w0⟩ := open_int Try.underlying3 (hval 0 3 v0 rfl rfl) h0
  have bd0 := bounds_i64 w0
  obtain ⟨a1, rfl, rfl, rfl, w1⟩ := open_int Try.underlying3 (hval 1 3 v1 rfl rfl) h1
  have bd1 := bounds_i64 w1
  obtain ⟨a2, rfl, rfl, rfl, w2⟩ := open_int Try.underlying3 (hval 2 3 v2 rfl rfl) h2
  have bd2 := bounds_i64 w2
  clear hA0 hval0
  simp only [List.append_nil] at hW'
  refine (paceNear_walk W a0 bd0 a1 bd1 a2 bd2).mono fun e W' ⟨he, bel⟩ => ?_
  subst he
  exact ⟨_, rfl, _, _, _, [], _, [], hW', trodAll_mk1 (shut_bool Try.underlying4 _), (trodAll_cons_mk (shut_int Try.underlying3 w0) (trodAll_cons_mk (shut_int Try.underlying3 w1) (trodAll_cons_mk (shut_int Try.underlying3 w2) trodAll_mk0))), rfl, bel.frame _, fun h => by cases h⟩

/-- THE STATEMENT. -/
theorem paceNear_proved : Rows.PaceNearSaid :=
  OpenClaim.holds_of_wide 7 Try.f7 rfl rfl rfl rfl rfl rfl rfl ⟨rfl, rfl, rfl, rfl, rfl⟩ rfl rfl rfl rfl rfl (by kernel_rfl) Try.func7 (by kernel_rfl)
    (of_decide_eq_true (by kernel_rfl)) (by unfold Func.isWrapper; first | (rw [if_pos (by decide +kernel)]; kernel_rfl) | (rw [if_neg (by decide +kernel)]; exact ⟨rfl, rfl⟩))
    (fun os started H enc _ => paceNear_lifted os started H enc)
#print axioms paceNear_proved
end Go.Proofs.Ytcjbokbdgpbjoaa
