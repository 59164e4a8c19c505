/-
  For every quantity and span the Go function PaceTwaps, over the landed program, returns true and leaves all old memory as it was. No condition.
-/
import Derived.Test.YtcjbokbdgpbjoaaPaLaws
namespace Go.Proofs.Ytcjbokbdgpbjoaa
open Go.ChangeShapes Go.WideShapes Go.ChangeAt Go.RowKit PA

set_option maxHeartbeats 1000000 in
theorem twaps_on (w : World) (qty st en nw x E : Int)
    (G : ∀ w, Calls Try.prog 9 #[.int .i64 qty, .int .i64 st, .int .i64 en, .int .i64 nw] w fun e w' => e = .returned (.tuple #[.int .i64 x, .int .i64 E]) ∧ Below w.heap.size w w')
    (R : ∀ w, Calls Try.prog 10 #[.int .i64 qty, .int .i64 st, .int .i64 en, .int .i64 nw] w fun e w' => e = .returned (.tuple #[.int .i64 x, .int .i64 E]) ∧ Below w.heap.size w w') :
    Calls Try.prog 3 #[.int .i64 qty, .agg #[.int .i64 st, .int .i64 en, .int .i64 nw]] w fun e w' => e = .returned (.bool true) ∧ Below w.heap.size w w' := by
  have A : ∀ (w : World) (o : Obj), Below w.heap.size w (w.alloc o) := fun w o => (Below.refl _ w).alloc (Nat.le_refl _) _
  go_enter Try.func3, Try.ntmps3
  go_wp2_with fail
  refine (awake24_any _).mono ?_
  rintro e w1 ⟨rfl, hb1⟩
  have B1 := (A w _).trans (hb1.mono (by simp))
  obtain ⟨c0, c1, c2⟩ := span_below (span_cells w (.int .i64 st) (.int .i64 en) (.int .i64 nw) 23) hb1
  clear hb1
  go_wp2_with fail
  refine (G _).mono ?_
  rintro e w2 ⟨rfl, hb2⟩
  have B2 := B1.trans (hb2.mono B1.size)
  obtain ⟨d0, d1, d2⟩ := span_below ⟨c0, c1, c2⟩ hb2
  clear hb2 B1 c0 c1 c2
  go_wp2_with fail
  refine (R _).mono ?_
  rintro e w3 ⟨rfl, hb3⟩
  have B3 := B2.trans (hb3.mono B2.size)
  clear hb3 B2 d0 d1 d2
  go_wp2_with fail
  go_ret
  exact ⟨by simp, B3⟩
theorem paceTwaps_walk (w : World) (qty : Int) (_b0 : -9223372036854775808 ≤ qty ∧ qty ≤ 9223372036854775807) (st : Int) (_c0 : -9223372036854775808 ≤ st ∧ st ≤ 9223372036854775807) (en : Int) (_c1 : -9223372036854775808 ≤ en ∧ en ≤ 9223372036854775807) (nw : Int) (_c2 : -9223372036854775808 ≤ nw ∧ nw ≤ 9223372036854775807) :
    Calls Try.prog 3 #[.int .i64 qty, .agg #[.int .i64 st, .int .i64 en, .int .i64 nw]] w fun e w' => e = .returned (.bool true) ∧ Below w.heap.size w w' := by
  by_cases h : pacE qty st en nw = 0
  · exact twaps_on w qty st en nw _ _ (fun w => twap_good qty st en nw w (fine_of h) _ rfl) (fun w => twapR_good qty st en nw w (fine_of h) _ rfl)
  · exact twaps_on w qty st en nw _ _ (fun w => twap_bad qty st en nw w _ rfl h) (fun w => twapR_bad qty st en nw w _ rfl h)
theorem paceTwaps_own : ownKnob Try.prog.godebug = none := by kernel_rfl
theorem paceTwaps_laidOut : laidOutB Try.prog = true := by kernel_rfl
set_option maxRecDepth 100000 in
theorem paceTwaps_lifted (os : Os) (started : os.Started) (H : Type) (enc : TypeId × Value → H) :
    ReturnsInHanded {} Try.checked os 3 .any (Rows.paceTwapsSpec.pre6 enc Try.prog Try.f3 Rows.paceTwapsRow.domain false) (Rows.paceTwapsSpec.post enc Try.prog Try.f3 false true false false) := by
  refine returnsInHanded_of_change (C := Try.checked) paceTwaps_own started (by kernel_rfl) Try.func3
    (ChangeSpec.witness6 (enc := enc) (C := Try.checked) false ⟨#[], #[.int .i64 0, .agg #[.int .i64 0, .int .i64 0, .int .i64 0]], []⟩ 8 (by kernel_rfl) (by kernel_rfl) (by kernel_rfl) (by kernel_rfl)) ?_
  intro W base args ds gs before hval0 hW hcnd _
  have hval : ∀ (j : Nat) t v, Try.f3.params[j]? = some t → args[j]? = some v → Value.okWide Try.prog W .any base t v := hval0
  have hW' := hW
  obtain ⟨p, q, hA0, hV, rfl, hfz, hnd⟩ := hW
  have hA : DataW.TrodAll enc Try.prog W 0 (fun _ => true) true Try.f3.params.toList args.toList ds p := hA0
  rw [Try.params3] at hA hval
  obtain ⟨v0, vs0, d0, ds0, p0, q0, hargs, rfl, rfl, h0, r0⟩ := trodAll_cons hA
  obtain ⟨v1, vs1, d1, ds1, p1, q1, rfl, rfl, rfl, h1, r1⟩ := trodAll_cons r0
  obtain ⟨rfl, rfl, rfl⟩ := trodAll_nil r1
  obtain rfl : args = #[v0, v1] := by cases args; simp_all
  obtain ⟨rfl, rfl⟩ := trodVars_none hV
  obtain ⟨a0, rfl, rfl, rfl, w0⟩ := open_int Try.underlying3 (hval 0 3 v0 rfl rfl) h0
  have bd0 := bounds_i64 w0
  obtain ⟨f10, f11, f12, y10, y11, y12, m1, rfl, rfl, rfl, g10, g11, g12⟩ := Joins.open_agg3 Try.underlying23 (by kernel_rfl) (by kernel_rfl) (hval 1 23 v1 rfl rfl) h1
  obtain ⟨x1, ex1, rfl, wx1⟩ := DataW.trod_int Try.underlying3 g10
  obtain ⟨y1, ey1, rfl, wy1⟩ := DataW.trod_int Try.underlying3 g11
  obtain ⟨z1, ez1, rfl, wz1⟩ := DataW.trod_int Try.underlying3 g12
  simp only [List.cons.injEq, and_true] at ex1 ey1 ez1
  subst ex1 ey1 ez1
  have bx1 := bounds_i64 wx1
  have by1 := bounds_i64 wy1
  have bz1 := bounds_i64 wz1
  clear hA0 hval0
  simp only [List.append_nil] at hW'
  refine (paceTwaps_walk W a0 bd0 x1 bx1 y1 by1 z1 bz1).mono fun e W' ⟨he, bel⟩ => ?_
  subst he
  exact ⟨_, rfl, _, _, _, [], _, [], hW', trodAll_mk1 (shut_bool Try.underlying4 _), (trodAll_cons_mk (shut_int Try.underlying3 w0) (trodAll_cons_mk (Joins.shut_agg3 (P := Try.prog) (y0 := (.lit (.int .i64 x1), [])) (y1 := (.lit (.int .i64 y1), [])) (y2 := (.lit (.int .i64 z1), [])) Try.underlying23 (by kernel_rfl) (by kernel_rfl) ⟨1, by simp [DataW.trod, Try.underlying3, wx1]⟩ ⟨1, by simp [DataW.trod, Try.underlying3, wy1]⟩ ⟨1, by simp [DataW.trod, Try.underlying3, wz1]⟩) trodAll_mk0)), rfl, bel.frame _, fun h => by cases h⟩

/-- THE STATEMENT. -/
theorem paceTwaps_proved : Rows.PaceTwapsSaid :=
  OpenClaim.holds_of_wide 3 Try.f3 rfl rfl rfl rfl rfl rfl rfl ⟨rfl, rfl, rfl, rfl, rfl⟩ rfl rfl rfl rfl rfl (by kernel_rfl) Try.func3 (by kernel_rfl)
    (of_decide_eq_true (by kernel_rfl)) (by unfold Func.isWrapper; first | (rw [if_pos (by decide +kernel)]; kernel_rfl) | (rw [if_neg (by decide +kernel)]; exact ⟨rfl, rfl⟩))
    (fun os started H enc _ => paceTwaps_lifted os started H enc)
#print axioms paceTwaps_proved
end Go.Proofs.Ytcjbokbdgpbjoaa
