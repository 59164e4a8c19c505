/-
  For every two ints the Go function CheckedProducts, over the landed program, returns true and leaves its arguments and all old memory as they were. No condition.
-/
import Derived.Test.YtjcbjhnnmkmjkaaRefTold
import Derived.Test.YtjcbjhnnmkmjkaaRefMul
import Derived.Test.YtjcbjhnnmkmjkaaArith
import Derived.Test.YtjcbjhnnmkmjkaaDown
namespace Go.Proofs.Ytjcbjhnnmkmjkaa
open Go.ChangeShapes Go.WideShapes Go.ChangeAt Go.RowKit

set_option maxHeartbeats 2000000 in
theorem checkedProducts_walk (a b : Int) (a1 : -9223372036854775808 ≤ a) (a2 : a ≤ 9223372036854775807) (b1 : -9223372036854775808 ≤ b) (b2 : b ≤ 9223372036854775807) (w : World) :
    Calls Try.prog 4 #[.int .i64 a, .int .i64 b] w fun e w' => e = .returned (.bool true) ∧ Below w.heap.size w w' := by
  go_enter Try.func4, Try.ntmps4
  go_wp2_with fail
  refine (awake_any _).mono ?_
  rintro e w1 ⟨rfl, hb1⟩
  have s1 := hb1.size
  go_wp2_with fail
  refine (mul_any a b _ a1 a2 b1 b2).mono ?_
  rintro e w2 ⟨rfl, hb2⟩
  have s2 := hb2.size
  go_wp2_with fail
  refine (of_any a _ a1 a2).mono ?_
  rintro e w3 ⟨va, rfl, hb3, la, r1, r2, r3, r4⟩
  have s3 := hb3.size
  go_wp2_with fail
  refine (of_any b _ b1 b2).mono ?_
  rintro e w4 ⟨vb, rfl, hb4, lb, k1, k2, k3, k4⟩
  have s4 := hb4.size
  have B4 : Below w.heap.size w w4 := ((hb1.trans (hb2.mono s1)).trans (hb3.mono (by omega))).trans (hb4.mono (by omega))
  have nx : IsNum w2.heap.size w4 (decide (a < 0)) va a 64 := ⟨rfl, la, r1.below hb4, r2, r3, r4⟩
  have ny : IsNum w3.heap.size w4 (decide (b < 0)) vb b 64 := ⟨rfl, lb, k1, k2, k3, k4⟩
  generalize decide (a < 0) = sa at *
  generalize decide (b < 0) = sb at *
  clear hb1 hb2 hb3 hb4 r1 r2 r3 r4 k1 k2 k3 k4
  go_wp2_with fail
  refine (mulR_any sa sb _ _ a b 64 64 _ nx ny (by decide) (by decide)).mono ?_
  rintro e w5 ⟨r5, v5, rfl, hb5, n5⟩
  have s5 := hb5.size
  go_wp2_with fail
  refine (toldR_any r5 v5 (a * b) _ _ n5).mono ?_
  rintro e w6 ⟨rfl, hb6⟩
  clear nx ny n5
  go_wp2_with fail
  refine (told_same _ _ _).mono ?_
  rintro e w7 ⟨rfl, rfl⟩
  go_wp2_with fail
  go_ret
  exact ⟨rfl, (B4.trans (hb5.mono (by omega))).trans (hb6.mono (by omega))⟩

theorem checkedProducts_own : ownKnob Try.prog.godebug = none := by kernel_rfl
set_option maxRecDepth 100000 in
theorem checkedProducts_lifted (os : Os) (started : os.Started) (H : Type) (enc : TypeId × Value → H) :
    ReturnsInHanded {} Try.checked os 4 .any (Rows.checkedProductsSpec.pre6 enc Try.prog Try.f4 Rows.checkedProductsRow.domain false) (Rows.checkedProductsSpec.post enc Try.prog Try.f4 false true false false) := by
  refine returnsInHanded_of_change (C := Try.checked) checkedProducts_own started (by kernel_rfl) Try.func4
    (ChangeSpec.witness6 (enc := enc) (C := Try.checked) false ⟨#[], #[.int .i64 0, .int .i64 0], []⟩ 8 (by kernel_rfl) (by kernel_rfl) (by kernel_rfl) (by kernel_rfl)) ?_
  intro W base args ds gs before hval0 hW hcnd _
  have hval : ∀ (j : Nat) t v, Try.f4.params[j]? = some t → args[j]? = some v → Value.okWide Try.prog W .any base t v := hval0
  have hW' := hW
  obtain ⟨p, q, hA0, hV, rfl, hfz, hnd⟩ := hW
  have hA : DataW.TrodAll enc Try.prog W 0 (fun _ => true) true Try.f4.params.toList args.toList ds p := hA0
  rw [Try.params4] at hA hval
  obtain ⟨v0, vs0, d0, ds0, p0, q0, hargs, rfl, rfl, h0, r0⟩ := trodAll_cons hA
  obtain ⟨v1, vs1, d1, ds1, p1, q1, rfl, rfl, rfl, h1, r1⟩ := trodAll_cons r0
  obtain ⟨rfl, rfl, rfl⟩ := trodAll_nil r1
  obtain rfl : args = #[v0, v1] := by cases args; simp_all
  obtain ⟨rfl, rfl⟩ := trodVars_none hV
  obtain ⟨a0, rfl, rfl, rfl, w0⟩ := open_int Try.underlying3 (hval 0 3 v0 rfl rfl) h0
  obtain ⟨a1, rfl, rfl, rfl, w1⟩ := open_int Try.underlying3 (hval 1 3 v1 rfl rfl) h1
  clear hA0 hval0
  simp only [List.append_nil] at hW'
  have b0 := bounds_i64 w0
  have b1 := bounds_i64 w1
  refine (checkedProducts_walk a0 a1 b0.1 b0.2 b1.1 b1.2 W).mono fun e W' ⟨he, bel⟩ => ?_
  subst he
  exact ⟨_, rfl, _, _, _, [], [], [], hW', trodAll_mk1 (shut_bool Try.underlying4 _), (trodAll_cons_mk (shut_int Try.underlying3 w0) (trodAll_cons_mk (shut_int Try.underlying3 w1) trodAll_mk0)), rfl, bel.frame _, fun h => by cases h⟩

/-- THE STATEMENT. -/
theorem checkedProducts_proved : Rows.CheckedProductsSaid :=
  OpenClaim.holds_of_wide 4 Try.f4 rfl rfl rfl rfl rfl rfl rfl ⟨rfl, rfl, rfl, rfl, rfl⟩ rfl rfl rfl rfl rfl (by kernel_rfl) Try.func4 (by kernel_rfl)
    (of_decide_eq_true (by kernel_rfl)) (by unfold Func.isWrapper; first | (rw [if_pos (by decide +kernel)]; kernel_rfl) | (rw [if_neg (by decide +kernel)]; exact ⟨rfl, rfl⟩))
    (fun os started H enc _ => checkedProducts_lifted os started H enc)
#print axioms checkedProducts_proved

end Go.Proofs.Ytjcbjhnnmkmjkaa
