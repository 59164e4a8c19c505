/-
  For every two ints the Go function CheckedUndone, over the landed program, returns true and leaves its arguments and all old memory as they were. No condition.
-/
import Derived.Test.YtjcbjhnnmkmjkaaArith
import Derived.Test.YtjcbjhnnmkmjkaaDown
namespace Go.Proofs.Ytjcbjhnnmkmjkaa
open Go.ChangeShapes Go.WideShapes Go.ChangeAt Go.RowKit

theorem ansN_bd (z : Int) : -9223372036854775808 ≤ ansN z ∧ ansN z ≤ 9223372036854775807 := by unfold ansN; split <;> omega
theorem ansE_one (z : Int) : ansE z = 0 ∨ ansE z = 10 := by unfold ansE; split <;> simp
theorem ansE_ok (z : Int) (h : ansE z = 0) : (-9223372036854775808 ≤ z ∧ z ≤ 9223372036854775807) ∧ ansN z = z := by
  unfold ansE at h
  unfold ansN
  by_cases k : -9223372036854775808 ≤ z ∧ z ≤ 9223372036854775807
  · exact ⟨k, if_pos k⟩
  · rw [if_neg k] at h; exact absurd h (by decide)
theorem ans_in (z : Int) (k : -9223372036854775808 ≤ z ∧ z ≤ 9223372036854775807) : ansN z = z ∧ ansE z = 0 := by
  unfold ansN ansE; exact ⟨if_pos k, if_pos k⟩

set_option maxHeartbeats 1000000 in
theorem checkedUndone_walk (a b : Int) (a1 : -9223372036854775808 ≤ a) (a2 : a ≤ 9223372036854775807) (b1 : -9223372036854775808 ≤ b) (b2 : b ≤ 9223372036854775807) (w : World) :
    Calls Try.prog 8 #[.int .i64 a, .int .i64 b] w fun e w' => e = .returned (.bool true) ∧ Below w.heap.size w w' := by
  go_enter Try.func8, Try.ntmps8
  go_wp2_with fail
  refine (awake_any _).mono ?_
  rintro e w1 ⟨rfl, hb1⟩
  go_wp2_with fail
  refine (add_any a b _ a1 a2 b1 b2).mono ?_
  rintro e w2 ⟨rfl, hb2⟩
  go_wp2_with fail
  refine (add_any b a _ b1 b2 a1 a2).mono ?_
  rintro e w3 ⟨rfl, hb3⟩
  rw [Int.add_comm b a]
  go_wp2_with fail
  refine (mul_any a b _ a1 a2 b1 b2).mono ?_
  rintro e w4 ⟨rfl, hb4⟩
  go_wp2_with fail
  refine (mul_any b a _ b1 b2 a1 a2).mono ?_
  rintro e w5 ⟨rfl, hb5⟩
  rw [Int.mul_comm b a]
  have s1 := hb1.size
  have s2 := hb2.size
  have s3 := hb3.size
  have s4 := hb4.size
  have s5 := hb5.size
  have B5 : Below w.heap.size w w5 := (((hb1.trans (hb2.mono s1)).trans (hb3.mono (by omega))).trans (hb4.mono (by omega))).trans (hb5.mono (by omega))
  clear hb1 hb2 hb3 hb4 hb5
  have hE := ansE_one (a + b)
  have hS := fun h => ansE_ok (a + b) h
  have hA := ans_in a ⟨a1, a2⟩
  generalize ansN (a * b) = pn
  generalize ansE (a * b) = pe
  generalize hsn : ansN (a + b) = sn at *
  generalize hse : ansE (a + b) = se at *
  clear hsn hse
  rcases hE with rfl | rfl
  · obtain ⟨_, rfl⟩ := hS rfl
    clear hS
    go_wp2_with fail
    refine (sub_any (a + b) b _ (by omega) (by omega) b1 b2).mono ?_
    rintro e w6 ⟨rfl, hb6⟩
    rw [show a + b - b = a from by omega, hA.1, hA.2]
    clear hA
    go_wp2
    go_ret
    exact ⟨rfl, B5.trans (hb6.mono (by omega))⟩
  · clear hS hA
    go_wp2
    go_ret
    exact ⟨rfl, B5⟩

theorem checkedUndone_own : ownKnob Try.prog.godebug = none := by kernel_rfl
set_option maxRecDepth 100000 in
theorem checkedUndone_lifted (os : Os) (started : os.Started) (H : Type) (enc : TypeId × Value → H) :
    ReturnsInHanded {} Try.checked os 8 .any (Rows.checkedUndoneSpec.pre6 enc Try.prog Try.f8 Rows.checkedUndoneRow.domain false) (Rows.checkedUndoneSpec.post enc Try.prog Try.f8 false true false false) := by
  refine returnsInHanded_of_change (C := Try.checked) checkedUndone_own started (by kernel_rfl) Try.func8
    (ChangeSpec.witness6 (enc := enc) (C := Try.checked) false ⟨#[], #[.int .i64 0, .int .i64 0], []⟩ 8 (by kernel_rfl) (by kernel_rfl) (by kernel_rfl) (by kernel_rfl)) ?_
  intro W base args ds gs before hval0 hW hcnd _
  have hval : ∀ (j : Nat) t v, Try.f8.params[j]? = some t → args[j]? = some v → Value.okWide Try.prog W .any base t v := hval0
  have hW' := hW
  obtain ⟨p, q, hA0, hV, rfl, hfz, hnd⟩ := hW
  have hA : DataW.TrodAll enc Try.prog W 0 (fun _ => true) true Try.f8.params.toList args.toList ds p := hA0
  rw [Try.params8] at hA hval
  obtain ⟨v0, vs0, d0, ds0, p0, q0, hargs, rfl, rfl, h0, r0⟩ := trodAll_cons hA
  obtain ⟨v1, vs1, d1, ds1, p1, q1, rfl, rfl, rfl, h1, r1⟩ := trodAll_cons r0
  obtain ⟨rfl, rfl, rfl⟩ := trodAll_nil r1
  obtain rfl : args = #[v0, v1] := by cases args; simp_all
  obtain ⟨rfl, rfl⟩ := trodVars_none hV
  obtain ⟨a0, rfl, rfl, rfl, w0⟩ := open_int Try.underlying3 (hval 0 3 v0 rfl rfl) h0
  obtain ⟨a1, rfl, rfl, rfl, w1⟩ := open_int Try.underlying3 (hval 1 3 v1 rfl rfl) h1
  clear hA0 hval0
  simp only [List.append_nil] at hW'
  have b0 := bounds_i64 w0
  have b1 := bounds_i64 w1
  refine (checkedUndone_walk a0 a1 b0.1 b0.2 b1.1 b1.2 W).mono fun e W' ⟨he, bel⟩ => ?_
  subst he
  exact ⟨_, rfl, _, _, _, [], [], [], hW', trodAll_mk1 (shut_bool Try.underlying4 _), (trodAll_cons_mk (shut_int Try.underlying3 w0) (trodAll_cons_mk (shut_int Try.underlying3 w1) trodAll_mk0)), rfl, bel.frame _, fun h => by cases h⟩

/-- THE STATEMENT. -/
theorem checkedUndone_proved : Rows.CheckedUndoneSaid :=
  OpenClaim.holds_of_wide 8 Try.f8 rfl rfl rfl rfl rfl rfl rfl ⟨rfl, rfl, rfl, rfl, rfl⟩ rfl rfl rfl rfl rfl (by kernel_rfl) Try.func8 (by kernel_rfl)
    (of_decide_eq_true (by kernel_rfl)) (by unfold Func.isWrapper; first | (rw [if_pos (by decide +kernel)]; kernel_rfl) | (rw [if_neg (by decide +kernel)]; exact ⟨rfl, rfl⟩))
    (fun os started H enc _ => checkedUndone_lifted os started H enc)
#print axioms checkedUndone_proved

end Go.Proofs.Ytjcbjhnnmkmjkaa
