/-
  For every three ints the Go function CheckedShares, over the landed program, returns true and leaves its arguments and all old memory as they were. No condition.
-/
import Derived.Test.YtjcbjhnnmkmjkabAll
namespace Go.Proofs.Ytjcbjhnnmkmjkab
open Go.ChangeShapes Go.WideShapes Go.ChangeAt Go.RowKit

theorem share_facts (all part whole : Int) (h1 : 0 ≤ all) (h2 : 0 ≤ part) (h3 : part < whole) :
    0 ≤ all * part / whole ∧ all * part / whole ≤ all * (part + 1) / whole ∧ all * (part + 1) / whole ≤ all := by
  have hw : 0 < whole := by omega
  refine ⟨Int.ediv_nonneg (Int.mul_nonneg h1 h2) (by omega), Int.ediv_le_ediv hw (Int.mul_le_mul_of_nonneg_left (by omega) h1), ?_⟩
  have : all * (part + 1) ≤ all * whole := Int.mul_le_mul_of_nonneg_left (by omega) h1
  have := Int.ediv_le_ediv hw this
  rwa [Int.mul_ediv_cancel _ (by omega)] at this
set_option maxHeartbeats 1000000 in
theorem checkedShares_walk (a b c : Int) (a1 : -9223372036854775808 ≤ a) (a2 : a ≤ 9223372036854775807) (b1 : -9223372036854775808 ≤ b) (b2 : b ≤ 9223372036854775807) (c1 : -9223372036854775808 ≤ c) (c2 : c ≤ 9223372036854775807) (w : World) :
    Calls Try.prog 4 #[.int .i64 a, .int .i64 b, .int .i64 c] w fun e w' => e = .returned (.bool true) ∧ Below w.heap.size w w' := by
  by_cases h : 0 ≤ a ∧ 0 ≤ b ∧ b < c
  · obtain ⟨h1, h2, h3⟩ := h
    obtain ⟨g1, g2, g3⟩ := share_facts a b c h1 h2 h3
    have hc : (c == 0) = false := by simp; omega
    have p1 := frac_plain (a * b) c (Int.mul_nonneg h1 h2) (by omega)
    have p2 := frac_plain (a * (b + 1)) c (Int.mul_nonneg h1 (by omega)) (by omega)
    have q1 := ans_in (a * b / c) ⟨by omega, by omega⟩
    have q2 := ans_in (a * (b + 1) / c) ⟨by omega, by omega⟩
    have E1 : Hid (ansN (frac (a * b) c false) = a * b / c ∧ ansE (frac (a * b) c false) = 0) := by rw [p1]; exact q1
    have E2 : Hid (ansN (frac (a * (b + 1)) c false) = a * (b + 1) / c ∧ ansE (frac (a * (b + 1)) c false) = 0) := by rw [p2]; exact q2
    clear p1 p2 q1 q2
    have t1 : decide (a < 0) = false := by simp; omega
    have t2 : decide (b < 0) = false := by simp; omega
    have t3 : decide (c < 1) = false := by simp; omega
    have t4 : decide (c ≤ b) = false := by simp; omega
    go_enter Try.func4, Try.ntmps4
    go_wp2_with fail
    refine (awake_any _).mono ?_
    rintro e w1 ⟨rfl, hb1⟩
    have s1 := hb1.size
    go_wp2_with fail
    refine (downs a b c _ rfl _ a1 a2 b1 b2 c1 c2 hc).mono ?_
    rintro e w2 ⟨rfl, hb2⟩
    have s2 := hb2.size
    rw [E1.out.1, E1.out.2]
    go_wp2_with fail
    refine (downs a (b + 1) c _ rfl _ a1 a2 (by omega) (by omega) c1 c2 hc).mono ?_
    rintro e w3 ⟨rfl, hb3⟩
    rw [E2.out.1, E2.out.2]
    clear E1 E2
    generalize a * b / c = x at *
    generalize a * (b + 1) / c = y at *
    go_wp2
    go_ret
    exact ⟨rfl, (hb1.trans (hb2.mono s1)).trans (hb3.mono (by omega))⟩
  · go_enter Try.func4, Try.ntmps4
    go_wp2_with fail
    refine (awake_any _).mono ?_
    rintro e w1 ⟨rfl, hb1⟩
    by_cases t1 : a < 0
    · go_wp2
      go_ret
      exact ⟨rfl, hb1⟩
    · by_cases t2 : b < 0
      · go_wp2
        go_ret
        exact ⟨rfl, hb1⟩
      · by_cases t3 : c < 1
        · go_wp2
          go_ret
          exact ⟨rfl, hb1⟩
        · have t4 : c ≤ b := by omega
          go_wp2
          go_ret
          exact ⟨rfl, hb1⟩

theorem checkedShares_own : ownKnob Try.prog.godebug = none := by kernel_rfl
set_option maxRecDepth 100000 in
theorem checkedShares_lifted (os : Os) (started : os.Started) (H : Type) (enc : TypeId × Value → H) :
    ReturnsInHanded {} Try.checked os 4 .any (Rows.checkedSharesSpec.pre6 enc Try.prog Try.f4 Rows.checkedSharesRow.domain false) (Rows.checkedSharesSpec.post enc Try.prog Try.f4 false true false false) := by
  refine returnsInHanded_of_change (C := Try.checked) checkedShares_own started (by kernel_rfl) Try.func4
    (ChangeSpec.witness6 (enc := enc) (C := Try.checked) false ⟨#[], #[.int .i64 0, .int .i64 0, .int .i64 0], []⟩ 8 (by kernel_rfl) (by kernel_rfl) (by kernel_rfl) (by kernel_rfl)) ?_
  intro W base args ds gs before hval0 hW hcnd _
  have hval : ∀ (j : Nat) t v, Try.f4.params[j]? = some t → args[j]? = some v → Value.okWide Try.prog W .any base t v := hval0
  have hW' := hW
  obtain ⟨p, q, hA0, hV, rfl, hfz, hnd⟩ := hW
  have hA : DataW.TrodAll enc Try.prog W 0 (fun _ => true) true Try.f4.params.toList args.toList ds p := hA0
  rw [Try.params4] at hA hval
  obtain ⟨v0, vs0, d0, ds0, p0, q0, hargs, rfl, rfl, h0, r0⟩ := trodAll_cons hA
  obtain ⟨v1, vs1, d1, ds1, p1, q1, rfl, rfl, rfl, h1, r1⟩ := trodAll_cons r0
  obtain ⟨v2, vs2, d2, ds2, p2, q2, rfl, rfl, rfl, h2, r2⟩ := trodAll_cons r1
  obtain ⟨rfl, rfl, rfl⟩ := trodAll_nil r2
  obtain rfl : args = #[v0, v1, v2] := by cases args; simp_all
  obtain ⟨rfl, rfl⟩ := trodVars_none hV
  obtain ⟨a0, rfl, rfl, rfl, w0⟩ := open_int Try.underlying3 (hval 0 3 v0 rfl rfl) h0
  obtain ⟨a1, rfl, rfl, rfl, w1⟩ := open_int Try.underlying3 (hval 1 3 v1 rfl rfl) h1
  obtain ⟨a2, rfl, rfl, rfl, w2⟩ := open_int Try.underlying3 (hval 2 3 v2 rfl rfl) h2
  clear hA0 hval0
  simp only [List.append_nil] at hW'
  have b0 := bounds_i64 w0
  have b1 := bounds_i64 w1
  have b2 := bounds_i64 w2
  refine (checkedShares_walk a0 a1 a2 b0.1 b0.2 b1.1 b1.2 b2.1 b2.2 W).mono fun e W' ⟨he, bel⟩ => ?_
  subst he
  exact ⟨_, rfl, _, _, _, [], [], [], hW', trodAll_mk1 (shut_bool Try.underlying4 _), (trodAll_cons_mk (shut_int Try.underlying3 w0) (trodAll_cons_mk (shut_int Try.underlying3 w1) (trodAll_cons_mk (shut_int Try.underlying3 w2) trodAll_mk0))), rfl, bel.frame _, fun h => by cases h⟩

/-- THE STATEMENT. -/
theorem checkedShares_proved : Rows.CheckedSharesSaid :=
  OpenClaim.holds_of_wide 4 Try.f4 rfl rfl rfl rfl rfl rfl rfl ⟨rfl, rfl, rfl, rfl, rfl⟩ rfl rfl rfl rfl rfl (by kernel_rfl) Try.func4 (by kernel_rfl)
    (of_decide_eq_true (by kernel_rfl)) (by unfold Func.isWrapper; first | (rw [if_pos (by decide +kernel)]; kernel_rfl) | (rw [if_neg (by decide +kernel)]; exact ⟨rfl, rfl⟩))
    (fun os started H enc _ => checkedShares_lifted os started H enc)
#print axioms checkedShares_proved

end Go.Proofs.Ytjcbjhnnmkmjkab
