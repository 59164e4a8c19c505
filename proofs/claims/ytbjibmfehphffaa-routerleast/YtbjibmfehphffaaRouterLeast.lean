/-
  A step is on both, and no lesser number is: for every two numbers.
-/
import Derived.Test.YtbjibmfehphffaaRoAwake
import Derived.ChangeOld
import Derived.ShutString
import Derived.Lib.SmallJoins
namespace Go.Proofs.Ytbjibmfehphffaa
open Go.ChangeShapes Go.WideShapes Go.ChangeAt Go.RowKit RO

set_option maxHeartbeats 1000000 in
theorem least_in (w : World) (A B : Nat) (ha : 1 ≤ A ∧ A ≤ 300) (hb : 1 ≤ B ∧ B ≤ 300) :
    Calls Try.prog 7 #[.int .i64 (A : Int), .int .i64 (B : Int)] w fun e w' => e = .returned (.bool true) ∧ Below w.heap.size w w' := by
  have hM : Nat.lcm A B ≤ 90000 := by
    have h1 : Nat.lcm A B ≤ A * B := by unfold Nat.lcm; exact Nat.div_le_self _ _
    have h2 : A * B ≤ 300 * 300 := Nat.mul_le_mul ha.2 hb.2
    omega
  have hp : 0 < Nat.lcm A B := Nat.lcm_pos (by omega) (by omega)
  have hdA : Nat.lcm A B % A = 0 := Nat.mod_eq_zero_of_dvd (Nat.dvd_lcm_left A B)
  have hdB : Nat.lcm A B % B = 0 := Nat.mod_eq_zero_of_dvd (Nat.dvd_lcm_right A B)
  have HL : Hid (∀ k, k * A < Nat.lcm A B → 1 ≤ k → ¬ (k * A) % B = 0) := by
    intro k h1 h2 h3
    have : Nat.lcm A B ∣ k * A := Nat.lcm_dvd ⟨k, Nat.mul_comm _ _⟩ (Nat.dvd_of_mod_eq_zero h3)
    have := Nat.le_of_dvd (Nat.mul_pos (by omega) (by omega)) this
    omega
  have F1 := fun w => step_any (A : Int) (B : Int) w (by omega) (by omega) (by omega) (by omega)
  have hN : stN (A : Int) (B : Int) = (Nat.lcm A B : Int) ∧ stE (A : Int) (B : Int) = 0 := by
    have e : stL (A : Int) (B : Int) = (Nat.lcm A B : Int) := by unfold stL; rw [Int.toNat_natCast, Int.toNat_natCast]
    unfold stN stE
    rw [if_neg (by unfold stBad; omega), if_neg (by unfold stBad; omega), e]
    exact ans_is _ (by omega)
  rw [hN.1, hN.2] at F1
  clear hN
  generalize Nat.lcm A B = n at *
  have F2 := fun w => on_any (n : Int) (A : Int) w (by omega) (by omega)
  have F3 := fun w => on_any (n : Int) (B : Int) w (by omega) (by omega)
  rw [show onB (n : Int) (A : Int) = true from decide_eq_true ⟨by unfold stepBad; omega, by omega⟩] at F2
  rw [show onB (n : Int) (B : Int) = true from decide_eq_true ⟨by unfold stepBad; omega, by omega⟩] at F3
  clear hdA hdB
  go_enter Try.func7, Try.ntmps7
  go_wp2_with fail
  refine (awake_any w).mono ?_
  rintro e w1 ⟨rfl, B1⟩
  go_wp2_with fail
  refine (F1 _).mono ?_
  rintro e w2 ⟨rfl, b2⟩
  have B2 := B1.trans (b2.mono B1.size)
  go_wp2_with fail
  refine (F2 _).mono ?_
  rintro e w3 ⟨rfl, b3⟩
  have B3 := B2.trans (b3.mono B2.size)
  go_wp2_with fail
  refine (F3 _).mono ?_
  rintro e w4 ⟨rfl, b4⟩
  have B4 : Hid (Below w.heap.size w w4) := B3.trans (b4.mono B3.size)
  clear F1 F2 F3 B1 B2 B3 b2 b3 b4
  go_wp2_with fail
  go_loopw [7] (fun x wr => ∃ k : Nat, x = .int .i64 ((k * A : Nat) : Int) ∧ 1 ≤ k ∧ k * A ≤ n + 300 ∧ wr = w4) (fun x _ => n + 300 - (RowKit.intOf x).toNat)
  case atStart => exact ⟨1, by rw [Nat.one_mul], Nat.le_refl _, by omega, rfl⟩
  case round =>
    obtain ⟨k, rfl, hk, hkn, rfl⟩ := hrel
    have e1 : (k + 1) * A = k * A + A := Nat.succ_mul k A
    have HL2 := HL.out k
    obtain ⟨m, hm⟩ : ∃ m, k * A = m := ⟨_, rfl⟩
    rw [hm] at hkn HL2 e1 ⊢
    have HM : Hid ((k + 1) * A = m + A) := e1
    have HK : Hid (1 ≤ k) := hk
    clear hm e1 hk
    by_cases hlt : m < n
    · have t : (m : Int) < (n : Int) := by omega
      have hmod := HL2 hlt HK.out
      have hr : ¬ (m : Int).tmod (B : Int) = 0 := by rw [Int.tmod_eq_emod_of_nonneg (by omega)]; omega
      have hr2 : ¬ (m : Int) % (B : Int) = 0 := by omega
      clear HL2 hmod
      go_wp2_with fail
      go_roundw
      case rel => exact ⟨k + 1, by rw [HM.out]; rfl, by omega, by rw [HM.out]; omega, trivial⟩
      case measure => simp [RowKit.intOf] <;> omega
    · have t : ¬ (m : Int) < (n : Int) := by omega
      clear HL2
      go_wp2_with fail
      go_ret
      exact ⟨rfl, B4.out⟩
theorem routerLeast_walk (w : World) (a : Int) (_ha : -9223372036854775808 ≤ a ∧ a ≤ 9223372036854775807) (b : Int) (_hb : -9223372036854775808 ≤ b ∧ b ≤ 9223372036854775807) :
    Calls Try.prog 7 #[.int .i64 a, .int .i64 b] w fun e w' => e = .returned (.bool true) ∧ Below w.heap.size w w' := by
  by_cases h1 : a < 1
  · go_enter Try.func7, Try.ntmps7
    go_wp2_with fail
    refine (awake_any w).mono ?_
    rintro e w1 ⟨rfl, B1⟩
    go_wp2_with fail
    go_ret
    exact ⟨rfl, B1⟩
  · by_cases h2 : b < 1
    · go_enter Try.func7, Try.ntmps7
      go_wp2_with fail
      refine (awake_any w).mono ?_
      rintro e w1 ⟨rfl, B1⟩
      go_wp2_with fail
      go_ret
      exact ⟨rfl, B1⟩
    · by_cases h3 : a > 300
      · have h3' : (300 : Int) < a := h3
        go_enter Try.func7, Try.ntmps7
        go_wp2_with fail
        refine (awake_any w).mono ?_
        rintro e w1 ⟨rfl, B1⟩
        go_wp2_with fail
        go_ret
        exact ⟨rfl, B1⟩
      · by_cases h4 : b > 300
        · have h4' : (300 : Int) < b := h4
          have h3' : ¬ (300 : Int) < a := h3
          go_enter Try.func7, Try.ntmps7
          go_wp2_with fail
          refine (awake_any w).mono ?_
          rintro e w1 ⟨rfl, B1⟩
          go_wp2_with fail
          go_ret
          exact ⟨rfl, B1⟩
        · obtain ⟨A, rfl⟩ : ∃ A : Nat, a = (A : Int) := ⟨a.toNat, by omega⟩
          obtain ⟨B, rfl⟩ : ∃ B : Nat, b = (B : Int) := ⟨b.toNat, by omega⟩
          exact least_in w A B (by omega) (by omega)
theorem routerLeast_own : ownKnob Try.prog.godebug = none := by kernel_rfl
theorem routerLeast_laidOut : laidOutB Try.prog = true := by kernel_rfl
set_option maxRecDepth 100000 in
theorem routerLeast_lifted (os : Os) (started : os.Started) (H : Type) (enc : TypeId × Value → H) :
    ReturnsInHanded {} Try.checked os 7 .any (Rows.routerLeastSpec.pre6 enc Try.prog Try.f7 Rows.routerLeastRow.domain false) (Rows.routerLeastSpec.post enc Try.prog Try.f7 false true false false) := by
  refine returnsInHanded_of_change (C := Try.checked) routerLeast_own started (by kernel_rfl) Try.func7
    (ChangeSpec.witness6 (enc := enc) (C := Try.checked) false ⟨#[], #[.int .i64 0, .int .i64 0], []⟩ 8 (by kernel_rfl) (by kernel_rfl) (by kernel_rfl) (by kernel_rfl)) ?_
  intro W base args ds gs before hval0 hW hcnd _
  have hval : ∀ (j : Nat) t v, Try.f7.params[j]? = some t → args[j]? = some v → Value.okWide Try.prog W .any base t v := hval0
  have hW' := hW
  obtain ⟨p, q, hA0, hV, rfl, hfz, hnd⟩ := hW
  have hA : DataW.TrodAll enc Try.prog W 0 (fun _ => true) true Try.f7.params.toList args.toList ds p := hA0
  rw [Try.params7] at hA hval
  obtain ⟨v0, vs0, d0, ds0, p0, q0, hargs, rfl, rfl, h0, r0⟩ := trodAll_cons hA
  obtain ⟨v1, vs1, d1, ds1, p1, q1, rfl, rfl, rfl, h1, r1⟩ := trodAll_cons r0
  obtain ⟨rfl, rfl, rfl⟩ := trodAll_nil r1
  obtain rfl : args = #[v0, v1] := by cases args; simp_all
  obtain ⟨rfl, rfl⟩ := trodVars_none hV
  obtain ⟨a0, rfl, rfl, rfl, w0⟩ := open_int Try.underlying3 (hval 0 3 v0 rfl rfl) h0
  have bd0 := bounds_i64 w0
  obtain ⟨a1, rfl, rfl, rfl, w1⟩ := open_int Try.underlying3 (hval 1 3 v1 rfl rfl) h1
  have bd1 := bounds_i64 w1
  clear hA0 hval0
  simp only [List.append_nil] at hW'
  refine (routerLeast_walk W a0 bd0 a1 bd1).mono fun e W' ⟨he, bel⟩ => ?_
  subst he
  exact ⟨_, rfl, _, _, _, [], _, [], hW', trodAll_mk1 (shut_bool Try.underlying4 _), (trodAll_cons_mk (shut_int Try.underlying3 w0) (trodAll_cons_mk (shut_int Try.underlying3 w1) trodAll_mk0)), rfl, bel.frame _, fun h => by cases h⟩

/-- THE STATEMENT. -/
theorem routerLeast_proved : Rows.RouterLeastSaid :=
  OpenClaim.holds_of_wide 7 Try.f7 rfl rfl rfl rfl rfl rfl rfl ⟨rfl, rfl, rfl, rfl, rfl⟩ rfl rfl rfl rfl rfl (by kernel_rfl) Try.func7 (by kernel_rfl)
    (of_decide_eq_true (by kernel_rfl)) (by unfold Func.isWrapper; first | (rw [if_pos (by decide +kernel)]; kernel_rfl) | (rw [if_neg (by decide +kernel)]; exact ⟨rfl, rfl⟩))
    (fun os started H enc _ => routerLeast_lifted os started H enc)
#print axioms routerLeast_proved
end Go.Proofs.Ytbjibmfehphffaa
