/-
  SumJoins: two texts, one behind the other, have their sums' sum; what is no sum is refused. For every two texts and every number, no condition.
-/
import Derived.Test.YtihcbainolichaaSumAwake
namespace Go.Proofs.Ytihcbainolichaa
open Go.ChangeShapes Go.WideShapes Go.ChangeAt Go.RowKit Go.Lib

theorem join_list (a b : ByteArray) : (a ++ b).data.toList = a.data.toList ++ b.data.toList := by simp
set_option maxRecDepth 1000000 in
set_option maxHeartbeats 4000000 in
theorem sumJoins_main (w : World) (a b : ByteArray) (n : Int) (ha : a.size ≤ 10000) (hb : b.size ≤ 10000) (x y : Int) (bad : Bool)
    (F4 : ∀ w, Calls Try.prog 19 #[.int .i64 n, .int .i64 0] w fun e w' => e = .returned (.tuple #[.int .i64 x, .int .i64 (if bad then 2 else 0)]) ∧ w' = w)
    (F5 : ∀ w, Calls Try.prog 19 #[.int .i64 0, .int .i64 n] w fun e w' => e = .returned (.tuple #[.int .i64 y, .int .i64 (if bad then 2 else 0)]) ∧ w' = w)
    (hbad : bad = decide (n < 0 ∨ 255 < n)) :
    Calls Try.prog 6 #[.string a, .string b, .int .i64 n] w fun e w' => e = .returned (.bool true) ∧ Below w.heap.size w w' := by
  have F0 := awake9_any w
  have F1 := fun w => sum_any a w (by unfold maxLen; omega)
  have F2 := fun w => sum_any b w (by unfold maxLen; omega)
  have hz : (a ++ b).size = a.size + b.size := by simp
  have F6 := fun w => sum_any (a ++ b) w (by unfold maxLen; omega)
  rw [join_list, ← sum_join] at F6
  have hA := sumL_lt a.data.toList
  have hB := sumL_lt b.data.toList
  generalize sumL a.data.toList = A at *
  generalize sumL b.data.toList = B at *
  have F3 := fun w => join_yes A B w (by omega) (by omega)
  generalize ((A + B) % 256 : Nat) = S at *
  have tS : ((S : Int) == (S : Int)) = true := by simp
  have t1 : ¬ (10000 : Int) < (a.size : Int) := by omega
  have t2 : ¬ (10000 : Int) < (b.size : Int) := by omega
  clear hA hB hz
  cases bad
  · have h := of_decide_eq_false hbad.symm
    have k1 : ¬ n < 0 := by omega
    have k2 : ¬ (255 : Int) < n := by omega
    clear h hbad
    go_enter Try.func6, Try.ntmps6
    go_wp2_with fail
    refine F0.mono ?_
    rintro e w1 ⟨rfl, hb1⟩
    go_wp2_with fail
    refine (F1 _).mono ?_
    rintro e w2 ⟨rfl, rfl⟩
    go_wp2_with fail
    refine (F2 _).mono ?_
    rintro e w2 ⟨rfl, rfl⟩
    go_wp2_with fail
    refine (F3 _).mono ?_
    rintro e w2 ⟨rfl, rfl⟩
    go_wp2_with fail
    refine (F4 _).mono ?_
    rintro e w2 ⟨rfl, rfl⟩
    go_wp2_with fail
    refine (F5 _).mono ?_
    rintro e w2 ⟨rfl, rfl⟩
    go_wp2_with fail
    refine (F6 _).mono ?_
    rintro e w2 ⟨rfl, rfl⟩
    go_wp2_with fail
    go_ret
    exact ⟨by first | rfl | (simp; done) | (simp; omega), hb1⟩
  · have h := of_decide_eq_true hbad.symm
    clear hbad
    by_cases k1 : n < 0
    · clear h
      go_enter Try.func6, Try.ntmps6
      go_wp2_with fail
      refine F0.mono ?_
      rintro e w1 ⟨rfl, hb1⟩
      go_wp2_with fail
      refine (F1 _).mono ?_
      rintro e w2 ⟨rfl, rfl⟩
      go_wp2_with fail
      refine (F2 _).mono ?_
      rintro e w2 ⟨rfl, rfl⟩
      go_wp2_with fail
      refine (F3 _).mono ?_
      rintro e w2 ⟨rfl, rfl⟩
      go_wp2_with fail
      refine (F4 _).mono ?_
      rintro e w2 ⟨rfl, rfl⟩
      go_wp2_with fail
      refine (F5 _).mono ?_
      rintro e w2 ⟨rfl, rfl⟩
      go_wp2_with fail
      refine (F6 _).mono ?_
      rintro e w2 ⟨rfl, rfl⟩
      go_wp2_with fail
      go_ret
      exact ⟨by first | rfl | (simp; done) | (simp; omega), hb1⟩
    · have k2 : (255 : Int) < n := by omega
      clear h
      go_enter Try.func6, Try.ntmps6
      go_wp2_with fail
      refine F0.mono ?_
      rintro e w1 ⟨rfl, hb1⟩
      go_wp2_with fail
      refine (F1 _).mono ?_
      rintro e w2 ⟨rfl, rfl⟩
      go_wp2_with fail
      refine (F2 _).mono ?_
      rintro e w2 ⟨rfl, rfl⟩
      go_wp2_with fail
      refine (F3 _).mono ?_
      rintro e w2 ⟨rfl, rfl⟩
      go_wp2_with fail
      refine (F4 _).mono ?_
      rintro e w2 ⟨rfl, rfl⟩
      go_wp2_with fail
      refine (F5 _).mono ?_
      rintro e w2 ⟨rfl, rfl⟩
      go_wp2_with fail
      refine (F6 _).mono ?_
      rintro e w2 ⟨rfl, rfl⟩
      go_wp2_with fail
      go_ret
      exact ⟨by first | rfl | (simp; done) | (simp; omega), hb1⟩
set_option maxHeartbeats 1000000 in
theorem sumJoins_walk (w : World) (a : ByteArray) (ha : a.size ≤ maxLen) (b : ByteArray) (hb : b.size ≤ maxLen) (n : Int) (_hn : -9223372036854775808 ≤ n ∧ n ≤ 9223372036854775807) :
    Calls Try.prog 6 #[.string a, .string b, .int .i64 n] w fun e w' => e = .returned (.bool true) ∧ Below w.heap.size w w' := by
  unfold maxLen at ha hb
  by_cases h1 : 10000 < a.size
  · have t : (10000 : Int) < (a.size : Int) := by omega
    have F0 := awake9_any w
    go_enter Try.func6, Try.ntmps6
    go_wp2_with fail
    refine F0.mono ?_
    rintro e w1 ⟨rfl, hb1⟩
    go_wp2_with fail
    go_ret
    exact ⟨rfl, hb1⟩
  by_cases h2 : 10000 < b.size
  · have t0 : ¬ (10000 : Int) < (a.size : Int) := by omega
    have t : (10000 : Int) < (b.size : Int) := by omega
    have F0 := awake9_any w
    go_enter Try.func6, Try.ntmps6
    go_wp2_with fail
    refine F0.mono ?_
    rintro e w1 ⟨rfl, hb1⟩
    go_wp2_with fail
    go_ret
    exact ⟨rfl, hb1⟩
  by_cases hr : 0 ≤ n ∧ n ≤ 255
  · obtain ⟨k, rfl⟩ := Int.eq_ofNat_of_zero_le hr.1
    exact sumJoins_main w a b k (by omega) (by omega) _ _ false (fun w => join_yes k 0 w (by omega) (by omega)) (fun w => join_yes 0 k w (by omega) (by omega)) (decide_eq_false (by omega)).symm
  · exact sumJoins_main w a b n (by omega) (by omega) _ _ true (fun w => join_no n 0 w (fun h => hr h.1)) (fun w => join_no 0 n w (fun h => hr h.2)) (decide_eq_true (by omega)).symm

theorem sumJoins_own : ownKnob Try.prog.godebug = none := by kernel_rfl
theorem sumJoins_laidOut : laidOutB Try.prog = true := by kernel_rfl
set_option maxRecDepth 100000 in
theorem sumJoins_lifted (os : Os) (started : os.Started) (H : Type) (enc : TypeId × Value → H) :
    ReturnsInHanded {} Try.checked os 6 .any (Rows.sumJoinsSpec.pre6 enc Try.prog Try.f6 Rows.sumJoinsRow.domain false) (Rows.sumJoinsSpec.post enc Try.prog Try.f6 false true false false) := by
  refine returnsInHanded_of_change (C := Try.checked) sumJoins_own started (by kernel_rfl) Try.func6
    (ChangeSpec.witness6 (enc := enc) (C := Try.checked) false ⟨#[], #[.string ⟨#[]⟩, .string ⟨#[]⟩, .int .i64 0], []⟩ 8 (by kernel_rfl) (by kernel_rfl) (by kernel_rfl) (by kernel_rfl)) ?_
  intro W base args ds gs before hval0 hW hcnd _
  have hval : ∀ (j : Nat) t v, Try.f6.params[j]? = some t → args[j]? = some v → Value.okWide Try.prog W .any base t v := hval0
  have hW' := hW
  obtain ⟨p, q, hA0, hV, rfl, hfz, hnd⟩ := hW
  have hA : DataW.TrodAll enc Try.prog W 0 (fun _ => true) true Try.f6.params.toList args.toList ds p := hA0
  rw [Try.params6] at hA hval
  obtain ⟨v0, vs0, d0, ds0, p0, q0, hargs, rfl, rfl, h0, r0⟩ := trodAll_cons hA
  obtain ⟨v1, vs1, d1, ds1, p1, q1, rfl, rfl, rfl, h1, r1⟩ := trodAll_cons r0
  obtain ⟨v2, vs2, d2, ds2, p2, q2, rfl, rfl, rfl, h2, r2⟩ := trodAll_cons r1
  obtain ⟨rfl, rfl, rfl⟩ := trodAll_nil r2
  obtain rfl : args = #[v0, v1, v2] := by cases args; simp_all
  obtain ⟨rfl, rfl⟩ := trodVars_none hV
  obtain ⟨s0, rfl, rfl, rfl, w0⟩ := Go.ChangeMaps.open_string Try.underlying9 (hval 0 9 v0 rfl rfl) h0
  obtain ⟨s1, rfl, rfl, rfl, w1⟩ := Go.ChangeMaps.open_string Try.underlying9 (hval 1 9 v1 rfl rfl) h1
  obtain ⟨a2, rfl, rfl, rfl, w2⟩ := open_int Try.underlying3 (hval 2 3 v2 rfl rfl) h2
  have bd2 := bounds_i64 w2
  clear hA0 hval0
  simp only [List.append_nil] at hW'
  refine (sumJoins_walk W s0 w0 s1 w1 a2 bd2).mono fun e W' ⟨he, bel⟩ => ?_
  subst he
  exact ⟨_, rfl, _, _, _, [], _, [], hW', trodAll_mk1 (shut_bool Try.underlying4 _), (trodAll_cons_mk (Go.ChangeMaps.shut_string Try.underlying9 w0) (trodAll_cons_mk (Go.ChangeMaps.shut_string Try.underlying9 w1) (trodAll_cons_mk (shut_int Try.underlying3 w2) trodAll_mk0))), rfl, bel.frame _, fun h => by cases h⟩

/-- THE STATEMENT. -/
theorem sumJoins_proved : Rows.SumJoinsSaid :=
  OpenClaim.holds_of_wide 6 Try.f6 rfl rfl rfl rfl rfl rfl rfl ⟨rfl, rfl, rfl, rfl, rfl⟩ rfl rfl rfl rfl rfl (by kernel_rfl) Try.func6 (by kernel_rfl)
    (of_decide_eq_true (by kernel_rfl)) (by unfold Func.isWrapper; first | (rw [if_pos (by decide +kernel)]; kernel_rfl) | (rw [if_neg (by decide +kernel)]; exact ⟨rfl, rfl⟩))
    (fun os started H enc _ => sumJoins_lifted os started H enc)
#print axioms sumJoins_proved
end Go.Proofs.Ytihcbainolichaa
