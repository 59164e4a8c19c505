/-
  SumLengths: any length has its digits, and any text is the length whose digits it has, or refused. For every number and every text, no condition.
-/
import Derived.Test.YtihcbainolichaaSumAgree
namespace Go.Proofs.Ytihcbainolichaa
open Go.ChangeShapes Go.WideShapes Go.ChangeAt Go.RowKit Go.Lib

set_option maxRecDepth 1000000 in
set_option maxHeartbeats 4000000 in
theorem sumLengths_walk (w : World) (n : Int) (hn : -9223372036854775808 ≤ n ∧ n ≤ 9223372036854775807) (s : ByteArray) (hs : s.size ≤ maxLen) :
    Calls Try.prog 5 #[.int .i64 n, .string s] w fun e w' => e = .returned (.bool true) ∧ Below w.heap.size w w' := by
  have F0 := awake9_any w
  have F2 := fun w => readLength_any s w hs
  have F3 := fun w => refReadLength_any s w
  have HA : Hid (∀ y, Found decDigits 1 4097 s.data.toList y → Agree ((lengthE s.data.toList).1 : Int) ((lengthE s.data.toList).2 : Int) y) := fun y h => agree_len h
  have F3' : ∀ w, Calls Try.prog 17 #[.string s] w fun e w' => ∃ y : Int, e = .returned (.int .i64 y) ∧ Hid (Agree ((lengthE s.data.toList).1 : Int) ((lengthE s.data.toList).2 : Int) y) ∧ Below w.heap.size w w' := fun w => (F3 w).mono (by
    rintro e w' ⟨y, rfl, h, hb⟩
    exact ⟨y, rfl, HA.out y h.out, hb⟩)
  generalize ((lengthE s.data.toList).1 : Int) = x at *
  generalize ((lengthE s.data.toList).2 : Int) = f at *
  clear F3 HA
  unfold maxLen at hs
  by_cases h : 1000 < s.size
  · have t : (1000 : Int) < (s.size : Int) := by omega
    go_enter Try.func5, Try.ntmps5
    go_wp2_with fail
    refine F0.mono ?_
    rintro e w1 ⟨rfl, hb⟩
    go_wp2_with fail
    go_ret
    exact ⟨rfl, hb⟩
  have t : ¬ (1000 : Int) < (s.size : Int) := by omega
  clear h
  by_cases hr : 1 ≤ n ∧ n ≤ 4096
  · obtain ⟨k, rfl⟩ := Int.eq_ofNat_of_zero_le (a := n) (by omega)
    have k1 : ¬ (k : Int) < 1 := by omega
    have k2 : ¬ (4096 : Int) < (k : Int) := by omega
    have F1 := fun w => length_yes k w (by omega) (by omega)
    have F4 := fun w => refDigits_any k (by omega) w
    generalize mk (decDigits k) = D at *
    have eD := same_text D
    clear hr hn
    go_enter Try.func5, Try.ntmps5
    go_wp2_with fail
    refine F0.mono ?_
    rintro e w1 ⟨rfl, hb1⟩
    go_wp2_with fail
    refine (F1 _).mono ?_
    rintro e w2 ⟨rfl, hb2⟩
    have B2 := hb1.trans (hb2.mono hb1.size)
    go_wp2_with fail
    refine (F2 _).mono ?_
    rintro e w3 ⟨rfl, rfl⟩
    go_wp2_with fail
    refine (F3' _).mono ?_
    rintro e w4 ⟨y, rfl, HG, hb4⟩
    have B4 := B2.trans (hb4.mono B2.size)
    rcases HG.out with ⟨rfl, rfl⟩ | ⟨rfl, rfl, rfl⟩
    all_goals clear HG
    · have ex : (x != x) = false := by simp
      go_wp2_with fail
      refine (F4 _).mono ?_
      rintro e w5 ⟨rfl, hb5⟩
      have B5 := B4.trans (hb5.mono B4.size)
      go_wp2_with fail
      go_ret
      exact ⟨by simp, B5⟩
    · go_wp2_with fail
      refine (F4 _).mono ?_
      rintro e w5 ⟨rfl, hb5⟩
      have B5 := B4.trans (hb5.mono B4.size)
      go_wp2_with fail
      go_ret
      exact ⟨by simp, B5⟩
  · have F1 := fun w => length_no n w (by omega)
    have tE := empty_text
    by_cases k1 : n < 1
    · clear hr
      go_enter Try.func5, Try.ntmps5
      go_wp2_with fail
      refine F0.mono ?_
      rintro e w1 ⟨rfl, hb1⟩
      go_wp2_with fail
      refine (F1 _).mono ?_
      rintro e w2 ⟨rfl, rfl⟩
      go_wp2_with fail
      refine (F2 _).mono ?_
      rintro e w3 ⟨rfl, rfl⟩
      go_wp2_with fail
      refine (F3' _).mono ?_
      rintro e w4 ⟨y, rfl, HG, hb4⟩
      have B4 := hb1.trans (hb4.mono hb1.size)
      rcases HG.out with ⟨rfl, rfl⟩ | ⟨rfl, rfl, rfl⟩
      all_goals clear HG
      · have ex : (x != x) = false := by simp
        go_wp2_with fail
        go_ret
        exact ⟨rfl, B4⟩
      · go_wp2_with fail
        go_ret
        exact ⟨rfl, B4⟩
    · have k2 : (4096 : Int) < n := by omega
      clear hr
      go_enter Try.func5, Try.ntmps5
      go_wp2_with fail
      refine F0.mono ?_
      rintro e w1 ⟨rfl, hb1⟩
      go_wp2_with fail
      refine (F1 _).mono ?_
      rintro e w2 ⟨rfl, rfl⟩
      go_wp2_with fail
      refine (F2 _).mono ?_
      rintro e w3 ⟨rfl, rfl⟩
      go_wp2_with fail
      refine (F3' _).mono ?_
      rintro e w4 ⟨y, rfl, HG, hb4⟩
      have B4 := hb1.trans (hb4.mono hb1.size)
      rcases HG.out with ⟨rfl, rfl⟩ | ⟨rfl, rfl, rfl⟩
      all_goals clear HG
      · have ex : (x != x) = false := by simp
        go_wp2_with fail
        go_ret
        exact ⟨rfl, B4⟩
      · go_wp2_with fail
        go_ret
        exact ⟨rfl, B4⟩

theorem sumLengths_own : ownKnob Try.prog.godebug = none := by kernel_rfl
theorem sumLengths_laidOut : laidOutB Try.prog = true := by kernel_rfl
set_option maxRecDepth 100000 in
theorem sumLengths_lifted (os : Os) (started : os.Started) (H : Type) (enc : TypeId × Value → H) :
    ReturnsInHanded {} Try.checked os 5 .any (Rows.sumLengthsSpec.pre6 enc Try.prog Try.f5 Rows.sumLengthsRow.domain false) (Rows.sumLengthsSpec.post enc Try.prog Try.f5 false true false false) := by
  refine returnsInHanded_of_change (C := Try.checked) sumLengths_own started (by kernel_rfl) Try.func5
    (ChangeSpec.witness6 (enc := enc) (C := Try.checked) false ⟨#[], #[.int .i64 0, .string ⟨#[]⟩], []⟩ 8 (by kernel_rfl) (by kernel_rfl) (by kernel_rfl) (by kernel_rfl)) ?_
  intro W base args ds gs before hval0 hW hcnd _
  have hval : ∀ (j : Nat) t v, Try.f5.params[j]? = some t → args[j]? = some v → Value.okWide Try.prog W .any base t v := hval0
  have hW' := hW
  obtain ⟨p, q, hA0, hV, rfl, hfz, hnd⟩ := hW
  have hA : DataW.TrodAll enc Try.prog W 0 (fun _ => true) true Try.f5.params.toList args.toList ds p := hA0
  rw [Try.params5] at hA hval
  obtain ⟨v0, vs0, d0, ds0, p0, q0, hargs, rfl, rfl, h0, r0⟩ := trodAll_cons hA
  obtain ⟨v1, vs1, d1, ds1, p1, q1, rfl, rfl, rfl, h1, r1⟩ := trodAll_cons r0
  obtain ⟨rfl, rfl, rfl⟩ := trodAll_nil r1
  obtain rfl : args = #[v0, v1] := by cases args; simp_all
  obtain ⟨rfl, rfl⟩ := trodVars_none hV
  obtain ⟨a0, rfl, rfl, rfl, w0⟩ := open_int Try.underlying3 (hval 0 3 v0 rfl rfl) h0
  have bd0 := bounds_i64 w0
  obtain ⟨s1, rfl, rfl, rfl, w1⟩ := Go.ChangeMaps.open_string Try.underlying9 (hval 1 9 v1 rfl rfl) h1
  clear hA0 hval0
  simp only [List.append_nil] at hW'
  refine (sumLengths_walk W a0 bd0 s1 w1).mono fun e W' ⟨he, bel⟩ => ?_
  subst he
  exact ⟨_, rfl, _, _, _, [], _, [], hW', trodAll_mk1 (shut_bool Try.underlying4 _), (trodAll_cons_mk (shut_int Try.underlying3 w0) (trodAll_cons_mk (Go.ChangeMaps.shut_string Try.underlying9 w1) trodAll_mk0)), rfl, bel.frame _, fun h => by cases h⟩

/-- THE STATEMENT. -/
theorem sumLengths_proved : Rows.SumLengthsSaid :=
  OpenClaim.holds_of_wide 5 Try.f5 rfl rfl rfl rfl rfl rfl rfl ⟨rfl, rfl, rfl, rfl, rfl⟩ rfl rfl rfl rfl rfl (by kernel_rfl) Try.func5 (by kernel_rfl)
    (of_decide_eq_true (by kernel_rfl)) (by unfold Func.isWrapper; first | (rw [if_pos (by decide +kernel)]; kernel_rfl) | (rw [if_neg (by decide +kernel)]; exact ⟨rfl, rfl⟩))
    (fun os started H enc _ => sumLengths_lifted os started H enc)
#print axioms sumLengths_proved
end Go.Proofs.Ytihcbainolichaa
