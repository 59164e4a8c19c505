/-
  For every quantity and show the Go function BergMelts, over the landed program, returns true and leaves all old memory as it was. No condition.
-/
import Derived.Test.YtnepamakpiokcaaBeStep
import Derived.Test.YtnepamakpiokcaaFrame3
namespace Go.Proofs.Ytnepamakpiokcaa
open Go.ChangeShapes Go.WideShapes Go.ChangeAt Go.RowKit BE

set_option maxHeartbeats 1000000 in
theorem bergMelts_walk (w : World) (q : Int) (_bq : -9223372036854775808 ≤ q ∧ q ≤ 9223372036854775807) (s : Int) (_bs : -9223372036854775808 ≤ s ∧ s ≤ 9223372036854775807) :
    Calls Try.prog 4 #[.int .i64 q, .int .i64 s] w fun e w' => e = .returned (.bool true) ∧ Below w.heap.size w w' := by
  have F1 := fun w => slices_any q s w
  by_cases ht : twoB q s = true
  · have h := two_of ht
    have hN := slN_bd h
    have eE : slE q s = 0 := by unfold slE; rw [ht]; rfl
    rw [eE] at F1
    clear eE ht
    obtain ⟨n, hn⟩ : ∃ n : Nat, slN q s = (n : Int) := ⟨(slN q s).toNat, by omega⟩
    have SB : Hid (∀ i, i < n → 1 ≤ shN q s (out q s i) ∧ shN q s (out q s i) ≤ s) := fun i hi => shown_bd h i (by omega)
    have OA : Hid (out q s n = q) := out_all h n hn.symm
    have OZ : Hid (out q s 0 = 0) := out_zero h
    have ON : Hid (∀ i, out q s (i + 1) = out q s i + shN q s (out q s i)) := fun i => out_next h i
    have OB : Hid (∀ i, 0 ≤ out q s i ∧ out q s i ≤ q) := fun i => out_bd h i
    have SN : Hid (shN q s q = 0) := shown_none h
    have TE : Hid (∀ i, tgE q s (out q s i) = 0) := fun i => by unfold tgE; rw [of_fine h (out_bd h i).1 (out_bd h i).2]; rfl
    have F2 : Hid (∀ i w, Calls Try.prog 7 #[.int .i64 q, .int .i64 s, .int .i64 (out q s i)] w fun e w' => e = .returned (.tuple #[.int .i64 (shN q s (out q s i)), .int .i64 0]) ∧ Below w.heap.size w w') := fun i w => by
      have := shown_any q s (out q s i) w
      rw [TE.out i] at this
      exact this
    have Q1 : Hid (q ≤ 1099511627776) := h.q1
    rw [hn] at F1
    clear hn hN h TE
    generalize out q s = O at *
    by_cases c : (n : Int) > 300
    · clear SB OA OZ ON OB SN F2 Q1
      go_enter Try.func4, Try.ntmps4
      go_wp2_with fail
      refine (awake26_any _).mono ?_
      rintro e w1 ⟨rfl, hb1⟩
      go_wp2_with fail
      refine (F1 _).mono ?_
      rintro e w2 ⟨rfl, hb2⟩
      go_wp2_with fail
      go_ret
      exact ⟨rfl, hb1.trans (hb2.mono hb1.size)⟩
    · go_enter Try.func4, Try.ntmps4
      go_wp2_with fail
      refine (awake26_any _).mono ?_
      rintro e w1 ⟨rfl, hb1⟩
      go_wp2_with fail
      refine (F1 _).mono ?_
      rintro e w2 ⟨rfl, hb2⟩
      have h2 := hb1.trans (hb2.mono hb1.size)
      clear hb1 hb2
      go_wp2_with fail
      go_loopw [7, 27] (fun x y wr => ∃ i : Nat, y = .int .i64 (i : Int) ∧ x = .int .i64 (O i) ∧ i ≤ n ∧ Below w.heap.size w wr) (fun _ y _ => n - (RowKit.intOf y).toNat)
      case atStart => exact ⟨0, rfl, by rw [OZ.out], Nat.zero_le _, h2⟩
      case round =>
        obtain ⟨i, rfl, rfl, hi, hB⟩ := hrel
        by_cases hlt : i < n
        · have t : (i : Int) < (n : Int) := by omega
          obtain ⟨z1, z2⟩ := SB.out i hlt
          have b1 := OB.out i
          have b2 := OB.out (i + 1)
          have en := ON.out i
          have hw : Hid (wrap64 (O i + shN q s (O i)) = O (i + 1)) := by show _ = _; rw [← en]; exact wrap_in _ (by omega) (by have := Q1.out; omega)
          have F := F2.out i
          generalize shN q s (O i) = z at *
          clear en b1 b2
          have t1 : ¬ z < 1 := by omega
          have t2 : ¬ z > s := by omega
          clear z1 z2
          go_wp2_with fail
          refine (F _).mono ?_
          rintro e w3 ⟨rfl, hb⟩
          go_wp2_with fail
          go_roundw
          case rel => exact ⟨i + 1, by simp, by rw [hw.out], by omega, hB.trans (hb.mono hB.size)⟩
          case measure => simp [RowKit.intOf] <;> omega
        · have t : ¬ (i : Int) < (n : Int) := by omega
          obtain rfl : i = n := by omega
          have F := F2.out i
          have hO := OA.out
          have hS := SN.out
          clear SB OA OZ ON OB SN F2
          generalize O i = z at *
          subst hO
          rw [hS] at F
          clear hS
          go_wp2_with fail
          refine (F _).mono ?_
          rintro e w3 ⟨rfl, hb⟩
          go_wp2_with fail
          go_ret
          exact ⟨by simp, hB.trans (hb.mono hB.size)⟩
  · have eE : slE q s = 2 := by unfold slE; rw [if_neg ht]
    have eN : slN q s = 0 := by unfold slN; rw [if_neg ht]
    rw [eE, eN] at F1
    clear eE eN ht
    go_enter Try.func4, Try.ntmps4
    go_wp2_with fail
    refine (awake26_any _).mono ?_
    rintro e w1 ⟨rfl, hb1⟩
    go_wp2_with fail
    refine (F1 _).mono ?_
    rintro e w2 ⟨rfl, hb2⟩
    go_wp2_with fail
    go_ret
    exact ⟨by simp, hb1.trans (hb2.mono hb1.size)⟩
theorem bergMelts_own : ownKnob Try.prog.godebug = none := by kernel_rfl
theorem bergMelts_laidOut : laidOutB Try.prog = true := by kernel_rfl
set_option maxRecDepth 100000 in
theorem bergMelts_lifted (os : Os) (started : os.Started) (H : Type) (enc : TypeId × Value → H) :
    ReturnsInHanded {} Try.checked os 4 .any (Rows.bergMeltsSpec.pre6 enc Try.prog Try.f4 Rows.bergMeltsRow.domain false) (Rows.bergMeltsSpec.post enc Try.prog Try.f4 false true false false) := by
  refine returnsInHanded_of_change (C := Try.checked) bergMelts_own started (by kernel_rfl) Try.func4
    (ChangeSpec.witness6 (enc := enc) (C := Try.checked) false ⟨#[], #[.int .i64 0, .int .i64 0], []⟩ 8 (by kernel_rfl) (by kernel_rfl) (by kernel_rfl) (by kernel_rfl)) ?_
  intro W base args ds gs before hval0 hW hcnd _
  have hval : ∀ (j : Nat) t v, Try.f4.params[j]? = some t → args[j]? = some v → Value.okWide Try.prog W .any base t v := hval0
  have hW' := hW
  obtain ⟨p, q, hA0, hV, rfl, hfz, hnd⟩ := hW
  have hA : DataW.TrodAll enc Try.prog W 0 (fun _ => true) true Try.f4.params.toList args.toList ds p := hA0
  rw [Try.params4] at hA hval
  obtain ⟨v0, vs0, d0, ds0, p0, q0, hargs, rfl, rfl, h0, r0⟩ := trodAll_cons hA
  obtain ⟨v1, vs1, d1, ds1, p1, q1, rfl, rfl, rfl, h1, r1⟩ := trodAll_cons r0
  obtain ⟨rfl, rfl, rfl⟩ := trodAll_nil r1
  obtain rfl : args = #[v0, v1] := by cases args; simp_all
  obtain ⟨rfl, rfl⟩ := trodVars_none hV
  obtain ⟨a0, rfl, rfl, rfl, w0⟩ := open_int Try.underlying3 (hval 0 3 v0 rfl rfl) h0
  have bd0 := bounds_i64 w0
  obtain ⟨a1, rfl, rfl, rfl, w1⟩ := open_int Try.underlying3 (hval 1 3 v1 rfl rfl) h1
  have bd1 := bounds_i64 w1
  clear hA0 hval0
  simp only [List.append_nil] at hW'
  refine (bergMelts_walk W a0 bd0 a1 bd1).mono fun e W' ⟨he, bel⟩ => ?_
  subst he
  exact ⟨_, rfl, _, _, _, [], _, [], hW', trodAll_mk1 (shut_bool Try.underlying4 _), (trodAll_cons_mk (shut_int Try.underlying3 w0) (trodAll_cons_mk (shut_int Try.underlying3 w1) trodAll_mk0)), rfl, bel.frame _, fun h => by cases h⟩

/-- THE STATEMENT. -/
theorem bergMelts_proved : Rows.BergMeltsSaid :=
  OpenClaim.holds_of_wide 4 Try.f4 rfl rfl rfl rfl rfl rfl rfl ⟨rfl, rfl, rfl, rfl, rfl⟩ rfl rfl rfl rfl rfl (by kernel_rfl) Try.func4 (by kernel_rfl)
    (of_decide_eq_true (by kernel_rfl)) (by unfold Func.isWrapper; first | (rw [if_pos (by decide +kernel)]; kernel_rfl) | (rw [if_neg (by decide +kernel)]; exact ⟨rfl, rfl⟩))
    (fun os started H enc _ => bergMelts_lifted os started H enc)
#print axioms bergMelts_proved
end Go.Proofs.Ytnepamakpiokcaa
