/-
  For every three ints the Go function GrainInside, over the landed program, returns true and leaves its arguments and all old memory as they were. No condition.
-/
import Derived.Test.YtakapppfoaafiaaNear
namespace Go.Proofs.Ytakapppfoaafiaa
open Go.ChangeShapes Go.WideShapes Go.ChangeAt Go.RowKit

theorem least_more (m d : Int) (hm : 0 ≤ m) : bLeast m (d + 1) ≤ bLeast m d := by
  have : m * (10000 - (d + 1)) ≤ m * (10000 - d) := Int.mul_le_mul_of_nonneg_left (by omega) hm
  unfold bLeast; omega
theorem most_more (m d : Int) (hm : 0 ≤ m) : bMost m d ≤ bMost m (d + 1) := by
  have : m * (10000 + d) ≤ m * (10000 + (d + 1)) := Int.mul_le_mul_of_nonneg_left (by omega) hm
  unfold bMost; omega
theorem inside_math (m d t : Int) (hm : 0 ≤ m ∧ m ≤ 1099511627776) (hd : 0 ≤ d ∧ d ≤ 10000) (ht : 1 ≤ t) :
    bL m d t % t = 0 ∧ bH m d t % t = 0 ∧ 0 ≤ bL m d t ∧ 0 ≤ bH m d t ∧ bH m d t ≤ 1099511627776 ∧ (m - bL m d t) * 10000 ≤ m * d ∧ (bH m d t - m) * 10000 ≤ m * d ∧ 0 ≤ m * d ∧ m * d ≤ 10995116277760000 := by
  obtain ⟨l1, l2, l3⟩ := least_bd m d hm hd
  obtain ⟨k1, k2, k3, k4⟩ := most_bd m d hm hd
  have c := ceV_bd (bLeast m d) t ht
  have f := floor_bd (bMost m d) t (by omega) ht
  have q0 : 0 ≤ m * d := Int.mul_nonneg hm.1 hd.1
  have q1 : m * d ≤ m * 10000 := Int.mul_le_mul_of_nonneg_left hd.2 hm.1
  have e1 : m * (10000 - d) = m * 10000 - m * d := Int.mul_sub ..
  have e2 : m * (10000 + d) = m * 10000 + m * d := Int.mul_add ..
  refine ⟨ceV_on _ _ ht, floor_on _ _, ?_, f.1, ?_, ?_, ?_, q0, by omega⟩
  · unfold bL; omega
  · unfold bH; omega
  · unfold bL
    have : m * (10000 - d) ≤ bLeast m d * 10000 := by unfold bLeast; omega
    omega
  · unfold bH
    have : bMost m d * 10000 ≤ m * (10000 + d) := by unfold bMost; omega
    omega
theorem inside_more (m d t : Int) (hm : 0 ≤ m ∧ m ≤ 1099511627776) (ht : 1 ≤ t) : bL m (d + 1) t ≤ bL m d t ∧ bH m d t ≤ bH m (d + 1) t := by
  constructor
  · exact ceil_least _ _ _ ht (ceV_on _ _ ht) (Int.le_trans (least_more m d hm.1) (ceV_bd _ _ ht).1)
  · refine le_floor _ _ _ ht (floor_on _ _) ?_
    have := most_more m d hm.1
    have m0 : 0 ≤ bMost m d % t := Int.emod_nonneg _ (by omega)
    unfold bH
    omega
set_option maxHeartbeats 1000000 in
theorem inside_none (m d t x : Int) (w : World) (hx : x = 2 ∨ x = 22)
    (F1 : ∀ w, Calls Try.prog 18 #[.int .i64 m, .int .i64 d, .int .i64 t] w fun e w' => e = .returned (.tuple #[.int .i64 0, .int .i64 0, .int .i64 x]) ∧ Below w.heap.size w w') :
    Calls Try.prog 8 #[.int .i64 m, .int .i64 d, .int .i64 t] w fun e w' => e = .returned (.bool true) ∧ Below w.heap.size w w' := by
  rcases hx with rfl | rfl
  all_goals
    go_enter Try.func8, Try.ntmps8
    go_wp2_with fail
    refine (awake2_any _).mono ?_
    rintro e w1 ⟨rfl, hb1⟩
    go_wp2_with fail
    refine (F1 _).mono ?_
    rintro e w2 ⟨rfl, hb2⟩
    go_wp2
    go_ret
    exact ⟨rfl, hb1.trans (hb2.mono hb1.size)⟩
set_option maxHeartbeats 1000000 in
theorem inside_full (m t x y  : Int) (w : World) (hm : 0 ≤ m ∧ m ≤ 1099511627776)
    (F1 : ∀ w, Calls Try.prog 18 #[.int .i64 m, .int .i64 10000, .int .i64 t] w fun e w' => e = .returned (.tuple #[.int .i64 x, .int .i64 y, .int .i64 0]) ∧ Below w.heap.size w w')
    (F2 : ∀ w, Calls Try.prog 15 #[.int .i64 x, .int .i64 t] w fun e w' => e = .returned (.bool true) ∧ Below w.heap.size w w')
    (F3 : ∀ w, Calls Try.prog 15 #[.int .i64 y, .int .i64 t] w fun e w' => e = .returned (.bool true) ∧ Below w.heap.size w w')
    (xy : x ≤ y) (x0 : 0 ≤ x) (y1 : y ≤ 1099511627776) (_g1 : (m - x) * 10000 ≤ m * 10000) (g2 : (y - m) * 10000 ≤ m * 10000) :
    Calls Try.prog 8 #[.int .i64 m, .int .i64 10000, .int .i64 t] w fun e w' => e = .returned (.bool true) ∧ Below w.heap.size w w' := by
  go_enter Try.func8, Try.ntmps8
  go_wp2_with fail
  refine (awake2_any _).mono ?_
  rintro e w1 ⟨rfl, hb1⟩
  go_wp2_with fail
  refine (F1 _).mono ?_
  rintro e w2 ⟨rfl, hb2⟩
  go_wp2_with fail
  refine (F2 _).mono ?_
  rintro e w3 ⟨rfl, hb3⟩
  go_wp2_with fail
  refine (F3 _).mono ?_
  rintro e w4 ⟨rfl, hb4⟩
  go_wp2
  go_ret
  have B2 := hb1.trans (hb2.mono hb1.size)
  have B3 := B2.trans (hb3.mono B2.size)
  exact ⟨rfl, B3.trans (hb4.mono B3.size)⟩
set_option maxHeartbeats 1000000 in
theorem inside_part (m d t x y l h : Int) (w : World) (hm : 0 ≤ m ∧ m ≤ 1099511627776) (hd : 0 ≤ d ∧ d ≤ 9999)
    (F1 : ∀ w, Calls Try.prog 18 #[.int .i64 m, .int .i64 d, .int .i64 t] w fun e w' => e = .returned (.tuple #[.int .i64 x, .int .i64 y, .int .i64 0]) ∧ Below w.heap.size w w')
    (F2 : ∀ w, Calls Try.prog 15 #[.int .i64 x, .int .i64 t] w fun e w' => e = .returned (.bool true) ∧ Below w.heap.size w w')
    (F3 : ∀ w, Calls Try.prog 15 #[.int .i64 y, .int .i64 t] w fun e w' => e = .returned (.bool true) ∧ Below w.heap.size w w')
    (F4 : ∀ w, Calls Try.prog 18 #[.int .i64 m, .int .i64 (d + 1), .int .i64 t] w fun e w' => e = .returned (.tuple #[.int .i64 l, .int .i64 h, .int .i64 0]) ∧ Below w.heap.size w w')
    (xy : x ≤ y) (x0 : 0 ≤ x) (y1 : y ≤ 1099511627776) (q0 : 0 ≤ m * d) (q1 : m * d ≤ 10995116277760000) (g1 : (m - x) * 10000 ≤ m * d) (g2 : (y - m) * 10000 ≤ m * d) (hl : l ≤ x) (hh : y ≤ h) :
    Calls Try.prog 8 #[.int .i64 m, .int .i64 d, .int .i64 t] w fun e w' => e = .returned (.bool true) ∧ Below w.heap.size w w' := by
  go_enter Try.func8, Try.ntmps8
  go_wp2_with fail
  refine (awake2_any _).mono ?_
  rintro e w1 ⟨rfl, hb1⟩
  go_wp2_with fail
  refine (F1 _).mono ?_
  rintro e w2 ⟨rfl, hb2⟩
  go_wp2_with fail
  refine (F2 _).mono ?_
  rintro e w3 ⟨rfl, hb3⟩
  go_wp2_with fail
  refine (F3 _).mono ?_
  rintro e w4 ⟨rfl, hb4⟩
  go_wp2_with fail
  refine (F4 _).mono ?_
  rintro e w5 ⟨rfl, hb5⟩
  go_wp2
  go_ret
  have B2 := hb1.trans (hb2.mono hb1.size)
  have B3 := B2.trans (hb3.mono B2.size)
  have B4 := B3.trans (hb4.mono B3.size)
  exact ⟨rfl, B4.trans (hb5.mono B4.size)⟩
theorem grainInside_walk (m d t : Int) (_m1 : -9223372036854775808 ≤ m) (_m2 : m ≤ 9223372036854775807) (_d1 : -9223372036854775808 ≤ d) (_d2 : d ≤ 9223372036854775807) (_t1 : -9223372036854775808 ≤ t) (t2 : t ≤ 9223372036854775807) (w : World) :
    Calls Try.prog 8 #[.int .i64 m, .int .i64 d, .int .i64 t] w fun e w' => e = .returned (.bool true) ∧ Below w.heap.size w w' := by
  by_cases h : baBad m d t
  · exact inside_none m d t 2 w (.inl rfl) fun w => (band_bad m d t w h).mono fun e w' ⟨h1, h2⟩ => ⟨h1, h2 ▸ Below.refl _ _⟩
  · by_cases k : bL m d t ≤ bH m d t
    · have h' := h
      unfold baBad at h'
      have hm : 0 ≤ m ∧ m ≤ 1099511627776 := by omega
      have hd : 0 ≤ d ∧ d ≤ 10000 := by omega
      have ht : 1 ≤ t := by omega
      obtain ⟨a1, a2, a3, a4, a5, a6, a7, a8, a9⟩ := inside_math m d t hm hd ht
      have b := inside_more m d t hm ht
      have o1 := fun w => on_yes _ t w (by unfold stepBad; omega) a1 (by omega) t2
      have o2 := fun w => on_yes _ t w (by unfold stepBad; omega) a2 (by omega) t2
      by_cases c : d = 10000
      · subst c
        exact inside_full m t _ _ w hm (fun w => band_yes m 10000 t w h t2 k) o1 o2 k a3 a5 a6 a7
      · exact inside_part m d t _ _ _ _ w hm (by omega) (fun w => band_yes m d t w h t2 k) o1 o2 (fun w => band_yes m (d + 1) t w (by unfold baBad; omega) t2 (by omega)) k a3 a5 a8 a9 a6 a7 b.1 b.2
    · exact inside_none m d t 22 w (.inr rfl) fun w => band_no m d t w h t2 (by omega)
theorem grainInside_own : ownKnob Try.prog.godebug = none := by kernel_rfl
set_option maxRecDepth 100000 in
theorem grainInside_lifted (os : Os) (started : os.Started) (H : Type) (enc : TypeId × Value → H) :
    ReturnsInHanded {} Try.checked os 8 .any (Rows.grainInsideSpec.pre6 enc Try.prog Try.f8 Rows.grainInsideRow.domain false) (Rows.grainInsideSpec.post enc Try.prog Try.f8 false true false false) := by
  refine returnsInHanded_of_change (C := Try.checked) grainInside_own started (by kernel_rfl) Try.func8
    (ChangeSpec.witness6 (enc := enc) (C := Try.checked) false ⟨#[], #[.int .i64 0, .int .i64 0, .int .i64 0], []⟩ 8 (by kernel_rfl) (by kernel_rfl) (by kernel_rfl) (by kernel_rfl)) ?_
  intro W base args ds gs before hval0 hW hcnd _
  have hval : ∀ (j : Nat) t v, Try.f8.params[j]? = some t → args[j]? = some v → Value.okWide Try.prog W .any base t v := hval0
  have hW' := hW
  obtain ⟨p, q, hA0, hV, rfl, hfz, hnd⟩ := hW
  have hA : DataW.TrodAll enc Try.prog W 0 (fun _ => true) true Try.f8.params.toList args.toList ds p := hA0
  rw [Try.params8] at hA hval
  obtain ⟨v0, vs0, d0, ds0, p0, q0, hargs, rfl, rfl, h0, r0⟩ := trodAll_cons hA
  obtain ⟨v1, vs1, d1, ds1, p1, q1, rfl, rfl, rfl, h1, r1⟩ := trodAll_cons r0
  obtain ⟨v2, vs2, d2, ds2, p2, q2, rfl, rfl, rfl, h2, r2⟩ := trodAll_cons r1
  obtain ⟨rfl, rfl, rfl⟩ := trodAll_nil r2
  obtain rfl : args = #[v0, v1, v2] := by cases args; simp_all
  obtain ⟨rfl, rfl⟩ := trodVars_none hV
  obtain ⟨a0, rfl, rfl, rfl, w0⟩ := open_int Try.underlying3 (hval 0 3 v0 rfl rfl) h0
  obtain ⟨a1, rfl, rfl, rfl, w1⟩ := open_int Try.underlying3 (hval 1 3 v1 rfl rfl) h1
  obtain ⟨a2, rfl, rfl, rfl, w2⟩ := open_int Try.underlying3 (hval 2 3 v2 rfl rfl) h2
  clear hA0 hval0
  simp only [List.append_nil] at hW'
  have b0 := bounds_i64 w0
  have b1 := bounds_i64 w1
  have b2 := bounds_i64 w2
  refine (grainInside_walk a0 a1 a2 b0.1 b0.2 b1.1 b1.2 b2.1 b2.2 W).mono fun e W' ⟨he, bel⟩ => ?_
  subst he
  exact ⟨_, rfl, _, _, _, [], [], [], hW', trodAll_mk1 (shut_bool Try.underlying4 _), (trodAll_cons_mk (shut_int Try.underlying3 w0) (trodAll_cons_mk (shut_int Try.underlying3 w1) (trodAll_cons_mk (shut_int Try.underlying3 w2) trodAll_mk0))), rfl, bel.frame _, fun h => by cases h⟩

/-- THE STATEMENT. -/
theorem grainInside_proved : Rows.GrainInsideSaid :=
  OpenClaim.holds_of_wide 8 Try.f8 rfl rfl rfl rfl rfl rfl rfl ⟨rfl, rfl, rfl, rfl, rfl⟩ rfl rfl rfl rfl rfl (by kernel_rfl) Try.func8 (by kernel_rfl)
    (of_decide_eq_true (by kernel_rfl)) (by unfold Func.isWrapper; first | (rw [if_pos (by decide +kernel)]; kernel_rfl) | (rw [if_neg (by decide +kernel)]; exact ⟨rfl, rfl⟩))
    (fun os started H enc _ => grainInside_lifted os started H enc)
#print axioms grainInside_proved

end Go.Proofs.Ytakapppfoaafiaa
