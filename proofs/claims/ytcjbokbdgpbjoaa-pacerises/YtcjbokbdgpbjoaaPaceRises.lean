/-
  For every quantity, weights and span the Go function PaceRises, over the landed program, returns true and leaves its arguments and all old memory as they were. No condition.
-/
import Derived.Test.YtcjbokbdgpbjoaaPaLaws
namespace Go.Proofs.Ytcjbokbdgpbjoaa
open Go.ChangeShapes Go.WideShapes Go.ChangeAt Go.RowKit PA

set_option maxRecDepth 100000 in
set_option maxHeartbeats 1000000 in
theorem rises_idle (qty : Int) (n cap : Nat) (a : Option Addr) (w : World) (st en nw : Int) (ho : 64 < n ∨ (n ≤ 64 ∧ 1099511627776 ≤ nw) ∨ (n ≤ 64 ∧ nw < 1099511627776 ∧ nw < 0)) :
    Calls Try.prog 6 #[.int .i64 qty, .slice a n cap, .agg #[.int .i64 st, .int .i64 en, .int .i64 nw]] w fun e w' => e = .returned (.bool true) ∧ Below w.heap.size w w' := by
  have A : ∀ (w : World) (o : Obj), Below w.heap.size w (w.alloc o) := fun w o => (Below.refl _ w).alloc (Nat.le_refl _) _
  rcases ho with h | ⟨h, k1⟩ | ⟨h, k1, k2⟩
  · have t : (64 : Int) < (n : Int) := by omega
    go_enter Try.func6, Try.ntmps6
    go_wp2_with fail
    refine (awake24_any _).mono ?_
    rintro e w1 ⟨rfl, hb1⟩
    have B1 := (A w _).trans (hb1.mono (by simp))
    obtain ⟨c0, c1, c2⟩ := span_below (span_cells w (.int .i64 st) (.int .i64 en) (.int .i64 nw) 23) hb1
    clear hb1
    go_wp2_with fail
    go_ret
    exact ⟨rfl, B1⟩
  · have t : ¬ (64 : Int) < (n : Int) := by omega
    go_enter Try.func6, Try.ntmps6
    go_wp2_with fail
    refine (awake24_any _).mono ?_
    rintro e w1 ⟨rfl, hb1⟩
    have B1 := (A w _).trans (hb1.mono (by simp))
    obtain ⟨c0, c1, c2⟩ := span_below (span_cells w (.int .i64 st) (.int .i64 en) (.int .i64 nw) 23) hb1
    clear hb1
    go_wp2_with fail
    go_ret
    exact ⟨rfl, B1⟩
  · have t : ¬ (64 : Int) < (n : Int) := by omega
    have t2 : ¬ 1099511627776 ≤ nw := by omega
    go_enter Try.func6, Try.ntmps6
    go_wp2_with fail
    refine (awake24_any _).mono ?_
    rintro e w1 ⟨rfl, hb1⟩
    have B1 := (A w _).trans (hb1.mono (by simp))
    obtain ⟨c0, c1, c2⟩ := span_below (span_cells w (.int .i64 st) (.int .i64 en) (.int .i64 nw) 23) hb1
    clear hb1
    go_wp2_with fail
    go_ret
    exact ⟨rfl, B1⟩
set_option maxRecDepth 100000 in
set_option maxHeartbeats 4000000 in
theorem rises_wrong (qty : Int) (zs : Nat → Int) (n : Nat) (v : Value) (w : World) (st en nw : Int) (h : Row w v n fun i => .int .i64 (zs i)) (hn : n ≤ 64) (k1 : 0 ≤ nw) (k2 : nw < 1099511627776) (E : Int) (h0 : E ≠ 0)
    (G : ∀ nw', timeB nw' = timeB nw → Along zs n v qty st en nw' 0 E) :
    Calls Try.prog 6 #[.int .i64 qty, v, .agg #[.int .i64 st, .int .i64 en, .int .i64 nw]] w fun e w' => e = .returned (.bool true) ∧ Below w.heap.size w w' := by
  have A : ∀ (w : World) (o : Obj), Below w.heap.size w (w.alloc o) := fun w o => (Below.refl _ w).alloc (Nat.le_refl _) _
  have t : ¬ (64 : Int) < (n : Int) := by omega
  have t2 : ¬ 1099511627776 ≤ nw := by omega
  have t3 : ¬ nw < 0 := by omega
  have t4 : (E != 0) = true := by simp [h0]
  have T0 : timeB nw = true := inB_yes k1 (by omega)
  have hw : wrap64 (nw + 1) = nw + 1 := wrap_in _ (by omega) (by omega)
  have G1 := G nw rfl
  have G2 := G (nw + 1) (by rw [T0]; exact inB_yes (by omega) (by omega))
  have G3 := G (max (min st 1099511627776) 0) (by rw [T0]; exact inB_yes (by omega) (by omega))
  have G4 := G (max (min en 1099511627776) 0) (by rw [T0]; exact inB_yes (by omega) (by omega))
  unfold Along at G1 G2 G3 G4
  obtain ⟨a, cap, rfl, _⟩ := id h
  clear G T0 k1 k2
  go_enter Try.func6, Try.ntmps6
  go_wp2_with fail
  refine (awake24_any _).mono ?_
  rintro e w1 ⟨rfl, hb1⟩
  have B1 := (A w _).trans (hb1.mono (by simp))
  obtain ⟨c0, c1, c2⟩ := span_below (span_cells w (.int .i64 st) (.int .i64 en) (.int .i64 nw) 23) hb1
  clear hb1
  go_wp2_with fail
  refine (G1 _ (h.below B1)).mono ?_
  rintro e w2 ⟨rfl, hb2⟩
  have B2 := B1.trans (hb2.mono B1.size)
  obtain ⟨d0, d1, d2⟩ := span_below ⟨c0, c1, c2⟩ hb2
  clear hb2 B1 c0 c1 c2
  go_wp2_with fail
  refine (G2 _ (h.below B2)).mono ?_
  rintro e w3 ⟨rfl, hb3⟩
  have B3 := B2.trans (hb3.mono B2.size)
  obtain ⟨c0, c1, c2⟩ := span_below ⟨d0, d1, d2⟩ hb3
  clear hb3 B2 d0 d1 d2
  go_wp2_with fail
  refine (G3 _ (h.below B3)).mono ?_
  rintro e w4 ⟨rfl, hb4⟩
  have B4 := B3.trans (hb4.mono B3.size)
  obtain ⟨d0, d1, d2⟩ := span_below ⟨c0, c1, c2⟩ hb4
  clear hb4 B3 c0 c1 c2
  go_wp2_with fail
  refine (G4 _ (h.below B4)).mono ?_
  rintro e w5 ⟨rfl, hb5⟩
  have B5 := B4.trans (hb5.mono B4.size)
  obtain ⟨c0, c1, c2⟩ := span_below ⟨d0, d1, d2⟩ hb5
  clear hb5 B4 d0 d1 d2
  go_wp2_with fail
  go_ret
  exact ⟨by simp, B5⟩
set_option maxRecDepth 100000 in
set_option maxHeartbeats 4000000 in
theorem rises_right (qty : Int) (zs : Nat → Int) (n : Nat) (v : Value) (w : World) (st en nw : Int) (h : Row w v n fun i => .int .i64 (zs i)) (hn : n ≤ 64) (k1 : 0 ≤ nw) (k2 : nw < 1099511627776) (a b x : Int) (a0 : ¬ a < 0) (ab : ¬ b < a) (bq : ¬ qty < b)
    (G1 : Along zs n v qty st en nw a 0) (G2 : Along zs n v qty st en (nw + 1) b 0) (G3 : Along zs n v qty st en (max (min st 1099511627776) 0) 0 0) (G4 : Along zs n v qty st en (max (min en 1099511627776) 0) qty 0)
    (G5 : ∀ v, Along (flat 4 3) 4 v qty st en nw x 0) (G6 : ∀ w, Calls Try.prog 9 #[.int .i64 qty, .int .i64 st, .int .i64 en, .int .i64 nw] w fun e w' => e = .returned (.tuple #[.int .i64 x, .int .i64 0]) ∧ Below w.heap.size w w') :
    Calls Try.prog 6 #[.int .i64 qty, v, .agg #[.int .i64 st, .int .i64 en, .int .i64 nw]] w fun e w' => e = .returned (.bool true) ∧ Below w.heap.size w w' := by
  have A : ∀ (w : World) (o : Obj), Below w.heap.size w (w.alloc o) := fun w o => (Below.refl _ w).alloc (Nat.le_refl _) _
  have t : ¬ (64 : Int) < (n : Int) := by omega
  have t2 : ¬ 1099511627776 ≤ nw := by omega
  have t3 : ¬ nw < 0 := by omega
  have hw : wrap64 (nw + 1) = nw + 1 := wrap_in _ (by omega) (by omega)
  unfold Along at G1 G2 G3 G4 G5
  obtain ⟨ad, cap, rfl, _⟩ := id h
  clear k1 k2
  go_enter Try.func6, Try.ntmps6
  go_wp2_with fail
  refine (awake24_any _).mono ?_
  rintro e w1 ⟨rfl, hb1⟩
  have B1 := (A w _).trans (hb1.mono (by simp))
  obtain ⟨c0, c1, c2⟩ := span_below (span_cells w (.int .i64 st) (.int .i64 en) (.int .i64 nw) 23) hb1
  clear hb1
  go_wp2_with fail
  refine (G1 _ (h.below B1)).mono ?_
  rintro e w2 ⟨rfl, hb2⟩
  have B2 := B1.trans (hb2.mono B1.size)
  obtain ⟨d0, d1, d2⟩ := span_below ⟨c0, c1, c2⟩ hb2
  clear hb2 B1 c0 c1 c2
  go_wp2_with fail
  refine (G2 _ (h.below B2)).mono ?_
  rintro e w3 ⟨rfl, hb3⟩
  have B3 := B2.trans (hb3.mono B2.size)
  obtain ⟨c0, c1, c2⟩ := span_below ⟨d0, d1, d2⟩ hb3
  clear hb3 B2 d0 d1 d2
  go_wp2_with fail
  refine (G3 _ (h.below B3)).mono ?_
  rintro e w4 ⟨rfl, hb4⟩
  have B4 := B3.trans (hb4.mono B3.size)
  obtain ⟨d0, d1, d2⟩ := span_below ⟨c0, c1, c2⟩ hb4
  clear hb4 B3 c0 c1 c2
  go_wp2_with fail
  refine (G4 _ (h.below B4)).mono ?_
  rintro e w5 ⟨rfl, hb5⟩
  have B5 := B4.trans (hb5.mono B4.size)
  obtain ⟨c0, c1, c2⟩ := span_below ⟨d0, d1, d2⟩ hb5
  clear hb5 B4 d0 d1 d2
  obtain ⟨f0, f1, f2⟩ := span_below ⟨c0, c1, c2⟩ (A w5 (.cells #[.int .i64 3, .int .i64 3, .int .i64 3, .int .i64 3] 3))
  go_wp2_with fail
  refine (G5 _ _ (four_row w5 3 _)).mono ?_
  rintro e w6 ⟨rfl, hb6⟩
  have B6 := B5.trans (((A w5 _).trans (hb6.mono (by simp))).mono B5.size)
  obtain ⟨g0, g1, g2⟩ := span_below ⟨f0, f1, f2⟩ hb6
  clear hb6 B5 c0 c1 c2 f0 f1 f2
  go_wp2_with fail
  refine (G6 _).mono ?_
  rintro e w7 ⟨rfl, hb7⟩
  have B7 := B6.trans (hb7.mono B6.size)
  clear hb7 B6 g0 g1 g2
  go_wp2_with fail
  go_ret
  exact ⟨by simp, B7⟩
theorem paceRises_walk (w : World) (qty : Int) (_b0 : -9223372036854775808 ≤ qty ∧ qty ≤ 9223372036854775807) (zs : Nat → Int) (n : Nat) (v : Value) (h : Row w v n fun i => .int .i64 (zs i)) (hb : ∀ i, n ≤ i → zs i = 0) (_bd : ∀ i, -9223372036854775808 ≤ zs i ∧ zs i ≤ 9223372036854775807) (st : Int) (_c0 : -9223372036854775808 ≤ st ∧ st ≤ 9223372036854775807) (en : Int) (_c1 : -9223372036854775808 ≤ en ∧ en ≤ 9223372036854775807) (nw : Int) (_c2 : -9223372036854775808 ≤ nw ∧ nw ≤ 9223372036854775807) :
    Calls Try.prog 6 #[.int .i64 qty, v, .agg #[.int .i64 st, .int .i64 en, .int .i64 nw]] w fun e w' => e = .returned (.bool true) ∧ Below w.heap.size w w' := by
  by_cases hi : n ≤ 64 ∧ 0 ≤ nw ∧ nw < 1099511627776
  · obtain ⟨hn, k1, k2⟩ := hi
    by_cases hc : pacE qty st en nw = 0 ∧ Curve zs n
    · obtain ⟨hp, hc⟩ := hc
      have F := fine_of hp
      have F2 : Fine qty st en (nw + 1) := ⟨F.q0, F.q1, F.s0, F.s1, F.e0, F.e1, by omega, by omega, F.a0, F.a1⟩
      have s0 := F.s0
      have s1 := F.s1
      have e0 := F.e0
      have e1 := F.e1
      have es : max (min st 1099511627776) 0 = st := by omega
      have ee : max (min en 1099511627776) 0 = en := by omega
      have F3 : Fine qty st en st := ⟨F.q0, F.q1, F.s0, F.s1, F.e0, F.e1, s0, s1, F.a0, F.a1⟩
      have F4 : Fine qty st en en := ⟨F.q0, F.q1, F.s0, F.s1, F.e0, F.e1, e0, e1, F.a0, F.a1⟩
      have d1 := target_bd hc F.q0 (gone_asked F)
      have d2 := target_bd hc F.q0 (gone_asked F2)
      have d3 := target_mono hc F.q0 F.a0 (PA.gone_bd F).1 (gone_mono (nw := nw) F.a0)
      refine rises_right qty zs n v w st en nw h hn k1 k2 _ _ _ (by omega) (by omega) (by omega) (fun w hr => vwap_good qty st en nw zs n v w hr hc F _ rfl) (fun w hr => vwap_good qty st en (nw + 1) zs n v w hr hc F2 _ rfl) (fun w hr => ?_) (fun w hr => ?_) (fun v w hr => ?_) (fun w => twap_good qty st en nw w F _ rfl)
      · rw [es]
        exact vwap_good qty st en st zs n v w hr hc F3 0 (by show _ = _; rw [gone_start F.a0 (Int.le_refl _), target_zero F.a0])
      · rw [ee]
        exact vwap_good qty st en en zs n v w hr hc F4 qty (by show _ = _; rw [gone_end F.a0 (Int.le_refl _), target_all hc F.a0])
      · exact vwap_good qty st en nw (flat 4 3) 4 v w hr (flat_curve 4 3 (by omega) (by omega) (by omega) (by omega)) F _ (flat_target 4 3 (by omega) (by omega) (gone_asked F))
    · obtain ⟨E, h0, G⟩ := along_wrong zs n v hb qty st en nw hc
      exact rises_wrong qty zs n v w st en nw h hn k1 k2 E h0 G
  · obtain ⟨a, cap, rfl, _⟩ := h
    exact rises_idle qty n cap a w st en nw (by omega)
theorem paceRises_own : ownKnob Try.prog.godebug = none := by kernel_rfl
theorem paceRises_laidOut : laidOutB Try.prog = true := by kernel_rfl
set_option maxRecDepth 100000 in
theorem paceRises_lifted (os : Os) (started : os.Started) (H : Type) (enc : TypeId × Value → H) :
    ReturnsInHanded {} Try.checked os 6 .any (Rows.paceRisesSpec.pre6 enc Try.prog Try.f6 Rows.paceRisesRow.domain false) (Rows.paceRisesSpec.post enc Try.prog Try.f6 false true false false) := by
  refine returnsInHanded_of_change (C := Try.checked) paceRises_own started (by kernel_rfl) Try.func6
    (ChangeSpec.witness6 (enc := enc) (C := Try.checked) false ⟨#[], #[.int .i64 0, .slice none 0 0, .agg #[.int .i64 0, .int .i64 0, .int .i64 0]], []⟩ 8 (by kernel_rfl) (by kernel_rfl) (by kernel_rfl) (by kernel_rfl)) ?_
  intro W base args ds gs before hval0 hW hcnd _
  have hval : ∀ (j : Nat) t v, Try.f6.params[j]? = some t → args[j]? = some v → Value.okWide Try.prog W .any base t v := hval0
  have hW' := hW
  obtain ⟨p, q, hA0, hV, rfl, hfz, hnd⟩ := hW
  have hA : DataW.TrodAll enc Try.prog W 0 (fun _ => true) true Try.f6.params.toList args.toList ds p := hA0
  rw [Try.params6] at hA hval
  obtain ⟨v0, vs0, d0, ds0, p0, q0, hargs, rfl, rfl, h0, r0⟩ := trodAll_cons hA
  obtain ⟨v1, vs1, d1, ds1, p1, q1, rfl, rfl, rfl, h1, r1⟩ := trodAll_cons r0
  obtain ⟨v2, vs2, d2, ds2, p2, q2, rfl, rfl, rfl, h2, r2⟩ := trodAll_cons r1
  obtain ⟨rfl, rfl, rfl⟩ := trodAll_nil r2
  obtain rfl : args = #[v0, v1, v2] := by cases args; simp_all
  obtain ⟨rfl, rfl⟩ := trodVars_none hV
  obtain ⟨a0, rfl, rfl, rfl, w0⟩ := open_int Try.underlying3 (hval 0 3 v0 rfl rfl) h0
  have bd0 := bounds_i64 w0
  obtain ⟨ad1, n1, cap1, rfl⟩ := okWide_slice Try.underlying31 (hval 1 31 v1 rfl rfl)
  have k1 := h1
  have lt1 : ∀ x ∈ p1, x.block < W.heap.size := by obtain ⟨m, hm⟩ := k1; exact DataW.trod_lt m _ _ _ hm
  obtain ⟨f1, row1, be1, bd1⟩ : ∃ f : Nat → Int, Row W (.slice ad1 n1 cap1) n1 (fun i => .int .i64 (f i)) ∧ (∀ i, n1 ≤ i → f i = 0) ∧ ∀ i, -9223372036854775808 ≤ f i ∧ f i ≤ 9223372036854775807 := by
    obtain ⟨fuel, hf⟩ := h1
    rcases open_ints Try.underlying31 Try.underlying3 (by kernel_rfl) hf with ⟨hcs, _⟩ | ⟨x, l, c, zs, hcs, _, hl, hm, hz, _, hcell, hwz⟩
    · simp [Value.cells] at hcs
      obtain ⟨rfl, rfl, rfl⟩ := hcs
      exact row_none W
    · simp [Value.cells] at hcs
      obtain ⟨rfl, rfl, rfl⟩ := hcs
      exact row_some hl hm (by simpa using hz) hcell (fun z hz => bounds_i64 (hwz z hz))
  obtain ⟨f20, f21, f22, y20, y21, y22, m2, rfl, rfl, rfl, g20, g21, g22⟩ := Joins.open_agg3 Try.underlying23 (by kernel_rfl) (by kernel_rfl) (hval 2 23 v2 rfl rfl) h2
  obtain ⟨x2, ex2, rfl, wx2⟩ := DataW.trod_int Try.underlying3 g20
  obtain ⟨y2, ey2, rfl, wy2⟩ := DataW.trod_int Try.underlying3 g21
  obtain ⟨z2, ez2, rfl, wz2⟩ := DataW.trod_int Try.underlying3 g22
  simp only [List.cons.injEq, and_true] at ex2 ey2 ez2
  subst ex2 ey2 ez2
  have bx2 := bounds_i64 wx2
  have by2 := bounds_i64 wy2
  have bz2 := bounds_i64 wz2
  clear hA0 hval0
  simp only [List.append_nil, List.nil_append] at hW'
  refine (paceRises_walk W a0 bd0 f1 n1 _ row1 be1 bd1 x2 bx2 y2 by2 z2 bz2).mono fun e W' ⟨he, bel⟩ => ?_
  subst he
  exact ⟨_, rfl, _, _, _, [], _, [], hW', trodAll_mk1 (shut_bool Try.underlying4 _), (trodAll_cons_mk (shut_int Try.underlying3 w0) (trodAll_cons_mk (Below.trod paceRises_laidOut (by kernel_rfl) (of_decide_eq_true (by kernel_rfl)) k1 bel lt1) (trodAll_cons_mk (Joins.shut_agg3 (P := Try.prog) (y0 := (.lit (.int .i64 x2), [])) (y1 := (.lit (.int .i64 y2), [])) (y2 := (.lit (.int .i64 z2), [])) Try.underlying23 (by kernel_rfl) (by kernel_rfl) ⟨1, by simp [DataW.trod, Try.underlying3, wx2]⟩ ⟨1, by simp [DataW.trod, Try.underlying3, wy2]⟩ ⟨1, by simp [DataW.trod, Try.underlying3, wz2]⟩) trodAll_mk0))), rfl, bel.frame _, fun h => by cases h⟩

/-- THE STATEMENT. -/
theorem paceRises_proved : Rows.PaceRisesSaid :=
  OpenClaim.holds_of_wide 6 Try.f6 rfl rfl rfl rfl rfl rfl rfl ⟨rfl, rfl, rfl, rfl, rfl⟩ rfl rfl rfl rfl rfl (by kernel_rfl) Try.func6 (by kernel_rfl)
    (of_decide_eq_true (by kernel_rfl)) (by unfold Func.isWrapper; first | (rw [if_pos (by decide +kernel)]; kernel_rfl) | (rw [if_neg (by decide +kernel)]; exact ⟨rfl, rfl⟩))
    (fun os started H enc _ => paceRises_lifted os started H enc)
#print axioms paceRises_proved
end Go.Proofs.Ytcjbokbdgpbjoaa
