/-
  For every quantity, weights and span the Go function PaceVwaps, over the landed program, returns true and leaves its arguments and all old memory as they were. No condition.
-/
import Derived.Test.YtcjbokbdgpbjoaaPaLaws
namespace Go.Proofs.Ytcjbokbdgpbjoaa
open Go.ChangeShapes Go.WideShapes Go.ChangeAt Go.RowKit PA

set_option maxHeartbeats 1000000 in
theorem vwaps_long (qty : Int) (n cap : Nat) (a : Option Addr) (w : World) (st en nw : Int) (hn : 200 < n) :
    Calls Try.prog 4 #[.int .i64 qty, .slice a n cap, .agg #[.int .i64 st, .int .i64 en, .int .i64 nw]] w fun e w' => e = .returned (.bool true) ∧ Below w.heap.size w w' := by
  have t : (200 : Int) < (n : Int) := by omega
  have A : ∀ (w : World) (o : Obj), Below w.heap.size w (w.alloc o) := fun w o => (Below.refl _ w).alloc (Nat.le_refl _) _
  go_enter Try.func4, Try.ntmps4
  go_wp2_with fail
  refine (awake24_any _).mono ?_
  rintro e w1 ⟨rfl, hb1⟩
  have B1 := (A w _).trans (hb1.mono (by simp))
  clear hb1
  go_wp2_with fail
  go_ret
  exact ⟨rfl, B1⟩
set_option maxHeartbeats 1000000 in
theorem vwaps_on (qty : Int) (zs : Nat → Int) (n : Nat) (v : Value) (w : World) (st en nw : Int) (h : Row w v n fun i => .int .i64 (zs i)) (hn : n ≤ 200) (x E : Int) (G : Along zs n v qty st en nw x E) (R : AlongR zs n v qty st en nw x E) :
    Calls Try.prog 4 #[.int .i64 qty, v, .agg #[.int .i64 st, .int .i64 en, .int .i64 nw]] w fun e w' => e = .returned (.bool true) ∧ Below w.heap.size w w' := by
  have t : ¬ (200 : Int) < (n : Int) := by omega
  have A : ∀ (w : World) (o : Obj), Below w.heap.size w (w.alloc o) := fun w o => (Below.refl _ w).alloc (Nat.le_refl _) _
  unfold Along at G
  unfold AlongR at R
  obtain ⟨a, cap, rfl, _⟩ := id h
  go_enter Try.func4, Try.ntmps4
  go_wp2_with fail
  refine (awake24_any _).mono ?_
  rintro e w1 ⟨rfl, hb1⟩
  have B1 := (A w _).trans (hb1.mono (by simp))
  obtain ⟨c0, c1, c2⟩ := span_below (span_cells w (.int .i64 st) (.int .i64 en) (.int .i64 nw) 23) hb1
  clear hb1
  go_wp2_with fail
  refine (G _ (h.below B1)).mono ?_
  rintro e w2 ⟨rfl, hb2⟩
  have B2 := B1.trans (hb2.mono B1.size)
  obtain ⟨d0, d1, d2⟩ := span_below ⟨c0, c1, c2⟩ hb2
  clear hb2 B1 c0 c1 c2
  go_wp2_with fail
  refine (R _ (h.below B2)).mono ?_
  rintro e w3 ⟨rfl, hb3⟩
  have B3 := B2.trans (hb3.mono B2.size)
  clear hb3 B2 d0 d1 d2
  go_wp2_with fail
  go_ret
  exact ⟨by simp, B3⟩
theorem paceVwaps_walk (w : World) (qty : Int) (_b0 : -9223372036854775808 ≤ qty ∧ qty ≤ 9223372036854775807) (zs : Nat → Int) (n : Nat) (v : Value) (h : Row w v n fun i => .int .i64 (zs i)) (hb : ∀ i, n ≤ i → zs i = 0) (_bd : ∀ i, -9223372036854775808 ≤ zs i ∧ zs i ≤ 9223372036854775807) (st : Int) (_c0 : -9223372036854775808 ≤ st ∧ st ≤ 9223372036854775807) (en : Int) (_c1 : -9223372036854775808 ≤ en ∧ en ≤ 9223372036854775807) (nw : Int) (_c2 : -9223372036854775808 ≤ nw ∧ nw ≤ 9223372036854775807) :
    Calls Try.prog 4 #[.int .i64 qty, v, .agg #[.int .i64 st, .int .i64 en, .int .i64 nw]] w fun e w' => e = .returned (.bool true) ∧ Below w.heap.size w w' := by
  by_cases hn : 200 < n
  · obtain ⟨a, cap, rfl, _⟩ := h
    exact vwaps_long qty n cap a w st en nw hn
  obtain ⟨x, E, G, R⟩ := along_same zs n v hb qty st en nw
  exact vwaps_on qty zs n v w st en nw h (by omega) x E G R
theorem paceVwaps_own : ownKnob Try.prog.godebug = none := by kernel_rfl
theorem paceVwaps_laidOut : laidOutB Try.prog = true := by kernel_rfl
set_option maxRecDepth 100000 in
theorem paceVwaps_lifted (os : Os) (started : os.Started) (H : Type) (enc : TypeId × Value → H) :
    ReturnsInHanded {} Try.checked os 4 .any (Rows.paceVwapsSpec.pre6 enc Try.prog Try.f4 Rows.paceVwapsRow.domain false) (Rows.paceVwapsSpec.post enc Try.prog Try.f4 false true false false) := by
  refine returnsInHanded_of_change (C := Try.checked) paceVwaps_own started (by kernel_rfl) Try.func4
    (ChangeSpec.witness6 (enc := enc) (C := Try.checked) false ⟨#[], #[.int .i64 0, .slice none 0 0, .agg #[.int .i64 0, .int .i64 0, .int .i64 0]], []⟩ 8 (by kernel_rfl) (by kernel_rfl) (by kernel_rfl) (by kernel_rfl)) ?_
  intro W base args ds gs before hval0 hW hcnd _
  have hval : ∀ (j : Nat) t v, Try.f4.params[j]? = some t → args[j]? = some v → Value.okWide Try.prog W .any base t v := hval0
  have hW' := hW
  obtain ⟨p, q, hA0, hV, rfl, hfz, hnd⟩ := hW
  have hA : DataW.TrodAll enc Try.prog W 0 (fun _ => true) true Try.f4.params.toList args.toList ds p := hA0
  rw [Try.params4] at hA hval
  obtain ⟨v0, vs0, d0, ds0, p0, q0, hargs, rfl, rfl, h0, r0⟩ := trodAll_cons hA
  obtain ⟨v1, vs1, d1, ds1, p1, q1, rfl, rfl, rfl, h1, r1⟩ := trodAll_cons r0
  obtain ⟨v2, vs2, d2, ds2, p2, q2, rfl, rfl, rfl, h2, r2⟩ := trodAll_cons r1
  obtain ⟨rfl, rfl, rfl⟩ := trodAll_nil r2
  obtain rfl : args = #[v0, v1, v2] := by cases args; simp_all
  obtain ⟨rfl, rfl⟩ := trodVars_none hV
  obtain ⟨a0, rfl, rfl, rfl, w0⟩ := open_int Try.underlying3 (hval 0 3 v0 rfl rfl) h0
  have bd0 := bounds_i64 w0
  obtain ⟨ad1, n1, cap1, rfl⟩ := okWide_slice Try.underlying31 (hval 1 31 v1 rfl rfl)
  have k1 := h1
  have lt1 : ∀ x ∈ p1, x.block < W.heap.size := by obtain ⟨m, hm⟩ := k1; exact DataW.trod_lt m _ _ _ hm
  obtain ⟨f1, row1, be1, bd1⟩ : ∃ f : Nat → Int, Row W (.slice ad1 n1 cap1) n1 (fun i => .int .i64 (f i)) ∧ (∀ i, n1 ≤ i → f i = 0) ∧ ∀ i, -9223372036854775808 ≤ f i ∧ f i ≤ 9223372036854775807 := by
    obtain ⟨fuel, hf⟩ := h1
    rcases open_ints Try.underlying31 Try.underlying3 (by kernel_rfl) hf with ⟨hcs, _⟩ | ⟨x, l, c, zs, hcs, _, hl, hm, hz, _, hcell, hwz⟩
    · simp [Value.cells] at hcs
      obtain ⟨rfl, rfl, rfl⟩ := hcs
      exact row_none W
    · simp [Value.cells] at hcs
      obtain ⟨rfl, rfl, rfl⟩ := hcs
      exact row_some hl hm (by simpa using hz) hcell (fun z hz => bounds_i64 (hwz z hz))
  obtain ⟨f20, f21, f22, y20, y21, y22, m2, rfl, rfl, rfl, g20, g21, g22⟩ := Joins.open_agg3 Try.underlying23 (by kernel_rfl) (by kernel_rfl) (hval 2 23 v2 rfl rfl) h2
  obtain ⟨x2, ex2, rfl, wx2⟩ := DataW.trod_int Try.underlying3 g20
  obtain ⟨y2, ey2, rfl, wy2⟩ := DataW.trod_int Try.underlying3 g21
  obtain ⟨z2, ez2, rfl, wz2⟩ := DataW.trod_int Try.underlying3 g22
  simp only [List.cons.injEq, and_true] at ex2 ey2 ez2
  subst ex2 ey2 ez2
  have bx2 := bounds_i64 wx2
  have by2 := bounds_i64 wy2
  have bz2 := bounds_i64 wz2
  clear hA0 hval0
  simp only [List.append_nil, List.nil_append] at hW'
  refine (paceVwaps_walk W a0 bd0 f1 n1 _ row1 be1 bd1 x2 bx2 y2 by2 z2 bz2).mono fun e W' ⟨he, bel⟩ => ?_
  subst he
  exact ⟨_, rfl, _, _, _, [], _, [], hW', trodAll_mk1 (shut_bool Try.underlying4 _), (trodAll_cons_mk (shut_int Try.underlying3 w0) (trodAll_cons_mk (Below.trod paceVwaps_laidOut (by kernel_rfl) (of_decide_eq_true (by kernel_rfl)) k1 bel lt1) (trodAll_cons_mk (Joins.shut_agg3 (P := Try.prog) (y0 := (.lit (.int .i64 x2), [])) (y1 := (.lit (.int .i64 y2), [])) (y2 := (.lit (.int .i64 z2), [])) Try.underlying23 (by kernel_rfl) (by kernel_rfl) ⟨1, by simp [DataW.trod, Try.underlying3, wx2]⟩ ⟨1, by simp [DataW.trod, Try.underlying3, wy2]⟩ ⟨1, by simp [DataW.trod, Try.underlying3, wz2]⟩) trodAll_mk0))), rfl, bel.frame _, fun h => by cases h⟩

/-- THE STATEMENT. -/
theorem paceVwaps_proved : Rows.PaceVwapsSaid :=
  OpenClaim.holds_of_wide 4 Try.f4 rfl rfl rfl rfl rfl rfl rfl ⟨rfl, rfl, rfl, rfl, rfl⟩ rfl rfl rfl rfl rfl (by kernel_rfl) Try.func4 (by kernel_rfl)
    (of_decide_eq_true (by kernel_rfl)) (by unfold Func.isWrapper; first | (rw [if_pos (by decide +kernel)]; kernel_rfl) | (rw [if_neg (by decide +kernel)]; exact ⟨rfl, rfl⟩))
    (fun os started H enc _ => paceVwaps_lifted os started H enc)
#print axioms paceVwaps_proved
end Go.Proofs.Ytcjbokbdgpbjoaa
