/-
  For every quantity and weights the Go function CurveSpreads, over the landed program, returns true and leaves its arguments and all old memory as they were. No condition.
-/
import Derived.Test.YtipgajilchkneaaCurveAwake
import Derived.Test.YtipgajilchkneaaRef3Spread
import Derived.Test.YtipgajilchkneaaFrame3
namespace Go.Proofs.Ytipgajilchkneaa
open Go.ChangeShapes Go.WideShapes Go.ChangeAt Go.RowKit

set_option maxHeartbeats 1000000 in
theorem spreads_long (qty : Int) (n cap : Nat) (a : Option Addr) (w : World) (hn : 300 < n) :
    Calls Try.prog 5 #[.int .i64 qty, .slice a n cap] w fun e w' => e = .returned (.bool true) ∧ Below w.heap.size w w' := by
  have t : (300 : Int) < (n : Int) := by omega
  go_enter Try.func5, Try.ntmps5
  go_wp2_with fail
  refine (awake3_any _).mono ?_
  rintro e w1 ⟨rfl, hb1⟩
  go_wp2_with fail
  go_ret
  exact ⟨rfl, hb1⟩
set_option maxHeartbeats 1000000 in
theorem spreads_wrong (qty : Int) (zs : Nat → Int) (n : Nat) (v : Value) (w : World) (h : Row w v n fun i => .int .i64 (zs i)) (hb : ∀ i, n ≤ i → zs i = 0) (hn : n ≤ 300) (hc : ¬ Curve zs n) :
    Calls Try.prog 5 #[.int .i64 qty, v] w fun e w' => e = .returned (.bool true) ∧ Below w.heap.size w w' := by
  have t : ¬ (300 : Int) < (n : Int) := by omega
  have P := fun w h => spread_wrong qty zs n v w h hb hc
  have R := fun w h => right_no zs n v w h hb hc
  obtain ⟨a, cap, rfl, _⟩ := id h
  go_enter Try.func5, Try.ntmps5
  go_wp2_with fail
  refine (awake3_any _).mono ?_
  rintro e w1 ⟨rfl, hb1⟩
  go_wp2_with fail
  refine (P _ (h.below hb1)).mono ?_
  rintro e w2 ⟨rfl, hb2⟩
  have B2 := hb1.trans (hb2.mono hb1.size)
  clear hb1 hb2
  go_wp2_with fail
  refine (R _ (h.below B2)).mono ?_
  rintro e w3 ⟨rfl, hw3⟩
  subst hw3
  go_wp2_with fail
  go_ret
  exact ⟨by simp, B2⟩
set_option maxHeartbeats 1000000 in
theorem spreads_qty (qty : Int) (zs : Nat → Int) (n : Nat) (v : Value) (w : World) (h : Row w v n fun i => .int .i64 (zs i)) (hc : Curve zs n) (ho : qty < 0 ∨ (0 ≤ qty ∧ 1099511627776 < qty)) :
    Calls Try.prog 5 #[.int .i64 qty, v] w fun e w' => e = .returned (.bool true) ∧ Below w.heap.size w w' := by
  have t : ¬ (300 : Int) < (n : Int) := by have := hc.len; omega
  have P := fun w h => spread_arg qty zs n v w h hc (by omega)
  have R := fun w h => right_yes zs n v w h hc
  obtain ⟨a, cap, rfl, _⟩ := id h
  rcases ho with o1 | ⟨o1, o2⟩
  all_goals
    go_enter Try.func5, Try.ntmps5
    go_wp2_with fail
    refine (awake3_any _).mono ?_
    rintro e w1 ⟨rfl, hb1⟩
    go_wp2_with fail
    refine (P _ (h.below hb1)).mono ?_
    rintro e w2 ⟨rfl, hb2⟩
    have B2 := hb1.trans (hb2.mono hb1.size)
    clear hb1 hb2
    go_wp2_with fail
    refine (R _ (h.below B2)).mono ?_
    rintro e w3 ⟨rfl, hw3⟩
    subst hw3
    go_wp2_with fail
    go_ret
    exact ⟨by simp, B2⟩
set_option maxHeartbeats 1000000 in
theorem spreads_in (qty : Int) (zs : Nat → Int) (n : Nat) (v : Value) (w : World) (h : Row w v n fun i => .int .i64 (zs i)) (hc : Curve zs n) (o1 : 0 ≤ qty) (o2 : qty ≤ 1099511627776) :
    Calls Try.prog 5 #[.int .i64 qty, v] w fun e w' => e = .returned (.bool true) ∧ Below w.heap.size w w' := by
  have t : ¬ (300 : Int) < (n : Int) := by have := hc.len; omega
  have hlen := hc.len
  have P := fun w h => spread_right qty zs n v w h hc o1 o2
  have Q := fun w h => spreadR_any qty zs n v w h hc o1 o2
  have R := fun w h => right_yes zs n v w h hc
  generalize dueOf zs n qty = due at *
  obtain ⟨a, cap, rfl, _⟩ := id h
  go_enter Try.func5, Try.ntmps5
  go_wp2_with fail
  refine (awake3_any _).mono ?_
  rintro e w1 ⟨rfl, hb1⟩
  go_wp2_with fail
  refine (P _ (h.below hb1)).mono ?_
  rintro e w2 ⟨v2, rfl, hb2, r2⟩
  have B2 := hb1.trans (hb2.mono hb1.size)
  clear hb1 hb2
  obtain ⟨a2, cap2, rfl, _⟩ := id r2
  go_wp2_with fail
  refine (R _ (h.below B2)).mono ?_
  rintro e w3 ⟨rfl, hw3⟩
  subst hw3
  go_wp2_with fail
  refine (Q _ (h.below B2)).mono ?_
  rintro e w4 ⟨v4, rfl, hb4, r4⟩
  have B4 := B2.trans (hb4.mono B2.size)
  have r24 := r2.below hb4
  clear r2 hb4 B2
  obtain ⟨a4, cap4, rfl, _⟩ := id r4
  go_wp2_with fail
  refine (same_yes (fun i => due (i + 1) - due i) n _ _ _ (by omega) r24 r4).mono ?_
  rintro e w5 ⟨rfl, hb5⟩
  go_wp2_with fail
  go_ret
  exact ⟨by simp, B4.trans (hb5.mono B4.size)⟩
theorem curveSpreads_walk (w : World) (qty : Int) (zs : Nat → Int) (n : Nat) (v : Value) (h : Row w v n fun i => .int .i64 (zs i)) (hb : ∀ i, n ≤ i → zs i = 0) (_bd : ∀ i, -9223372036854775808 ≤ zs i ∧ zs i ≤ 9223372036854775807) :
    Calls Try.prog 5 #[.int .i64 qty, v] w fun e w' => e = .returned (.bool true) ∧ Below w.heap.size w w' := by
  by_cases hn : 300 < n
  · obtain ⟨a, cap, rfl, _⟩ := h
    exact spreads_long qty n cap a w hn
  by_cases hc : Curve zs n
  · by_cases hi : 0 ≤ qty ∧ qty ≤ 1099511627776
    · exact spreads_in qty zs n v w h hc hi.1 hi.2
    · exact spreads_qty qty zs n v w h hc (by omega)
  · exact spreads_wrong qty zs n v w h hb (by omega) hc
theorem curveSpreads_own : ownKnob Try.prog.godebug = none := by kernel_rfl
theorem curveSpreads_laidOut : laidOutB Try.prog = true := by kernel_rfl
set_option maxRecDepth 100000 in
theorem curveSpreads_lifted (os : Os) (started : os.Started) (H : Type) (enc : TypeId × Value → H) :
    ReturnsInHanded {} Try.checked os 5 .any (Rows.curveSpreadsSpec.pre6 enc Try.prog Try.f5 Rows.curveSpreadsRow.domain false) (Rows.curveSpreadsSpec.post enc Try.prog Try.f5 false true false false) := by
  refine returnsInHanded_of_change (C := Try.checked) curveSpreads_own started (by kernel_rfl) Try.func5
    (ChangeSpec.witness6 (enc := enc) (C := Try.checked) false ⟨#[], #[.int .i64 0, .slice none 0 0], []⟩ 8 (by kernel_rfl) (by kernel_rfl) (by kernel_rfl) (by kernel_rfl)) ?_
  intro W base args ds gs before hval0 hW hcnd _
  have hval : ∀ (j : Nat) t v, Try.f5.params[j]? = some t → args[j]? = some v → Value.okWide Try.prog W .any base t v := hval0
  have hW' := hW
  obtain ⟨p, q, hA0, hV, rfl, hfz, hnd⟩ := hW
  have hA : DataW.TrodAll enc Try.prog W 0 (fun _ => true) true Try.f5.params.toList args.toList ds p := hA0
  rw [Try.params5] at hA hval
  obtain ⟨v0, vs0, d0, ds0, p0, q0, hargs, rfl, rfl, h0, r0⟩ := trodAll_cons hA
  obtain ⟨v1, vs1, d1, ds1, p1, q1, rfl, rfl, rfl, h1, r1⟩ := trodAll_cons r0
  obtain ⟨rfl, rfl, rfl⟩ := trodAll_nil r1
  obtain rfl : args = #[v0, v1] := by cases args; simp_all
  obtain ⟨rfl, rfl⟩ := trodVars_none hV
  obtain ⟨a0, rfl, rfl, rfl, w0⟩ := open_int Try.underlying3 (hval 0 3 v0 rfl rfl) h0
  have bd0 := bounds_i64 w0
  obtain ⟨ad1, n1, cap1, rfl⟩ := okWide_slice Try.underlying22 (hval 1 22 v1 rfl rfl)
  have k1 := h1
  have lt1 : ∀ x ∈ p1, x.block < W.heap.size := by obtain ⟨m, hm⟩ := k1; exact DataW.trod_lt m _ _ _ hm
  obtain ⟨f1, row1, be1, bd1⟩ : ∃ f : Nat → Int, Row W (.slice ad1 n1 cap1) n1 (fun i => .int .i64 (f i)) ∧ (∀ i, n1 ≤ i → f i = 0) ∧ ∀ i, -9223372036854775808 ≤ f i ∧ f i ≤ 9223372036854775807 := by
    obtain ⟨fuel, hf⟩ := h1
    rcases open_ints Try.underlying22 Try.underlying3 (by kernel_rfl) hf with ⟨hcs, _⟩ | ⟨x, l, c, zs, hcs, _, hl, hm, hz, _, hcell, hwz⟩
    · simp [Value.cells] at hcs
      obtain ⟨rfl, rfl, rfl⟩ := hcs
      exact row_none W
    · simp [Value.cells] at hcs
      obtain ⟨rfl, rfl, rfl⟩ := hcs
      exact row_some hl hm (by simpa using hz) hcell (fun z hz => bounds_i64 (hwz z hz))
  clear hA0 hval0
  simp only [List.append_nil, List.nil_append] at hW'
  refine (curveSpreads_walk W a0 f1 n1 _ row1 be1 bd1).mono fun e W' ⟨he, bel⟩ => ?_
  subst he
  exact ⟨_, rfl, _, _, _, [], _, [], hW', trodAll_mk1 (shut_bool Try.underlying4 _), (trodAll_cons_mk (shut_int Try.underlying3 w0) (trodAll_cons_mk (Below.trod curveSpreads_laidOut (by kernel_rfl) (of_decide_eq_true (by kernel_rfl)) k1 bel lt1) trodAll_mk0)), rfl, bel.frame _, fun h => by cases h⟩

/-- THE STATEMENT. -/
theorem curveSpreads_proved : Rows.CurveSpreadsSaid :=
  OpenClaim.holds_of_wide 5 Try.f5 rfl rfl rfl rfl rfl rfl rfl ⟨rfl, rfl, rfl, rfl, rfl⟩ rfl rfl rfl rfl rfl (by kernel_rfl) Try.func5 (by kernel_rfl)
    (of_decide_eq_true (by kernel_rfl)) (by unfold Func.isWrapper; first | (rw [if_pos (by decide +kernel)]; kernel_rfl) | (rw [if_neg (by decide +kernel)]; exact ⟨rfl, rfl⟩))
    (fun os started H enc _ => curveSpreads_lifted os started H enc)
#print axioms curveSpreads_proved
end Go.Proofs.Ytipgajilchkneaa
