/-
  For every quantity, weights, time and span the Go function CurveTargets, over the landed program, returns true and leaves its arguments and all old memory as they were. No condition.
-/
import Derived.Test.YtipgajilchkneaaCurveAwake
import Derived.Test.YtipgajilchkneaaRef3Target
import Derived.Test.YtipgajilchkneaaFrame3
namespace Go.Proofs.Ytipgajilchkneaa
open Go.ChangeShapes Go.WideShapes Go.ChangeAt Go.RowKit

theorem pair_same {w w' : World} {b : Nat} {x y : Value} (h : w.cell? ⟨b, 0, none⟩ = some x ∧ w.cell? ⟨b, 1, none⟩ = some y) (hb : Below w.heap.size w w') : w'.cell? ⟨b, 0, none⟩ = some x ∧ w'.cell? ⟨b, 1, none⟩ = some y :=
  pair_below h hb (World.block_lt_of_cell? _ _ h.1)

set_option maxHeartbeats 1000000 in
theorem targets_long (qty : Int) (n cap : Nat) (a : Option Addr) (w : World) (T span : Int) (hn : 300 < n) :
    Calls Try.prog 4 #[.int .i64 qty, .slice a n cap, .agg #[.int .i64 T, .int .i64 span]] w fun e w' => e = .returned (.bool true) ∧ Below w.heap.size w w' := by
  have t : (300 : Int) < (n : Int) := by omega
  have A : ∀ (w : World) (o : Obj), Below w.heap.size w (w.alloc o) := fun w o => (Below.refl _ w).alloc (Nat.le_refl _) _
  go_enter Try.func4, Try.ntmps4
  go_wp2_with fail
  refine (awake3_any _).mono ?_
  rintro e w1 ⟨rfl, hb1⟩
  have B1 := (A w _).trans (hb1.mono (by simp))
  clear hb1
  go_wp2_with fail
  go_ret
  exact ⟨rfl, B1⟩
set_option maxHeartbeats 2000000 in
theorem targets_wrong (qty : Int) (zs : Nat → Int) (n : Nat) (v : Value) (w : World) (T span : Int) (h : Row w v n fun i => .int .i64 (zs i)) (hb : ∀ i, n ≤ i → zs i = 0) (hn : n ≤ 300) (hc : ¬ Curve zs n) :
    Calls Try.prog 4 #[.int .i64 qty, v, .agg #[.int .i64 T, .int .i64 span]] w fun e w' => e = .returned (.bool true) ∧ Below w.heap.size w w' := by
  have t : ¬ (300 : Int) < (n : Int) := by omega
  have A : ∀ (w : World) (o : Obj), Below w.heap.size w (w.alloc o) := fun w o => (Below.refl _ w).alloc (Nat.le_refl _) _
  have D := fun w h => done_wrong zs n v w h hb hc T span
  have G := fun w h => target_wrong qty zs n v w h hb hc T span
  have R := fun w h => right_no zs n v w h hb hc
  obtain ⟨a, cap, rfl, _⟩ := id h
  go_enter Try.func4, Try.ntmps4
  go_wp2_with fail
  refine (awake3_any _).mono ?_
  rintro e w1 ⟨rfl, hb1⟩
  have B1 := (A w _).trans (hb1.mono (by simp))
  obtain ⟨c0, c1⟩ := pair_same (pair_cells w (.int .i64 T) (.int .i64 span) 31) hb1
  clear hb1
  go_wp2_with fail
  refine (D _ (h.below B1)).mono ?_
  rintro e w2 ⟨rfl, hb2⟩
  have B2 := B1.trans (hb2.mono B1.size)
  obtain ⟨d0, d1⟩ := pair_same ⟨c0, c1⟩ hb2
  clear hb2 B1 c0 c1
  go_wp2_with fail
  refine (G _ (h.below B2)).mono ?_
  rintro e w3 ⟨rfl, hb3⟩
  have B3 := B2.trans (hb3.mono B2.size)
  clear hb3 B2 d0 d1
  go_wp2_with fail
  refine (R _ (h.below B3)).mono ?_
  rintro e w4 ⟨rfl, hw4⟩
  subst hw4
  go_wp2_with fail
  go_ret
  exact ⟨by simp, B3⟩
set_option maxHeartbeats 2000000 in
theorem targets_arg (qty : Int) (zs : Nat → Int) (n : Nat) (v : Value) (w : World) (T span : Int) (h : Row w v n fun i => .int .i64 (zs i)) (hc : Curve zs n) (ha : ¬ Asked T span) :
    Calls Try.prog 4 #[.int .i64 qty, v, .agg #[.int .i64 T, .int .i64 span]] w fun e w' => e = .returned (.bool true) ∧ Below w.heap.size w w' := by
  have t : ¬ (300 : Int) < (n : Int) := by have := hc.len; omega
  have A : ∀ (w : World) (o : Obj), Below w.heap.size w (w.alloc o) := fun w o => (Below.refl _ w).alloc (Nat.le_refl _) _
  have D := fun w h => done_arg zs n v w h hc T span ha
  have G := fun w h => target_arg qty zs n v w h hc T span ha
  have R := fun w h => right_yes zs n v w h hc
  have K := fun w => askedR_no T span w ha
  clear ha
  obtain ⟨a, cap, rfl, _⟩ := id h
  go_enter Try.func4, Try.ntmps4
  go_wp2_with fail
  refine (awake3_any _).mono ?_
  rintro e w1 ⟨rfl, hb1⟩
  have B1 := (A w _).trans (hb1.mono (by simp))
  obtain ⟨c0, c1⟩ := pair_same (pair_cells w (.int .i64 T) (.int .i64 span) 31) hb1
  clear hb1
  go_wp2_with fail
  refine (D _ (h.below B1)).mono ?_
  rintro e w2 ⟨rfl, hb2⟩
  have B2 := B1.trans (hb2.mono B1.size)
  obtain ⟨d0, d1⟩ := pair_same ⟨c0, c1⟩ hb2
  clear hb2 B1 c0 c1
  go_wp2_with fail
  refine (G _ (h.below B2)).mono ?_
  rintro e w3 ⟨rfl, hb3⟩
  have B3 := B2.trans (hb3.mono B2.size)
  obtain ⟨c0, c1⟩ := pair_same ⟨d0, d1⟩ hb3
  clear hb3 B2 d0 d1
  go_wp2_with fail
  refine (R _ (h.below B3)).mono ?_
  rintro e w4 ⟨rfl, hw4⟩
  subst hw4
  go_wp2_with fail
  refine (K _).mono ?_
  rintro e w5 ⟨rfl, hw5⟩
  subst hw5
  go_wp2_with fail
  go_ret
  exact ⟨by simp, B3⟩
set_option maxHeartbeats 4000000 in
theorem targets_qty (qty : Int) (zs : Nat → Int) (n : Nat) (v : Value) (w : World) (T span : Int) (h : Row w v n fun i => .int .i64 (zs i)) (hc : Curve zs n) (ha : Asked T span) (ho : qty < 0 ∨ (0 ≤ qty ∧ 1099511627776 < qty)) :
    Calls Try.prog 4 #[.int .i64 qty, v, .agg #[.int .i64 T, .int .i64 span]] w fun e w' => e = .returned (.bool true) ∧ Below w.heap.size w w' := by
  have t : ¬ (300 : Int) < (n : Int) := by have := hc.len; omega
  have A : ∀ (w : World) (o : Obj), Below w.heap.size w (w.alloc o) := fun w o => (Below.refl _ w).alloc (Nat.le_refl _) _
  have D := fun w h => done_right zs n v w h hc T span ha _ rfl
  have G := fun w h => target_qty qty zs n v w h hc T span ha (by omega)
  have R := fun w h => right_yes zs n v w h hc
  have K := fun w => askedR_yes T span w ha
  have DR := fun w h => doneR_any zs n v w h hc T span ha _ rfl
  clear ha
  generalize doneOf zs (T * (n : Int)) span = X at *
  obtain ⟨a, cap, rfl, _⟩ := id h
  rcases ho with o1 | ⟨o1, o2⟩
  all_goals
    go_enter Try.func4, Try.ntmps4
    go_wp2_with fail
    refine (awake3_any _).mono ?_
    rintro e w1 ⟨rfl, hb1⟩
    have B1 := (A w _).trans (hb1.mono (by simp))
    obtain ⟨c0, c1⟩ := pair_same (pair_cells w (.int .i64 T) (.int .i64 span) 31) hb1
    clear hb1
    go_wp2_with fail
    refine (D _ (h.below B1)).mono ?_
    rintro e w2 ⟨rfl, hb2⟩
    have B2 := B1.trans (hb2.mono B1.size)
    obtain ⟨d0, d1⟩ := pair_same ⟨c0, c1⟩ hb2
    clear hb2 B1 c0 c1
    go_wp2_with fail
    refine (G _ (h.below B2)).mono ?_
    rintro e w3 ⟨rfl, hb3⟩
    have B3 := B2.trans (hb3.mono B2.size)
    obtain ⟨c0, c1⟩ := pair_same ⟨d0, d1⟩ hb3
    clear hb3 B2 d0 d1
    go_wp2_with fail
    refine (R _ (h.below B3)).mono ?_
    rintro e w4 ⟨rfl, hw4⟩
    subst hw4
    go_wp2_with fail
    refine (K _).mono ?_
    rintro e w5 ⟨rfl, hw5⟩
    subst hw5
    go_wp2_with fail
    refine (DR _ (h.below B3)).mono ?_
    rintro e w6 ⟨rfl, hw6⟩
    subst hw6
    go_wp2_with fail
    go_ret
    exact ⟨by simp, B3⟩
set_option maxHeartbeats 4000000 in
theorem targets_in (qty : Int) (zs : Nat → Int) (n : Nat) (v : Value) (w : World) (T span : Int) (h : Row w v n fun i => .int .i64 (zs i)) (hc : Curve zs n) (ha : Asked T span) (o1 : 0 ≤ qty) (o2 : qty ≤ 1099511627776) :
    Calls Try.prog 4 #[.int .i64 qty, v, .agg #[.int .i64 T, .int .i64 span]] w fun e w' => e = .returned (.bool true) ∧ Below w.heap.size w w' := by
  have t : ¬ (300 : Int) < (n : Int) := by have := hc.len; omega
  have A : ∀ (w : World) (o : Obj), Below w.heap.size w (w.alloc o) := fun w o => (Below.refl _ w).alloc (Nat.le_refl _) _
  have D := fun w h => done_right zs n v w h hc T span ha _ rfl
  have G := fun w h => target_right qty zs n v w h hc T span ha o1 o2 _ rfl
  have R := fun w h => right_yes zs n v w h hc
  have K := fun w => askedR_yes T span w ha
  have DR := fun w h => doneR_any zs n v w h hc T span ha _ rfl
  have TR := fun w h => targetR_any qty zs n v w h hc T span ha o1 o2 _ rfl
  clear ha
  generalize doneOf zs (T * (n : Int)) span = X at *
  generalize targetOf zs n qty T span = Y at *
  obtain ⟨a, cap, rfl, _⟩ := id h
  go_enter Try.func4, Try.ntmps4
  go_wp2_with fail
  refine (awake3_any _).mono ?_
  rintro e w1 ⟨rfl, hb1⟩
  have B1 := (A w _).trans (hb1.mono (by simp))
  obtain ⟨c0, c1⟩ := pair_same (pair_cells w (.int .i64 T) (.int .i64 span) 31) hb1
  clear hb1
  go_wp2_with fail
  refine (D _ (h.below B1)).mono ?_
  rintro e w2 ⟨rfl, hb2⟩
  have B2 := B1.trans (hb2.mono B1.size)
  obtain ⟨d0, d1⟩ := pair_same ⟨c0, c1⟩ hb2
  clear hb2 B1 c0 c1
  go_wp2_with fail
  refine (G _ (h.below B2)).mono ?_
  rintro e w3 ⟨rfl, hb3⟩
  have B3 := B2.trans (hb3.mono B2.size)
  obtain ⟨c0, c1⟩ := pair_same ⟨d0, d1⟩ hb3
  clear hb3 B2 d0 d1
  go_wp2_with fail
  refine (R _ (h.below B3)).mono ?_
  rintro e w4 ⟨rfl, hw4⟩
  subst hw4
  go_wp2_with fail
  refine (K _).mono ?_
  rintro e w5 ⟨rfl, hw5⟩
  subst hw5
  go_wp2_with fail
  refine (DR _ (h.below B3)).mono ?_
  rintro e w6 ⟨rfl, hw6⟩
  subst hw6
  go_wp2_with fail
  refine (TR _ (h.below B3)).mono ?_
  rintro e w7 ⟨rfl, hb7⟩
  have B7 := B3.trans (hb7.mono B3.size)
  clear hb7 B3 c0 c1
  go_wp2_with fail
  go_ret
  exact ⟨by simp, B7⟩
theorem curveTargets_walk (w : World) (qty : Int) (zs : Nat → Int) (n : Nat) (v : Value) (h : Row w v n fun i => .int .i64 (zs i)) (hb : ∀ i, n ≤ i → zs i = 0) (_bd : ∀ i, -9223372036854775808 ≤ zs i ∧ zs i ≤ 9223372036854775807) (T span : Int) :
    Calls Try.prog 4 #[.int .i64 qty, v, .agg #[.int .i64 T, .int .i64 span]] w fun e w' => e = .returned (.bool true) ∧ Below w.heap.size w w' := by
  by_cases hn : 300 < n
  · obtain ⟨a, cap, rfl, _⟩ := h
    exact targets_long qty n cap a w T span hn
  by_cases hc : Curve zs n
  · by_cases ha : Asked T span
    · by_cases hi : 0 ≤ qty ∧ qty ≤ 1099511627776
      · exact targets_in qty zs n v w T span h hc ha hi.1 hi.2
      · exact targets_qty qty zs n v w T span h hc ha (by omega)
    · exact targets_arg qty zs n v w T span h hc ha
  · exact targets_wrong qty zs n v w T span h hb (by omega) hc
theorem curveTargets_own : ownKnob Try.prog.godebug = none := by kernel_rfl
theorem curveTargets_laidOut : laidOutB Try.prog = true := by kernel_rfl
set_option maxRecDepth 100000 in
theorem curveTargets_lifted (os : Os) (started : os.Started) (H : Type) (enc : TypeId × Value → H) :
    ReturnsInHanded {} Try.checked os 4 .any (Rows.curveTargetsSpec.pre6 enc Try.prog Try.f4 Rows.curveTargetsRow.domain false) (Rows.curveTargetsSpec.post enc Try.prog Try.f4 false true false false) := by
  refine returnsInHanded_of_change (C := Try.checked) curveTargets_own started (by kernel_rfl) Try.func4
    (ChangeSpec.witness6 (enc := enc) (C := Try.checked) false ⟨#[], #[.int .i64 0, .slice none 0 0, .agg #[.int .i64 0, .int .i64 0]], []⟩ 8 (by kernel_rfl) (by kernel_rfl) (by kernel_rfl) (by kernel_rfl)) ?_
  intro W base args ds gs before hval0 hW hcnd _
  have hval : ∀ (j : Nat) t v, Try.f4.params[j]? = some t → args[j]? = some v → Value.okWide Try.prog W .any base t v := hval0
  have hW' := hW
  obtain ⟨p, q, hA0, hV, rfl, hfz, hnd⟩ := hW
  have hA : DataW.TrodAll enc Try.prog W 0 (fun _ => true) true Try.f4.params.toList args.toList ds p := hA0
  rw [Try.params4] at hA hval
  obtain ⟨v0, vs0, d0, ds0, p0, q0, hargs, rfl, rfl, h0, r0⟩ := trodAll_cons hA
  obtain ⟨v1, vs1, d1, ds1, p1, q1, rfl, rfl, rfl, h1, r1⟩ := trodAll_cons r0
  obtain ⟨v2, vs2, d2, ds2, p2, q2, rfl, rfl, rfl, h2, r2⟩ := trodAll_cons r1
  obtain ⟨rfl, rfl, rfl⟩ := trodAll_nil r2
  obtain rfl : args = #[v0, v1, v2] := by cases args; simp_all
  obtain ⟨rfl, rfl⟩ := trodVars_none hV
  obtain ⟨a0, rfl, rfl, rfl, w0⟩ := open_int Try.underlying3 (hval 0 3 v0 rfl rfl) h0
  have bd0 := bounds_i64 w0
  obtain ⟨ad1, n1, cap1, rfl⟩ := okWide_slice Try.underlying22 (hval 1 22 v1 rfl rfl)
  have k1 := h1
  have lt1 : ∀ x ∈ p1, x.block < W.heap.size := by obtain ⟨m, hm⟩ := k1; exact DataW.trod_lt m _ _ _ hm
  obtain ⟨f1, row1, be1, bd1⟩ : ∃ f : Nat → Int, Row W (.slice ad1 n1 cap1) n1 (fun i => .int .i64 (f i)) ∧ (∀ i, n1 ≤ i → f i = 0) ∧ ∀ i, -9223372036854775808 ≤ f i ∧ f i ≤ 9223372036854775807 := by
    obtain ⟨fuel, hf⟩ := h1
    rcases open_ints Try.underlying22 Try.underlying3 (by kernel_rfl) hf with ⟨hcs, _⟩ | ⟨x, l, c, zs, hcs, _, hl, hm, hz, _, hcell, hwz⟩
    · simp [Value.cells] at hcs
      obtain ⟨rfl, rfl, rfl⟩ := hcs
      exact row_none W
    · simp [Value.cells] at hcs
      obtain ⟨rfl, rfl, rfl⟩ := hcs
      exact row_some hl hm (by simpa using hz) hcell (fun z hz => bounds_i64 (hwz z hz))
  obtain ⟨x2, y2, u2, z2, m2, rfl, rfl, rfl, hu2, hz2⟩ := Joins.open_agg2 Try.underlying31 (by kernel_rfl) (by kernel_rfl) (hval 2 31 v2 rfl rfl) h2
  obtain ⟨s2, es2, rfl, ws2⟩ := DataW.trod_int Try.underlying3 hu2
  obtain ⟨t2, et2, rfl, wt2⟩ := DataW.trod_int Try.underlying3 hz2
  simp only [List.cons.injEq, and_true] at es2 et2
  subst es2 et2
  have bs2 := bounds_i64 ws2
  have bt2 := bounds_i64 wt2
  clear hA0 hval0
  simp only [List.append_nil, List.nil_append] at hW'
  refine (curveTargets_walk W a0 f1 n1 _ row1 be1 bd1 s2 t2).mono fun e W' ⟨he, bel⟩ => ?_
  subst he
  exact ⟨_, rfl, _, _, _, [], _, [], hW', trodAll_mk1 (shut_bool Try.underlying4 _), (trodAll_cons_mk (shut_int Try.underlying3 w0) (trodAll_cons_mk (Below.trod curveTargets_laidOut (by kernel_rfl) (of_decide_eq_true (by kernel_rfl)) k1 bel lt1) (trodAll_cons_mk (Joins.shut_agg2 (P := Try.prog) (y0 := (.lit (.int .i64 s2), [])) (y1 := (.lit (.int .i64 t2), [])) Try.underlying31 (by kernel_rfl) (by kernel_rfl) ⟨1, by simp [DataW.trod, Try.underlying3, ws2]⟩ ⟨1, by simp [DataW.trod, Try.underlying3, wt2]⟩) trodAll_mk0))), rfl, bel.frame _, fun h => by cases h⟩

/-- THE STATEMENT. -/
theorem curveTargets_proved : Rows.CurveTargetsSaid :=
  OpenClaim.holds_of_wide 4 Try.f4 rfl rfl rfl rfl rfl rfl rfl ⟨rfl, rfl, rfl, rfl, rfl⟩ rfl rfl rfl rfl rfl (by kernel_rfl) Try.func4 (by kernel_rfl)
    (of_decide_eq_true (by kernel_rfl)) (by unfold Func.isWrapper; first | (rw [if_pos (by decide +kernel)]; kernel_rfl) | (rw [if_neg (by decide +kernel)]; exact ⟨rfl, rfl⟩))
    (fun os started H enc _ => curveTargets_lifted os started H enc)
#print axioms curveTargets_proved
end Go.Proofs.Ytipgajilchkneaa
