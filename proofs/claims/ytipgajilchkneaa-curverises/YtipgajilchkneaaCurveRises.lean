/-
  For every quantity, weights, time and span the Go function CurveRises, over the landed program, returns true and leaves its arguments and all old memory as they were. No condition.
-/
import Derived.Test.YtipgajilchkneaaCurveAwake
import Derived.Test.YtipgajilchkneaaFrame3
namespace Go.Proofs.Ytipgajilchkneaa
open Go.ChangeShapes Go.WideShapes Go.ChangeAt Go.RowKit

theorem doneOf_zero (zs : Nat → Int) (span : Int) (h : 1 ≤ span) : doneOf zs 0 span = 0 := by
  rw [doneOf_at zs 0 span 0 0 (Int.le_refl _) (by omega) (by simp)]; simp [sumTo]
theorem doneOf_mono {zs : Nat → Int} {n : Nat} (hc : Curve zs n) {L L' span : Int} (hs : 1 ≤ span) (h0 : 0 ≤ L) (h : L ≤ L') : doneOf zs L span ≤ doneOf zs L' span := by
  have m0 := Int.emod_nonneg L (by omega : span ≠ 0)
  have m1 := Int.emod_lt_of_pos L (by omega : 0 < span)
  have m0' := Int.emod_nonneg L' (by omega : span ≠ 0)
  have hq := Int.ediv_le_ediv (by omega : 0 < span) h
  have q0 := Int.ediv_nonneg h0 (by omega : 0 ≤ span)
  have d := Int.mul_ediv_add_emod L span
  have d' := Int.mul_ediv_add_emod L' span
  unfold doneOf
  by_cases e : L / span = L' / span
  · rw [← e] at d' ⊢
    have : zs (L / span).toNat * (L % span) ≤ zs (L / span).toNat * (L' % span) := Int.mul_le_mul_of_nonneg_left (by omega) (hc.each _).1
    omega
  · have hk := hc.each (L / span).toNat
    have hk' := hc.each (L' / span).toNat
    have a3 : zs (L / span).toNat * (L % span) ≤ zs (L / span).toNat * span := Int.mul_le_mul_of_nonneg_left (by omega) hk.1
    have a4 : sumTo zs ((L / span).toNat + 1) * span ≤ sumTo zs (L' / span).toNat * span := Int.mul_le_mul_of_nonneg_right (sumTo_mono zs (fun i => (hc.each i).1) _ _ (by omega)) (by omega)
    have a5 : sumTo zs ((L / span).toNat + 1) * span = sumTo zs (L / span).toNat * span + zs (L / span).toNat * span := by simp only [sumTo]; rw [Int.add_mul]
    have a6 : 0 ≤ zs (L' / span).toNat * (L' % span) := Int.mul_nonneg hk'.1 m0'
    omega
theorem target_zero {zs : Nat → Int} {n : Nat} {qty span : Int} (hs : 1 ≤ span) : targetOf zs n qty 0 span = 0 := by
  unfold targetOf; rw [Int.zero_mul, doneOf_zero zs span hs]; simp
theorem target_all {zs : Nat → Int} {n : Nat} (hc : Curve zs n) {qty span : Int} (hs : 1 ≤ span) : targetOf zs n qty span span = qty := by
  unfold targetOf
  rw [doneOf_at zs (span * (n : Int)) span n 0 (Int.le_refl _) (by omega) (by omega)]
  have : 0 < sumTo zs n * span := Int.mul_pos hc.some (by omega)
  rw [Int.mul_zero, Int.add_zero, Int.mul_ediv_cancel _ (by omega)]
theorem target_bd {zs : Nat → Int} {n : Nat} (hc : Curve zs n) {qty t span : Int} (q0 : 0 ≤ qty) (ha : Asked t span) : 0 ≤ targetOf zs n qty t span ∧ targetOf zs n qty t span ≤ qty := by
  have hd := doneOf_bd hc (pieces ha hc.len).1 ha.1.1
  exact share_bd q0 hd.1 hd.2 (Int.mul_pos hc.some (by have := ha.1.1; omega))
theorem target_mono {zs : Nat → Int} {n : Nat} (hc : Curve zs n) {qty t t' span : Int} (q0 : 0 ≤ qty) (hs : 1 ≤ span) (t0 : 0 ≤ t) (h : t ≤ t') : targetOf zs n qty t span ≤ targetOf zs n qty t' span := by
  have hp : 0 < sumTo zs n * span := Int.mul_pos hc.some (by omega)
  refine Int.ediv_le_ediv hp (Int.mul_le_mul_of_nonneg_left (doneOf_mono hc hs (Int.mul_nonneg t0 (by omega)) (Int.mul_le_mul_of_nonneg_right h (by omega))) q0)

theorem two_cells (w : World) (x y : Value) (T : TypeId) : (w.alloc (.cells #[x, y] T)).cell? ⟨w.heap.size, 0, none⟩ = some x ∧ (w.alloc (.cells #[x, y] T)).cell? ⟨w.heap.size, 1, none⟩ = some y := by
  constructor <;> simp [World.cell?_alloc_at]
theorem cells_below {w w' : World} {b : Nat} {x y : Value} (h : w.cell? ⟨b, 0, none⟩ = some x ∧ w.cell? ⟨b, 1, none⟩ = some y) (hb : Below w.heap.size w w') : w'.cell? ⟨b, 0, none⟩ = some x ∧ w'.cell? ⟨b, 1, none⟩ = some y := by
  have := World.block_lt_of_cell? _ _ h.1
  exact ⟨(hb.cell this).trans h.1, (hb.cell (p := ⟨b, 1, none⟩) this).trans h.2⟩

set_option maxHeartbeats 2000000 in
theorem rises_long (qty : Int) (n cap : Nat) (a : Option Addr) (w : World) (T span : Int) (hn : 100 < n) :
    Calls Try.prog 6 #[.int .i64 qty, .slice a n cap, .agg #[.int .i64 T, .int .i64 span]] w fun e w' => e = .returned (.bool true) ∧ Below w.heap.size w w' := by
  have t : (100 : Int) < (n : Int) := by omega
  have A : ∀ (w : World) (o : Obj), Below w.heap.size w (w.alloc o) := fun w o => (Below.refl _ w).alloc (Nat.le_refl _) _
  go_enter Try.func6, Try.ntmps6
  go_wp2_with fail
  refine (awake3_any _).mono ?_
  rintro e w1 ⟨rfl, hb1⟩
  have B1 := (A w _).trans (hb1.mono (by simp))
  clear hb1
  go_wp2_with fail
  go_ret
  exact ⟨rfl, B1⟩
set_option maxHeartbeats 2000000 in
theorem rises_wrong (qty : Int) (zs : Nat → Int) (n : Nat) (v : Value) (w : World) (T span : Int) (h : Row w v n fun i => .int .i64 (zs i)) (hb : ∀ i, n ≤ i → zs i = 0) (hn : n ≤ 100) (hc : ¬ Curve zs n) :
    Calls Try.prog 6 #[.int .i64 qty, v, .agg #[.int .i64 T, .int .i64 span]] w fun e w' => e = .returned (.bool true) ∧ Below w.heap.size w w' := by
  have t : ¬ (100 : Int) < (n : Int) := by omega
  have A : ∀ (w : World) (o : Obj), Below w.heap.size w (w.alloc o) := fun w o => (Below.refl _ w).alloc (Nat.le_refl _) _
  have C := fun w h => check_wrong zs n v w h hb hc
  obtain ⟨a, cap, rfl, _⟩ := id h
  go_enter Try.func6, Try.ntmps6
  go_wp2_with fail
  refine (awake3_any _).mono ?_
  rintro e w1 ⟨rfl, hb1⟩
  have B1 := (A w _).trans (hb1.mono (by simp))
  have s1 := B1.size
  clear hb1
  go_wp2_with fail
  refine (C _ (h.below B1)).mono ?_
  rintro e w2 ⟨rfl, hb2⟩
  go_wp2_with fail
  go_ret
  exact ⟨rfl, B1.trans (hb2.mono s1)⟩
set_option maxHeartbeats 4000000 in
theorem rises_out (qty : Int) (zs : Nat → Int) (n : Nat) (v : Value) (w : World) (T span : Int) (h : Row w v n fun i => .int .i64 (zs i)) (hc : Curve zs n) (ho : qty < 0 ∨ (0 ≤ qty ∧ 1099511627776 < qty) ∨ ((0 ≤ qty ∧ qty ≤ 1099511627776) ∧ span < 1) ∨ ((0 ≤ qty ∧ qty ≤ 1099511627776) ∧ 1 ≤ span ∧ 1073741824 < span) ∨ ((0 ≤ qty ∧ qty ≤ 1099511627776) ∧ (1 ≤ span ∧ span ≤ 1073741824) ∧ T < 0) ∨ ((0 ≤ qty ∧ qty ≤ 1099511627776) ∧ (1 ≤ span ∧ span ≤ 1073741824) ∧ 0 ≤ T ∧ span ≤ T)) :
    Calls Try.prog 6 #[.int .i64 qty, v, .agg #[.int .i64 T, .int .i64 span]] w fun e w' => e = .returned (.bool true) ∧ Below w.heap.size w w' := by
  have t : ¬ (100 : Int) < (n : Int) := by have := hc.len; omega
  have A : ∀ (w : World) (o : Obj), Below w.heap.size w (w.alloc o) := fun w o => (Below.refl _ w).alloc (Nat.le_refl _) _
  have C := fun w h => check_right zs n v w h hc
  obtain ⟨a, cap, rfl, _⟩ := id h
  rcases ho with o1 | ⟨o1, o2⟩ | ⟨⟨o1, o2⟩, o3⟩ | ⟨⟨o1, o2⟩, o3, o4⟩ | ⟨⟨o1, o2⟩, ⟨o3, o4⟩, o5⟩ | ⟨⟨o1, o2⟩, ⟨o3, o4⟩, o5, o6⟩
  all_goals
    go_enter Try.func6, Try.ntmps6
    go_wp2_with fail
    refine (awake3_any _).mono ?_
    rintro e w1 ⟨rfl, hb1⟩
    have B1 := (A w _).trans (hb1.mono (by simp))
    have s1 := B1.size
    have k1 := cells_below (two_cells w (.int .i64 T) (.int .i64 span) 31) hb1
    clear hb1
    go_wp2_with fail
    refine (C _ (h.below B1)).mono ?_
    rintro e w2 ⟨rfl, hb2⟩
    obtain ⟨c0, c1⟩ := cells_below k1 hb2
    clear k1
    go_wp2_with fail
    go_ret
    exact ⟨by simp, B1.trans (hb2.mono s1)⟩
set_option maxHeartbeats 4000000 in
theorem rises_in (qty : Int) (zs : Nat → Int) (n : Nat) (v : Value) (w : World) (T span : Int) (h : Row w v n fun i => .int .i64 (zs i)) (hc : Curve zs n) (o1 : 0 ≤ qty) (o2 : qty ≤ 1099511627776) (o3 : 1 ≤ span) (o4 : span ≤ 1073741824) (o5 : 0 ≤ T) (o6 : T < span) :
    Calls Try.prog 6 #[.int .i64 qty, v, .agg #[.int .i64 T, .int .i64 span]] w fun e w' => e = .returned (.bool true) ∧ Below w.heap.size w w' := by
  have t : ¬ (100 : Int) < (n : Int) := by have := hc.len; omega
  have A : ∀ (w : World) (o : Obj), Below w.heap.size w (w.alloc o) := fun w o => (Below.refl _ w).alloc (Nat.le_refl _) _
  have C := fun w h => check_right zs n v w h hc
  have T0 := fun w h => target_right qty zs n v w h hc 0 span (by unfold Asked; omega) o1 o2 0 (target_zero o3)
  have T1 := fun w h => target_right qty zs n v w h hc T span (by unfold Asked; omega) o1 o2 _ rfl
  have T2 := fun w h => target_right qty zs n v w h hc (T + 1) span (by unfold Asked; omega) o1 o2 _ rfl
  have T3 := fun w h => target_right qty zs n v w h hc span span (by unfold Asked; omega) o1 o2 qty (target_all hc o3)
  have b1 := target_bd hc o1 (by unfold Asked; omega : Asked T span)
  have b2 := target_bd hc o1 (by unfold Asked; omega : Asked (T + 1) span)
  have b3 := target_mono hc o1 o3 o5 (by omega : T ≤ T + 1)
  generalize targetOf zs n qty T span = x at *
  generalize targetOf zs n qty (T + 1) span = y at *
  obtain ⟨a, cap, rfl, _⟩ := id h
  obtain ⟨e1, e2⟩ := b1
  have e3 := b2.2
  clear b2
  go_enter Try.func6, Try.ntmps6
  go_wp2_with fail
  refine (awake3_any _).mono ?_
  rintro e w1 ⟨rfl, hb1⟩
  have B1 := (A w _).trans (hb1.mono (by simp))
  have s1 := B1.size
  have k1 := cells_below (two_cells w (.int .i64 T) (.int .i64 span) 31) hb1
  clear hb1
  go_wp2_with fail
  refine (C _ (h.below B1)).mono ?_
  rintro e w2 ⟨rfl, hb2⟩
  have B2 := B1.trans (hb2.mono s1)
  have s2 := B2.size
  have k2 := cells_below k1 hb2
  obtain ⟨c0, c1⟩ := k2
  clear k1 hb2 B1
  go_wp2_with fail
  refine (T0 _ (h.below B2)).mono ?_
  rintro e w3 ⟨rfl, hb3⟩
  have B3 := B2.trans (hb3.mono s2)
  have s3 := B3.size
  obtain ⟨d0, d1⟩ := cells_below ⟨c0, c1⟩ hb3
  clear hb3 B2 c0 c1
  go_wp2_with fail
  refine (T1 _ (h.below B3)).mono ?_
  rintro e w4 ⟨rfl, hb4⟩
  have B4 := B3.trans (hb4.mono s3)
  have s4 := B4.size
  obtain ⟨c0, c1⟩ := cells_below ⟨d0, d1⟩ hb4
  clear hb4 B3 d0 d1
  go_wp2_with fail
  refine (T2 _ (h.below B4)).mono ?_
  rintro e w5 ⟨rfl, hb5⟩
  have B5 := B4.trans (hb5.mono s4)
  have s5 := B5.size
  obtain ⟨d0, d1⟩ := cells_below ⟨c0, c1⟩ hb5
  clear hb5 B4 c0 c1
  go_wp2_with fail
  refine (T3 _ (h.below B5)).mono ?_
  rintro e w6 ⟨rfl, hb6⟩
  have B6 := B5.trans (hb6.mono s5)
  clear hb6 B5 d0 d1
  go_wp2_with fail
  go_ret
  exact ⟨by simp, B6⟩

theorem curveRises_walk (w : World) (qty : Int) (zs : Nat → Int) (n : Nat) (v : Value) (h : Row w v n fun i => .int .i64 (zs i)) (hb : ∀ i, n ≤ i → zs i = 0) (_bd : ∀ i, -9223372036854775808 ≤ zs i ∧ zs i ≤ 9223372036854775807) (T span : Int) :
    Calls Try.prog 6 #[.int .i64 qty, v, .agg #[.int .i64 T, .int .i64 span]] w fun e w' => e = .returned (.bool true) ∧ Below w.heap.size w w' := by
  by_cases hn : 100 < n
  · obtain ⟨a, cap, rfl, _⟩ := h
    exact rises_long qty n cap a w T span hn
  by_cases hc : Curve zs n
  · by_cases hi : (0 ≤ qty ∧ qty ≤ 1099511627776) ∧ (1 ≤ span ∧ span ≤ 1073741824) ∧ 0 ≤ T ∧ T < span
    · exact rises_in qty zs n v w T span h hc hi.1.1 hi.1.2 hi.2.1.1 hi.2.1.2 hi.2.2.1 hi.2.2.2
    · exact rises_out qty zs n v w T span h hc (by omega)
  · exact rises_wrong qty zs n v w T span h hb (by omega) hc
theorem curveRises_own : ownKnob Try.prog.godebug = none := by kernel_rfl
theorem curveRises_laidOut : laidOutB Try.prog = true := by kernel_rfl
set_option maxRecDepth 100000 in
theorem curveRises_lifted (os : Os) (started : os.Started) (H : Type) (enc : TypeId × Value → H) :
    ReturnsInHanded {} Try.checked os 6 .any (Rows.curveRisesSpec.pre6 enc Try.prog Try.f6 Rows.curveRisesRow.domain false) (Rows.curveRisesSpec.post enc Try.prog Try.f6 false true false false) := by
  refine returnsInHanded_of_change (C := Try.checked) curveRises_own started (by kernel_rfl) Try.func6
    (ChangeSpec.witness6 (enc := enc) (C := Try.checked) false ⟨#[], #[.int .i64 0, .slice none 0 0, .agg #[.int .i64 0, .int .i64 0]], []⟩ 8 (by kernel_rfl) (by kernel_rfl) (by kernel_rfl) (by kernel_rfl)) ?_
  intro W base args ds gs before hval0 hW hcnd _
  have hval : ∀ (j : Nat) t v, Try.f6.params[j]? = some t → args[j]? = some v → Value.okWide Try.prog W .any base t v := hval0
  have hW' := hW
  obtain ⟨p, q, hA0, hV, rfl, hfz, hnd⟩ := hW
  have hA : DataW.TrodAll enc Try.prog W 0 (fun _ => true) true Try.f6.params.toList args.toList ds p := hA0
  rw [Try.params6] at hA hval
  obtain ⟨v0, vs0, d0, ds0, p0, q0, hargs, rfl, rfl, h0, r0⟩ := trodAll_cons hA
  obtain ⟨v1, vs1, d1, ds1, p1, q1, rfl, rfl, rfl, h1, r1⟩ := trodAll_cons r0
  obtain ⟨v2, vs2, d2, ds2, p2, q2, rfl, rfl, rfl, h2, r2⟩ := trodAll_cons r1
  obtain ⟨rfl, rfl, rfl⟩ := trodAll_nil r2
  obtain rfl : args = #[v0, v1, v2] := by cases args; simp_all
  obtain ⟨rfl, rfl⟩ := trodVars_none hV
  obtain ⟨a0, rfl, rfl, rfl, w0⟩ := open_int Try.underlying3 (hval 0 3 v0 rfl rfl) h0
  have bd0 := bounds_i64 w0
  obtain ⟨ad1, n1, cap1, rfl⟩ := okWide_slice Try.underlying22 (hval 1 22 v1 rfl rfl)
  have k1 := h1
  have lt1 : ∀ x ∈ p1, x.block < W.heap.size := by obtain ⟨m, hm⟩ := k1; exact DataW.trod_lt m _ _ _ hm
  obtain ⟨f1, row1, be1, bd1⟩ : ∃ f : Nat → Int, Row W (.slice ad1 n1 cap1) n1 (fun i => .int .i64 (f i)) ∧ (∀ i, n1 ≤ i → f i = 0) ∧ ∀ i, -9223372036854775808 ≤ f i ∧ f i ≤ 9223372036854775807 := by
    obtain ⟨fuel, hf⟩ := h1
    rcases open_ints Try.underlying22 Try.underlying3 (by kernel_rfl) hf with ⟨hcs, _⟩ | ⟨x, l, c, zs, hcs, _, hl, hm, hz, _, hcell, hwz⟩
    · simp [Value.cells] at hcs
      obtain ⟨rfl, rfl, rfl⟩ := hcs
      exact row_none W
    · simp [Value.cells] at hcs
      obtain ⟨rfl, rfl, rfl⟩ := hcs
      exact row_some hl hm (by simpa using hz) hcell (fun z hz => bounds_i64 (hwz z hz))
  obtain ⟨x2, y2, u2, z2, m2, rfl, rfl, rfl, hu2, hz2⟩ := Joins.open_agg2 Try.underlying31 (by kernel_rfl) (by kernel_rfl) (hval 2 31 v2 rfl rfl) h2
  obtain ⟨s2, es2, rfl, ws2⟩ := DataW.trod_int Try.underlying3 hu2
  obtain ⟨t2, et2, rfl, wt2⟩ := DataW.trod_int Try.underlying3 hz2
  simp only [List.cons.injEq, and_true] at es2 et2
  subst es2 et2
  have bs2 := bounds_i64 ws2
  have bt2 := bounds_i64 wt2
  clear hA0 hval0
  simp only [List.append_nil, List.nil_append] at hW'
  refine (curveRises_walk W a0 f1 n1 _ row1 be1 bd1 s2 t2).mono fun e W' ⟨he, bel⟩ => ?_
  subst he
  exact ⟨_, rfl, _, _, _, [], _, [], hW', trodAll_mk1 (shut_bool Try.underlying4 _), (trodAll_cons_mk (shut_int Try.underlying3 w0) (trodAll_cons_mk (Below.trod curveRises_laidOut (by kernel_rfl) (of_decide_eq_true (by kernel_rfl)) k1 bel lt1) (trodAll_cons_mk (Joins.shut_agg2 (P := Try.prog) (y0 := (.lit (.int .i64 s2), [])) (y1 := (.lit (.int .i64 t2), [])) Try.underlying31 (by kernel_rfl) (by kernel_rfl) ⟨1, by simp [DataW.trod, Try.underlying3, ws2]⟩ ⟨1, by simp [DataW.trod, Try.underlying3, wt2]⟩) trodAll_mk0))), rfl, bel.frame _, fun h => by cases h⟩

/-- THE STATEMENT. -/
theorem curveRises_proved : Rows.CurveRisesSaid :=
  OpenClaim.holds_of_wide 6 Try.f6 rfl rfl rfl rfl rfl rfl rfl ⟨rfl, rfl, rfl, rfl, rfl⟩ rfl rfl rfl rfl rfl (by kernel_rfl) Try.func6 (by kernel_rfl)
    (of_decide_eq_true (by kernel_rfl)) (by unfold Func.isWrapper; first | (rw [if_pos (by decide +kernel)]; kernel_rfl) | (rw [if_neg (by decide +kernel)]; exact ⟨rfl, rfl⟩))
    (fun os started H enc _ => curveRises_lifted os started H enc)
#print axioms curveRises_proved
end Go.Proofs.Ytipgajilchkneaa
