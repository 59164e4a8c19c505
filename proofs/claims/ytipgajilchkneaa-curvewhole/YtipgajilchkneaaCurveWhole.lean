/-
  For every quantity and weights the Go function CurveWhole, over the landed program, returns true and leaves its arguments and all old memory as they were. No condition.
-/
import Derived.Test.YtipgajilchkneaaCurveAwake
import Derived.Test.YtipgajilchkneaaFrame3
namespace Go.Proofs.Ytipgajilchkneaa
open Go.ChangeShapes Go.WideShapes Go.ChangeAt Go.RowKit

theorem due_mono {zs : Nat → Int} {n : Nat} (hc : Curve zs n) {qty : Int} (q0 : 0 ≤ qty) (k : Nat) : dueOf zs n qty k ≤ dueOf zs n qty (k + 1) :=
  Int.ediv_le_ediv hc.some (Int.mul_le_mul_of_nonneg_left (curve_sums hc k).2.1 q0)
theorem due_zero (zs : Nat → Int) (n : Nat) (qty : Int) : dueOf zs n qty 0 = 0 := by simp [dueOf, sumTo]
theorem due_all {zs : Nat → Int} {n : Nat} (hc : Curve zs n) (qty : Int) : dueOf zs n qty n = qty := Int.mul_ediv_cancel _ (by have := hc.some; omega)
theorem due_same (zs : Nat → Int) (n : Nat) (qty : Int) (k : Nat) (h : zs k = 0) : dueOf zs n qty (k + 1) = dueOf zs n qty k := by
  simp only [dueOf, sumTo, h, Int.add_zero]

set_option maxHeartbeats 1000000 in
theorem whole_long (qty : Int) (n cap : Nat) (a : Option Addr) (w : World) (hn : 100 < n) :
    Calls Try.prog 7 #[.int .i64 qty, .slice a n cap] w fun e w' => e = .returned (.bool true) ∧ Below w.heap.size w w' := by
  have t : (100 : Int) < (n : Int) := by omega
  go_enter Try.func7, Try.ntmps7
  go_wp2_with fail
  refine (awake3_any _).mono ?_
  rintro e w1 ⟨rfl, hb1⟩
  go_wp2_with fail
  go_ret
  exact ⟨rfl, hb1⟩
set_option maxHeartbeats 1000000 in
theorem whole_wrong (qty : Int) (zs : Nat → Int) (n : Nat) (v : Value) (w : World) (h : Row w v n fun i => .int .i64 (zs i)) (hb : ∀ i, n ≤ i → zs i = 0) (hn : n ≤ 100) (hc : ¬ Curve zs n) :
    Calls Try.prog 7 #[.int .i64 qty, v] w fun e w' => e = .returned (.bool true) ∧ Below w.heap.size w w' := by
  have t : ¬ (100 : Int) < (n : Int) := by omega
  have C := fun w h => check_wrong zs n v w h hb hc
  obtain ⟨a, cap, rfl, _⟩ := id h
  go_enter Try.func7, Try.ntmps7
  go_wp2_with fail
  refine (awake3_any _).mono ?_
  rintro e w1 ⟨rfl, hb1⟩
  go_wp2_with fail
  refine (C _ (h.below hb1)).mono ?_
  rintro e w2 ⟨rfl, hb2⟩
  go_wp2_with fail
  go_ret
  exact ⟨rfl, hb1.trans (hb2.mono hb1.size)⟩
set_option maxHeartbeats 1000000 in
theorem whole_out (qty : Int) (zs : Nat → Int) (n : Nat) (v : Value) (w : World) (h : Row w v n fun i => .int .i64 (zs i)) (hc : Curve zs n) (ho : qty < 0 ∨ (0 ≤ qty ∧ 1099511627776 < qty)) :
    Calls Try.prog 7 #[.int .i64 qty, v] w fun e w' => e = .returned (.bool true) ∧ Below w.heap.size w w' := by
  have t : ¬ (100 : Int) < (n : Int) := by have := hc.len; omega
  have C := fun w h => check_right zs n v w h hc
  obtain ⟨a, cap, rfl, _⟩ := id h
  rcases ho with o1 | ⟨o1, o2⟩
  all_goals
    go_enter Try.func7, Try.ntmps7
    go_wp2_with fail
    refine (awake3_any _).mono ?_
    rintro e w1 ⟨rfl, hb1⟩
    go_wp2_with fail
    refine (C _ (h.below hb1)).mono ?_
    rintro e w2 ⟨rfl, hb2⟩
    go_wp2_with fail
    go_ret
    exact ⟨by simp, hb1.trans (hb2.mono hb1.size)⟩
set_option maxRecDepth 100000 in
set_option maxHeartbeats 4000000 in
theorem whole_in (qty : Int) (zs : Nat → Int) (n : Nat) (v : Value) (w : World) (h : Row w v n fun i => .int .i64 (zs i)) (hc : Curve zs n) (o1 : 0 ≤ qty) (o2 : qty ≤ 1099511627776) :
    Calls Try.prog 7 #[.int .i64 qty, v] w fun e w' => e = .returned (.bool true) ∧ Below w.heap.size w w' := by
  have t : ¬ (100 : Int) < (n : Int) := by have := hc.len; omega
  have hlen := hc.len
  have C := fun w h => check_right zs n v w h hc
  have P := fun w h => spread_right qty zs n v w h hc o1 o2
  have HM : Hid (∀ k, dueOf zs n qty k ≤ dueOf zs n qty (k + 1)) := due_mono hc o1
  have HB : Hid (∀ k, 0 ≤ dueOf zs n qty k ∧ dueOf zs n qty k ≤ qty) := due_bd hc o1
  have H0 : Hid (dueOf zs n qty 0 = 0) := due_zero zs n qty
  have HA : Hid (dueOf zs n qty n = qty) := due_all hc qty
  have HZ : Hid (∀ k, zs k = 0 → dueOf zs n qty (k + 1) = dueOf zs n qty k) := due_same zs n qty
  generalize dueOf zs n qty = due at *
  obtain ⟨a, cap, rfl, h1, h2, h3⟩ := id h
  go_enter Try.func7, Try.ntmps7
  go_wp2_with fail
  refine (awake3_any _).mono ?_
  rintro e w1 ⟨rfl, hb1⟩
  go_wp2_with fail
  refine (C _ (h.below hb1)).mono ?_
  rintro e w2 ⟨rfl, hb2⟩
  have B2 := hb1.trans (hb2.mono hb1.size)
  clear hb1 hb2
  go_wp2_with fail
  refine (P _ (h.below B2)).mono ?_
  rintro e w3 ⟨v3, rfl, hb3, r3⟩
  have B3 := B2.trans (hb3.mono B2.size)
  clear hb3 B2
  obtain ⟨a3, cap3, rfl, g1, g2, g3⟩ := r3
  have hcell : Hid (∀ i, i < n → ∃ b off, a = some ⟨b, off, none⟩ ∧ w3.cell? ⟨b, off + i, none⟩ = some (.int .i64 (zs i))) := fun i hi => by
    obtain ⟨b, off, e, hc⟩ := h3 i hi
    exact ⟨b, off, e, (B3.cell (World.block_lt_of_cell? _ _ hc)).trans hc⟩
  clear h3
  go_wp2_with fail
  go_loopw [7, 45] (fun s c wr => ∃ k : Nat, s = .int .i64 (due k) ∧ c = .int .i64 (k : Int) ∧ k ≤ n ∧ wr = w3) (fun _ c _ => n - (intOf c).toNat)
  case atStart => exact ⟨0, by rw [H0.out], rfl, Nat.zero_le _, rfl⟩
  case round =>
    obtain ⟨k, rfl, rfl, hk, rfl⟩ := hrel
    by_cases hlt : k < n
    · have t : (k : Int) < (n : Int) := by omega
      obtain ⟨b, off, rfl, c1⟩ := hcell.out k hlt
      obtain ⟨b3, off3, rfl, c3⟩ := g3 k hlt
      have m := HM.out k
      have b0 := HB.out k
      have b1 := HB.out (k + 1)
      have HZk := HZ.out k
      have HE : Hid (wrap64 (due k + (due (k + 1) - due k)) = due (k + 1)) := by
        show _ = _
        rw [wrap_in _ (by omega) (by omega)]; omega
      clear g3 hcell
      obtain ⟨x, hx⟩ : ∃ x, due (k + 1) - due k = x := ⟨_, rfl⟩
      have x0 : 0 ≤ x := by omega
      have x1 : x ≤ qty := by omega
      have HX : Hid (zs k = 0 → x = 0) := fun e => by have := HZk e; omega
      rw [hx] at c3 HE
      clear hx m b0 b1 HZk
      obtain ⟨z, hz⟩ : ∃ z, zs k = z := ⟨_, rfl⟩
      rw [hz] at c1 HX
      clear hz
      by_cases hz : z = 0
      · subst hz
        obtain rfl : x = 0 := HX.out rfl
        go_wp2_with fail
        go_roundw
        case rel => exact ⟨k + 1, by rw [← HE.out, Int.add_zero], by simp, by omega, trivial⟩
        case measure => simp [intOf]; omega
      · have hz' : (z == 0) = false := beq_false_of_ne hz
        clear hz
        go_wp2_with fail
        go_roundw
        case rel => exact ⟨k + 1, by rw [← HE.out], by simp, by omega, trivial⟩
        case measure => simp [intOf]; omega
    · have hkn : k = n := by omega
      subst hkn
      have t : ¬ (k : Int) < (k : Int) := by omega
      have hd := HA.out
      go_wp2_with fail
      go_ret
      exact ⟨by simp, B3⟩
theorem curveWhole_walk (w : World) (qty : Int) (zs : Nat → Int) (n : Nat) (v : Value) (h : Row w v n fun i => .int .i64 (zs i)) (hb : ∀ i, n ≤ i → zs i = 0) (_bd : ∀ i, -9223372036854775808 ≤ zs i ∧ zs i ≤ 9223372036854775807) :
    Calls Try.prog 7 #[.int .i64 qty, v] w fun e w' => e = .returned (.bool true) ∧ Below w.heap.size w w' := by
  by_cases hn : 100 < n
  · obtain ⟨a, cap, rfl, _⟩ := h
    exact whole_long qty n cap a w hn
  by_cases hc : Curve zs n
  · by_cases hi : 0 ≤ qty ∧ qty ≤ 1099511627776
    · exact whole_in qty zs n v w h hc hi.1 hi.2
    · exact whole_out qty zs n v w h hc (by omega)
  · exact whole_wrong qty zs n v w h hb (by omega) hc
theorem curveWhole_own : ownKnob Try.prog.godebug = none := by kernel_rfl
theorem curveWhole_laidOut : laidOutB Try.prog = true := by kernel_rfl
set_option maxRecDepth 100000 in
theorem curveWhole_lifted (os : Os) (started : os.Started) (H : Type) (enc : TypeId × Value → H) :
    ReturnsInHanded {} Try.checked os 7 .any (Rows.curveWholeSpec.pre6 enc Try.prog Try.f7 Rows.curveWholeRow.domain false) (Rows.curveWholeSpec.post enc Try.prog Try.f7 false true false false) := by
  refine returnsInHanded_of_change (C := Try.checked) curveWhole_own started (by kernel_rfl) Try.func7
    (ChangeSpec.witness6 (enc := enc) (C := Try.checked) false ⟨#[], #[.int .i64 0, .slice none 0 0], []⟩ 8 (by kernel_rfl) (by kernel_rfl) (by kernel_rfl) (by kernel_rfl)) ?_
  intro W base args ds gs before hval0 hW hcnd _
  have hval : ∀ (j : Nat) t v, Try.f7.params[j]? = some t → args[j]? = some v → Value.okWide Try.prog W .any base t v := hval0
  have hW' := hW
  obtain ⟨p, q, hA0, hV, rfl, hfz, hnd⟩ := hW
  have hA : DataW.TrodAll enc Try.prog W 0 (fun _ => true) true Try.f7.params.toList args.toList ds p := hA0
  rw [Try.params7] at hA hval
  obtain ⟨v0, vs0, d0, ds0, p0, q0, hargs, rfl, rfl, h0, r0⟩ := trodAll_cons hA
  obtain ⟨v1, vs1, d1, ds1, p1, q1, rfl, rfl, rfl, h1, r1⟩ := trodAll_cons r0
  obtain ⟨rfl, rfl, rfl⟩ := trodAll_nil r1
  obtain rfl : args = #[v0, v1] := by cases args; simp_all
  obtain ⟨rfl, rfl⟩ := trodVars_none hV
  obtain ⟨a0, rfl, rfl, rfl, w0⟩ := open_int Try.underlying3 (hval 0 3 v0 rfl rfl) h0
  have bd0 := bounds_i64 w0
  obtain ⟨ad1, n1, cap1, rfl⟩ := okWide_slice Try.underlying22 (hval 1 22 v1 rfl rfl)
  have k1 := h1
  have lt1 : ∀ x ∈ p1, x.block < W.heap.size := by obtain ⟨m, hm⟩ := k1; exact DataW.trod_lt m _ _ _ hm
  obtain ⟨f1, row1, be1, bd1⟩ : ∃ f : Nat → Int, Row W (.slice ad1 n1 cap1) n1 (fun i => .int .i64 (f i)) ∧ (∀ i, n1 ≤ i → f i = 0) ∧ ∀ i, -9223372036854775808 ≤ f i ∧ f i ≤ 9223372036854775807 := by
    obtain ⟨fuel, hf⟩ := h1
    rcases open_ints Try.underlying22 Try.underlying3 (by kernel_rfl) hf with ⟨hcs, _⟩ | ⟨x, l, c, zs, hcs, _, hl, hm, hz, _, hcell, hwz⟩
    · simp [Value.cells] at hcs
      obtain ⟨rfl, rfl, rfl⟩ := hcs
      exact row_none W
    · simp [Value.cells] at hcs
      obtain ⟨rfl, rfl, rfl⟩ := hcs
      exact row_some hl hm (by simpa using hz) hcell (fun z hz => bounds_i64 (hwz z hz))
  clear hA0 hval0
  simp only [List.append_nil, List.nil_append] at hW'
  refine (curveWhole_walk W a0 f1 n1 _ row1 be1 bd1).mono fun e W' ⟨he, bel⟩ => ?_
  subst he
  exact ⟨_, rfl, _, _, _, [], _, [], hW', trodAll_mk1 (shut_bool Try.underlying4 _), (trodAll_cons_mk (shut_int Try.underlying3 w0) (trodAll_cons_mk (Below.trod curveWhole_laidOut (by kernel_rfl) (of_decide_eq_true (by kernel_rfl)) k1 bel lt1) trodAll_mk0)), rfl, bel.frame _, fun h => by cases h⟩

/-- THE STATEMENT. -/
theorem curveWhole_proved : Rows.CurveWholeSaid :=
  OpenClaim.holds_of_wide 7 Try.f7 rfl rfl rfl rfl rfl rfl rfl ⟨rfl, rfl, rfl, rfl, rfl⟩ rfl rfl rfl rfl rfl (by kernel_rfl) Try.func7 (by kernel_rfl)
    (of_decide_eq_true (by kernel_rfl)) (by unfold Func.isWrapper; first | (rw [if_pos (by decide +kernel)]; kernel_rfl) | (rw [if_neg (by decide +kernel)]; exact ⟨rfl, rfl⟩))
    (fun os started H enc _ => curveWhole_lifted os started H enc)
#print axioms curveWhole_proved
end Go.Proofs.Ytipgajilchkneaa
