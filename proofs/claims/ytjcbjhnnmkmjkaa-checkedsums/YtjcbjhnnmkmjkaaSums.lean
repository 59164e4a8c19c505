/-
  For every two ints the Go function CheckedSums, over the landed program, returns true and leaves its arguments and all old memory as they were. No condition.
-/
import Derived.Test.YtjcbjhnnmkmjkaaRefTold
import Derived.Test.YtjcbjhnnmkmjkaaArith
import Derived.Test.YtjcbjhnnmkmjkaaDown
namespace Go.Proofs.Ytjcbjhnnmkmjkaa
open Go.ChangeShapes Go.WideShapes Go.ChangeAt Go.RowKit

theorem two_cells {w2 w : World} {x0 x1 y0 y1 : Value} {T : TypeId} (hB : Below ((w2.alloc (.cells #[x0, x1] T)).alloc (.cells #[y0, y1] T)).heap.size ((w2.alloc (.cells #[x0, x1] T)).alloc (.cells #[y0, y1] T)) w) :
    w.cell? ⟨w2.heap.size, 0, none⟩ = some x0 ∧ w.cell? ⟨w2.heap.size, 1, none⟩ = some x1 ∧ w.cell? ⟨w2.heap.size + 1, 0, none⟩ = some y0 ∧ w.cell? ⟨w2.heap.size + 1, 1, none⟩ = some y1 := by
  have a := hB.cell (p := ⟨w2.heap.size, 0, none⟩) (by simp; omega)
  have b := hB.cell (p := ⟨w2.heap.size, 1, none⟩) (by simp; omega)
  have c := hB.cell (p := ⟨w2.heap.size + 1, 0, none⟩) (by simp)
  have d := hB.cell (p := ⟨w2.heap.size + 1, 1, none⟩) (by simp)
  simp at a b c d
  exact ⟨a, b, c, d⟩

set_option maxHeartbeats 2000000 in
theorem checkedSums_walk (a b : Int) (a1 : -9223372036854775808 ≤ a) (a2 : a ≤ 9223372036854775807) (b1 : -9223372036854775808 ≤ b) (b2 : b ≤ 9223372036854775807) (w : World) :
    Calls Try.prog 3 #[.int .i64 a, .int .i64 b] w fun e w' => e = .returned (.bool true) ∧ Below w.heap.size w w' := by
  go_enter Try.func3, Try.ntmps3
  go_wp2_with fail
  refine (awake_any _).mono ?_
  rintro e w1 ⟨rfl, hb1⟩
  have s1 := hb1.size
  go_wp2_with fail
  refine (of_any a _ a1 a2).mono ?_
  rintro e w2 ⟨va, rfl, hb2, la, r1, r2, r3, r4⟩
  have s2 := hb2.size
  go_wp2_with fail
  refine (of_any b _ b1 b2).mono ?_
  rintro e w3 ⟨vb, rfl, hb3, lb, k1, k2, k3, k4⟩
  have s3 := hb3.size
  have B3 : Below w.heap.size w w3 := (hb1.trans (hb2.mono s1)).trans (hb3.mono (by omega))
  have nx : IsNum w1.heap.size w3 (decide (a < 0)) va a 64 := ⟨rfl, la, r1.below hb3, r2, r3, r4⟩
  have ny : IsNum w2.heap.size w3 (decide (b < 0)) vb b 64 := ⟨rfl, lb, k1, k2, k3, k4⟩
  obtain ⟨aa, ca, rfl, _⟩ := id r1
  obtain ⟨ab, cb, rfl, _⟩ := id k1
  generalize la.length = na at *
  generalize lb.length = nb at *
  generalize decide (a < 0) = sa at *
  generalize decide (b < 0) = sb at *
  clear hb1 hb2 hb3 r1 r2 r3 r4 k1 k2 k3 k4
  have hN : Below w3.heap.size w3 ((w3.alloc (.cells #[.bool sa, .slice aa na ca] 25)).alloc (.cells #[.bool sb, .slice ab nb cb] 25)) := ((Below.refl _ _).alloc (Nat.le_refl _) _).alloc (by simp) _
  have nx0 := nx.below hN
  have ny0 := ny.below hN
  clear nx ny
  go_wp2_with fail
  refine (add_any a b _ a1 a2 b1 b2).mono ?_
  rintro e w4 ⟨rfl, C4⟩
  go_wp2_with fail
  refine (sub_any a b _ a1 a2 b1 b2).mono ?_
  rintro e w5 ⟨rfl, hb5⟩
  have C5 := C4.trans (hb5.mono C4.size)
  go_wp2_with fail
  refine (neg_any a _ a1 a2).mono ?_
  rintro e w6 ⟨rfl, hb6⟩
  have C6 := C5.trans (hb6.mono C5.size)
  obtain ⟨c60, c61, c62, c63⟩ := two_cells C6
  clear C4 C5 hb5 hb6
  go_wp2_with fail
  refine (addR_any sa sb _ _ a b 64 64 _ (nx0.below C6) (ny0.below C6) (by decide) (by decide)).mono ?_
  rintro e w7 ⟨r7, v7, rfl, hb7, n7⟩
  have C7 := C6.trans (hb7.mono C6.size)
  go_wp2_with fail
  refine (toldR_any r7 v7 (a + b) _ _ n7).mono ?_
  rintro e w8 ⟨rfl, hb8⟩
  have C8 := C7.trans (hb8.mono C7.size)
  obtain ⟨c80, c81, c82, c83⟩ := two_cells C8
  clear C6 C7 hb7 hb8 n7 c60 c61 c62 c63
  go_wp2_with fail
  go_region_held3 (fun w' => w'.cell? ⟨w3.heap.size, 0, none⟩ = some (.bool sa) ∧ w'.cell? ⟨w3.heap.size, 1, none⟩ = some (.slice aa na ca) ∧ w'.cell? ⟨w3.heap.size + 1, 0, none⟩ = some (.bool sb) ∧ w'.cell? ⟨w3.heap.size + 1, 1, none⟩ = some (.slice ab nb cb)) (go_keep) (first
   | (go_at_call 16; refine (negR_any sb _ b 64 _ ((ny0.below C8).below ?_)).mono ?_; exact (Below.refl _ _).drew; rintro e w9 ⟨r9, rfl, hb9, n9⟩; have C9 := C8.drew.trans (hb9.mono C8.size); obtain ⟨c90, c91, c92, c93⟩ := two_cells C9)
   | (go_at_call 15; refine (addR_any sa r9 _ _ a (-b) 64 64 _ (nx0.below C9) n9 (by decide) (by decide)).mono ?_; rintro e w10 ⟨r10, v10, rfl, hb10, n10⟩; have C10 := C9.trans (hb10.mono C9.size); obtain ⟨c100, c101, c102, c103⟩ := two_cells C10)
   | (go_at_call 14; refine (toldR_any r10 v10 (a + -b) _ _ n10).mono ?_; rintro e w11 ⟨rfl, hb11⟩; have C11 := C10.trans (hb11.mono C10.size); obtain ⟨c110, c111, c112, c113⟩ := two_cells C11))
  rw [show a + -b = a - b from by omega]
  clear C8 C9 C10 hb9 hb10 hb11 n9 n10 c80 c81 c82 c83 c90 c91 c92 c93 c100 c101 c102 c103
  go_wp2_with fail
  refine (negR_any sa _ a 64 _ (nx0.below C11)).mono ?_
  rintro e w12 ⟨r12, rfl, hb12, n12⟩
  have C12 := C11.trans (hb12.mono C11.size)
  go_wp2_with fail
  refine (toldR_any r12 _ (-a) _ _ n12).mono ?_
  rintro e w13 ⟨rfl, hb13⟩
  have C13 := C12.trans (hb13.mono C12.size)
  clear C11 C12 hb12 hb13 n12 c110 c111 c112 c113 nx0 ny0
  go_wp2_with fail
  refine (told_same _ _ _).mono ?_
  rintro e w14 ⟨rfl, rfl⟩
  go_wp2_with fail
  refine (told_same _ _ _).mono ?_
  rintro e w14 ⟨rfl, rfl⟩
  go_wp2_with fail
  refine (told_same _ _ _).mono ?_
  rintro e w14 ⟨rfl, rfl⟩
  go_wp2_with fail
  go_ret
  exact ⟨rfl, (B3.trans (hN.mono (by omega))).trans (C13.mono (by simp; omega))⟩

theorem checkedSums_own : ownKnob Try.prog.godebug = none := by kernel_rfl
set_option maxRecDepth 100000 in
theorem checkedSums_lifted (os : Os) (started : os.Started) (H : Type) (enc : TypeId × Value → H) :
    ReturnsInHanded {} Try.checked os 3 .any (Rows.checkedSumsSpec.pre6 enc Try.prog Try.f3 Rows.checkedSumsRow.domain false) (Rows.checkedSumsSpec.post enc Try.prog Try.f3 false true false false) := by
  refine returnsInHanded_of_change (C := Try.checked) checkedSums_own started (by kernel_rfl) Try.func3
    (ChangeSpec.witness6 (enc := enc) (C := Try.checked) false ⟨#[], #[.int .i64 0, .int .i64 0], []⟩ 8 (by kernel_rfl) (by kernel_rfl) (by kernel_rfl) (by kernel_rfl)) ?_
  intro W base args ds gs before hval0 hW hcnd _
  have hval : ∀ (j : Nat) t v, Try.f3.params[j]? = some t → args[j]? = some v → Value.okWide Try.prog W .any base t v := hval0
  have hW' := hW
  obtain ⟨p, q, hA0, hV, rfl, hfz, hnd⟩ := hW
  have hA : DataW.TrodAll enc Try.prog W 0 (fun _ => true) true Try.f3.params.toList args.toList ds p := hA0
  rw [Try.params3] at hA hval
  obtain ⟨v0, vs0, d0, ds0, p0, q0, hargs, rfl, rfl, h0, r0⟩ := trodAll_cons hA
  obtain ⟨v1, vs1, d1, ds1, p1, q1, rfl, rfl, rfl, h1, r1⟩ := trodAll_cons r0
  obtain ⟨rfl, rfl, rfl⟩ := trodAll_nil r1
  obtain rfl : args = #[v0, v1] := by cases args; simp_all
  obtain ⟨rfl, rfl⟩ := trodVars_none hV
  obtain ⟨a0, rfl, rfl, rfl, w0⟩ := open_int Try.underlying3 (hval 0 3 v0 rfl rfl) h0
  obtain ⟨a1, rfl, rfl, rfl, w1⟩ := open_int Try.underlying3 (hval 1 3 v1 rfl rfl) h1
  clear hA0 hval0
  simp only [List.append_nil] at hW'
  have b0 := bounds_i64 w0
  have b1 := bounds_i64 w1
  refine (checkedSums_walk a0 a1 b0.1 b0.2 b1.1 b1.2 W).mono fun e W' ⟨he, bel⟩ => ?_
  subst he
  exact ⟨_, rfl, _, _, _, [], [], [], hW', trodAll_mk1 (shut_bool Try.underlying4 _), (trodAll_cons_mk (shut_int Try.underlying3 w0) (trodAll_cons_mk (shut_int Try.underlying3 w1) trodAll_mk0)), rfl, bel.frame _, fun h => by cases h⟩

/-- THE STATEMENT. -/
theorem checkedSums_proved : Rows.CheckedSumsSaid :=
  OpenClaim.holds_of_wide 3 Try.f3 rfl rfl rfl rfl rfl rfl rfl ⟨rfl, rfl, rfl, rfl, rfl⟩ rfl rfl rfl rfl rfl (by kernel_rfl) Try.func3 (by kernel_rfl)
    (of_decide_eq_true (by kernel_rfl)) (by unfold Func.isWrapper; first | (rw [if_pos (by decide +kernel)]; kernel_rfl) | (rw [if_neg (by decide +kernel)]; exact ⟨rfl, rfl⟩))
    (fun os started H enc _ => checkedSums_lifted os started H enc)
#print axioms checkedSums_proved

end Go.Proofs.Ytjcbjhnnmkmjkaa
