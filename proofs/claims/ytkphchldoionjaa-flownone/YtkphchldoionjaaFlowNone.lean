/-
  FlowNone: on a tape that is none nothing was traded. For every step the Go function FlowNone, over the landed program, returns true and leaves all old memory as it was. No condition.
-/
import Derived.Test.YtkphchldoionjaaFlTape
import Derived.Test.YtkphchldoionjaaFrame3
namespace Go.Proofs.Ytkphchldoionjaa
open Go.ChangeShapes Go.WideShapes Go.ChangeAt Go.RowKit Go.Lib FL

/-- What the loop stands on: the step in block ob, the empty tape in block q, the two pointers behind it. -/
structure NoneAt (w wr : World) (ob q : Nat) (s n : Int) : Prop where
  bel : Below w.heap.size w wr
  c0 : wr.cell? ⟨ob, 0, none⟩ = some (.int .i64 s)
  c1 : wr.cell? ⟨ob, 1, none⟩ = some (.int .i64 n)
  e0 : wr.cell? ⟨q, 0, none⟩ = some (.slice none 0 0)
  l0 : wr.cell? ⟨q + 1, 0, none⟩ = some (.pointer none)
  l1 : wr.cell? ⟨q + 1, 1, none⟩ = some (.pointer (some ⟨q, 0, none⟩))
set_option maxRecDepth 100000 in
set_option maxHeartbeats 4000000 in
theorem flowNone_walk (w : World) (s n : Int) : Calls Try.prog 5 #[.agg #[.int .i64 s, .int .i64 n]] w fun e w' => e = .returned (.bool true) ∧ Below w.heap.size w w' := by
  have b0 := (Below.refl _ w).alloc (Nat.le_refl _) (.cells #[.int .i64 s, .int .i64 n] 30)
  have F1 := awake25_any (w.alloc (.cells #[.int .i64 s, .int .i64 n] 30))
  have f1 : (w.alloc (.cells #[.int .i64 s, .int .i64 n] 30)).cell? ⟨w.heap.size, 0, none⟩ = some (.int .i64 s) := by simp
  have f2 : (w.alloc (.cells #[.int .i64 s, .int .i64 n] 30)).cell? ⟨w.heap.size, 1, none⟩ = some (.int .i64 n) := by simp
  have HF : Hid (_ ∧ _ ∧ _) := ⟨b0, f1, f2⟩
  obtain ⟨ob, hob⟩ : ∃ ob, ob = w.heap.size := ⟨_, rfl⟩
  clear b0 f1 f2
  go_enter Try.func5, Try.ntmps5
  go_wp2_with fail
  refine F1.mono ?_
  rintro e w1 ⟨rfl, hb⟩
  have I : Hid (NoneAt w ((w1.alloc (.cells #[.slice none 0 0] 41)).alloc (.cells #[.pointer none, .pointer (some ⟨w1.heap.size, 0, none⟩)] 24)) ob w1.heap.size s n) := by
    obtain ⟨b0, f1, f2⟩ := HF.out
    have z1 := hb.size
    have z0 : w.heap.size < (w.alloc (.cells #[.int .i64 s, .int .i64 n] 30)).heap.size := by simp
    have hl : w.heap.size < w1.heap.size := by omega
    have b2 := ((Below.refl w1.heap.size w1).alloc (Nat.le_refl _) (.cells #[.slice none 0 0] 41)).alloc (by simp) (.cells #[.pointer none, .pointer (some ⟨w1.heap.size, 0, none⟩)] 24)
    have g : ∀ j x, (w.alloc (.cells #[.int .i64 s, .int .i64 n] 30)).cell? ⟨w.heap.size, j, none⟩ = some x → ((w1.alloc (.cells #[.slice none 0 0] 41)).alloc (.cells #[.pointer none, .pointer (some ⟨w1.heap.size, 0, none⟩)] 24)).cell? ⟨w.heap.size, j, none⟩ = some x := fun j x e => by
      rw [b2.cell (p := ⟨w.heap.size, j, none⟩) hl, hb.cell (p := ⟨w.heap.size, j, none⟩) z0]; exact e
    rw [hob]
    exact ⟨b0.trans ((hb.mono (by omega)).trans (b2.mono (by omega))), g 0 _ f1, g 1 _ f2, by simp, by simp, by simp⟩
  clear HF hb
  go_wp2_with fail
  rw [← hob]
  generalize (w1.alloc (.cells #[.slice none 0 0] 41)).alloc (.cells #[.pointer none, .pointer (some ⟨w1.heap.size, 0, none⟩)] 24) = w3 at *
  generalize w1.heap.size = q at *
  clear hob F1
  go_loopw [13] (fun c wr => ∃ j : Nat, c = .int .i64 (j : Int) ∧ j ≤ 2 ∧ Hid (NoneAt w wr ob q s n)) (fun c _ => 2 - (RowKit.intOf c).toNat)
  case atStart => exact ⟨0, rfl, by omega, I.out⟩
  case round =>
    clear I
    obtain ⟨j, rfl, hj, I⟩ := hrel
    by_cases hlt : j < 2
    · obtain ⟨o, l0, NB⟩ : ∃ o, wr.cell? ⟨q + 1, j, none⟩ = some (.pointer o) ∧ NoTape wr (.pointer o) := by
        by_cases j0 : j = 0
        · subst j0; exact ⟨_, I.out.l0, .inl rfl⟩
        · obtain rfl : j = 1 := by omega
          exact ⟨_, I.out.l1, .inr ⟨_, rfl, I.out.e0⟩⟩
      have t0 : (j : Int) < 2 := by omega
      have t1 : (0 : Int) ≤ (j : Int) := by omega
      have G1 := print_no NB s n
      have G2 := total_no NB s
      have c0 := I.out.c0
      have c1 := I.out.c1
      clear NB
      go_wp2_with fail
      refine G1.mono ?_
      rintro e w5 ⟨rfl, rfl⟩
      go_wp2_with fail
      refine G2.mono ?_
      rintro e w5 ⟨rfl, rfl⟩
      go_wp2_with fail
      go_roundw
      case rel => exact ⟨j + 1, by simp, by omega, I.out⟩
      case measure => simp [RowKit.intOf]; omega
    · have t0 : ¬ (j : Int) < 2 := by omega
      have HB : Hid (Below w.heap.size w wr) := I.out.bel
      clear I
      go_wp2_with fail
      go_ret
      exact ⟨rfl, HB.out⟩
theorem flowNone_own : ownKnob Try.prog.godebug = none := by kernel_rfl
theorem flowNone_laidOut : laidOutB Try.prog = true := by kernel_rfl
set_option maxRecDepth 100000 in
theorem flowNone_lifted (os : Os) (started : os.Started) (H : Type) (enc : TypeId × Value → H) :
    ReturnsInHanded {} Try.checked os 5 .any (Rows.flowNoneSpec.pre6 enc Try.prog Try.f5 Rows.flowNoneRow.domain false) (Rows.flowNoneSpec.post enc Try.prog Try.f5 false true false false) := by
  refine returnsInHanded_of_change (C := Try.checked) flowNone_own started (by kernel_rfl) Try.func5
    (ChangeSpec.witness6 (enc := enc) (C := Try.checked) false ⟨#[], #[.agg #[.int .i64 0, .int .i64 0]], []⟩ 8 (by kernel_rfl) (by kernel_rfl) (by kernel_rfl) (by kernel_rfl)) ?_
  intro W base args ds gs before hval0 hW hcnd _
  have hval : ∀ (j : Nat) t v, Try.f5.params[j]? = some t → args[j]? = some v → Value.okWide Try.prog W .any base t v := hval0
  have hW' := hW
  obtain ⟨p, q, hA0, hV, rfl, hfz, hnd⟩ := hW
  have hA : DataW.TrodAll enc Try.prog W 0 (fun _ => true) true Try.f5.params.toList args.toList ds p := hA0
  rw [Try.params5] at hA hval
  obtain ⟨v0, vs0, d0, ds0, p0, q0, hargs, rfl, rfl, h0, r0⟩ := trodAll_cons hA
  obtain ⟨rfl, rfl, rfl⟩ := trodAll_nil r0
  obtain rfl : args = #[v0] := by cases args; simp_all
  obtain ⟨rfl, rfl⟩ := trodVars_none hV
  obtain ⟨x0, y0, u0, z0, m0, rfl, rfl, rfl, hu0, hz0⟩ := Joins.open_agg2 Try.underlying30 (by kernel_rfl) (by kernel_rfl) (hval 0 30 v0 rfl rfl) h0
  obtain ⟨s0, es0, rfl, ws0⟩ := DataW.trod_int Try.underlying3 hu0
  obtain ⟨t0, et0, rfl, wt0⟩ := DataW.trod_int Try.underlying3 hz0
  simp only [List.cons.injEq, and_true] at es0 et0
  subst es0 et0
  have bs0 := bounds_i64 ws0
  have bt0 := bounds_i64 wt0
  clear hA0 hval0
  refine (flowNone_walk W s0 t0).mono fun e W' ⟨he, bel⟩ => ?_
  subst he
  exact ⟨_, rfl, _, _, _, [], _, [], hW', trodAll_mk1 (shut_bool Try.underlying4 _), (trodAll_cons_mk (Joins.shut_agg2 (P := Try.prog) (y0 := (.lit (.int .i64 s0), [])) (y1 := (.lit (.int .i64 t0), [])) Try.underlying30 (by kernel_rfl) (by kernel_rfl) ⟨1, by simp [DataW.trod, Try.underlying3, ws0]⟩ ⟨1, by simp [DataW.trod, Try.underlying3, wt0]⟩) trodAll_mk0), rfl, bel.frame _, fun h => by cases h⟩

/-- THE STATEMENT. -/
theorem flowNone_proved : Rows.FlowNoneSaid :=
  OpenClaim.holds_of_wide 5 Try.f5 rfl rfl rfl rfl rfl rfl rfl ⟨rfl, rfl, rfl, rfl, rfl⟩ rfl rfl rfl rfl rfl (by kernel_rfl) Try.func5 (by kernel_rfl)
    (of_decide_eq_true (by kernel_rfl)) (by unfold Func.isWrapper; first | (rw [if_pos (by decide +kernel)]; kernel_rfl) | (rw [if_neg (by decide +kernel)]; exact ⟨rfl, rfl⟩))
    (fun os started H enc _ => flowNone_lifted os started H enc)
#print axioms flowNone_proved
end Go.Proofs.Ytkphchldoionjaa
