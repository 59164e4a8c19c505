/-
  StreakNone: of a streak that is none nothing is noted. For every execution, no condition.
-/
import Derived.Test.YtfgkgeeldmmfjaaStrAwake
import Derived.Test.YtfgkgeeldmmfjaaFrame7
namespace Go.Proofs.Ytfgkgeeldmmfjaa
open Go.ChangeShapes Go.WideShapes Go.ChangeAt Go.RowKit Go.Lib

theorem lt_two {i : Nat} (h : i < 2) : i = 0 ∨ i = 1 := by omega
set_option maxRecDepth 100000 in
set_option maxHeartbeats 4000000 in
theorem streakNone_walk (w : World) (cl : Bool) (v q x : Int) :
    Calls Try.prog 4 #[.agg #[.bool cl, .int .i64 v, .int .i64 q, .int .i64 x]] w fun e w' => e = .returned (.bool true) ∧ Below w.heap.size w w' := by
  obtain ⟨W0, hW0⟩ : ∃ W, W = w.alloc (.cells #[.bool cl, .int .i64 v, .int .i64 q, .int .i64 x] 30) := ⟨_, rfl⟩
  have F1 := awake7_any W0
  have B0 : Below w.heap.size w W0 := by rw [hW0]; exact (Below.refl _ w).alloc (Nat.le_refl _) _
  have z0 : W0.heap.size = w.heap.size + 1 := by rw [hW0]; simp
  have d1 : W0.cell? ⟨w.heap.size, 1, none⟩ = some (.int .i64 v) := by rw [hW0]; simp
  have d2 : W0.cell? ⟨w.heap.size, 2, none⟩ = some (.int .i64 q) := by rw [hW0]; simp
  have d3 : W0.cell? ⟨w.heap.size, 3, none⟩ = some (.int .i64 x) := by rw [hW0]; simp
  go_enter Try.func4, Try.ntmps4
  go_wp2_with fail
  rw [← hW0]
  clear hW0
  refine F1.mono ?_
  rintro e w1 ⟨rfl, hb⟩
  have hsz := hb.size
  have e1 := (hb.cell (World.block_lt_of_cell? _ _ d1)).trans d1
  have e2 := (hb.cell (World.block_lt_of_cell? _ _ d2)).trans d2
  have e3 := (hb.cell (World.block_lt_of_cell? _ _ d3)).trans d3
  have B1 := B0.trans (hb.mono (B' := w.heap.size) (by omega))
  have hz1 : w.heap.size < w1.heap.size := by omega
  clear d1 d2 d3 hb B0 z0 hsz F1
  go_wp2_with fail
  obtain ⟨W, hW⟩ : ∃ W, W = (w1.alloc (.cells #[.int .i64 0, .int .i64 0, .int .i64 0, .int .i64 0, .int .i64 0, .bool false] 41)).alloc (.cells #[.pointer none, .pointer (some ⟨w1.heap.size, 0, none⟩)] 24) := ⟨_, rfl⟩
  rw [← hW]
  have BW : Below w1.heap.size w1 W := by rw [hW]; exact ((Below.refl _ w1).alloc (Nat.le_refl _) _).alloc (by simp) _
  have B : Below w.heap.size w W := B1.trans (BW.mono B1.size)
  have c0 : W.cell? ⟨w1.heap.size + 1, 0, none⟩ = some (.pointer none) := by rw [hW]; simp
  have c1 : W.cell? ⟨w1.heap.size + 1, 1, none⟩ = some (.pointer (some ⟨w1.heap.size, 0, none⟩)) := by rw [hW]; simp
  have c2 : W.cell? ⟨w1.heap.size, 0, none⟩ = some (.int .i64 0) := by rw [hW]; simp
  have f1 := (BW.cell (World.block_lt_of_cell? _ _ e1)).trans e1
  have f2 := (BW.cell (World.block_lt_of_cell? _ _ e2)).trans e2
  have f3 := (BW.cell (World.block_lt_of_cell? _ _ e3)).trans e3
  have HB : Hid (Below w.heap.size w W) := B
  clear hW BW B1 e1 e2 e3 B
  go_loopw [13] (fun i wr => ∃ k : Nat, i = .int .i64 (k : Int) ∧ k ≤ 2 ∧ wr = W) (fun i _ => 2 - (RowKit.intOf i).toNat)
  case atStart => exact ⟨0, rfl, by omega, rfl⟩
  case round =>
    obtain ⟨k, rfl, hk, rfl⟩ := hrel
    by_cases hlt : k < 2
    · obtain ⟨ra, hr, hc⟩ : ∃ ra, NoStr wr (.pointer ra) ∧ wr.cell? ⟨w1.heap.size + 1, k, none⟩ = some (.pointer ra) := by
        rcases lt_two hlt with rfl | rfl
        · exact ⟨_, .inl rfl, c0⟩
        · exact ⟨_, .inr ⟨_, rfl, c2⟩, c1⟩
      have t : (k : Int) < 2 := by omega
      have G1 := noteN hr v q x
      have G2 := countN hr
      have G3 := trippedN hr
      have G4 := clearN hr
      clear c0 c1 c2 hr
      go_wp2_with fail
      refine G1.mono ?_
      rintro e w2 ⟨rfl, rfl⟩
      go_wp2_with fail
      refine G2.mono ?_
      rintro e w3 ⟨rfl, rfl⟩
      go_wp2_with fail
      refine G3.mono ?_
      rintro e w4 ⟨rfl, rfl⟩
      go_wp2_with fail
      refine G4.mono ?_
      rintro e w5 ⟨rfl, rfl⟩
      go_wp2_with fail
      go_roundw
      case rel => exact ⟨k + 1, by simp, by omega, trivial⟩
      case measure => simp [RowKit.intOf]; omega
    · obtain rfl : k = 2 := by omega
      go_wp2_with fail
      go_ret
      exact ⟨rfl, HB.out⟩
theorem streakNone_own : ownKnob Try.prog.godebug = none := by kernel_rfl
theorem streakNone_laidOut : laidOutB Try.prog = true := by kernel_rfl
set_option maxRecDepth 100000 in
theorem streakNone_lifted (os : Os) (started : os.Started) (H : Type) (enc : TypeId × Value → H) :
    ReturnsInHanded {} Try.checked os 4 .any (Rows.streakNoneSpec.pre6 enc Try.prog Try.f4 Rows.streakNoneRow.domain false) (Rows.streakNoneSpec.post enc Try.prog Try.f4 false true false false) := by
  refine returnsInHanded_of_change (C := Try.checked) streakNone_own started (by kernel_rfl) Try.func4
    (ChangeSpec.witness6 (enc := enc) (C := Try.checked) false ⟨#[], #[.agg #[.bool false, .int .i64 0, .int .i64 0, .int .i64 0]], []⟩ 8 (by kernel_rfl) (by kernel_rfl) (by kernel_rfl) (by kernel_rfl)) ?_
  intro W base args ds gs before hval0 hW hcnd _
  have hval : ∀ (j : Nat) t v, Try.f4.params[j]? = some t → args[j]? = some v → Value.okWide Try.prog W .any base t v := hval0
  have hW' := hW
  obtain ⟨p, q, hA0, hV, rfl, hfz, hnd⟩ := hW
  have hA : DataW.TrodAll enc Try.prog W 0 (fun _ => true) true Try.f4.params.toList args.toList ds p := hA0
  rw [Try.params4] at hA hval
  obtain ⟨v0, vs0, d0, ds0, p0, q0, hargs, rfl, rfl, h0, r0⟩ := trodAll_cons hA
  obtain ⟨rfl, rfl, rfl⟩ := trodAll_nil r0
  obtain rfl : args = #[v0] := by cases args; simp_all
  obtain ⟨rfl, rfl⟩ := trodVars_none hV
  obtain ⟨f00, f01, f02, f03, y00, y01, y02, y03, m0, rfl, rfl, rfl, g00, g01, g02, g03⟩ := Joins.open_agg4 Try.underlying30 (by kernel_rfl) (by kernel_rfl) (hval 0 30 v0 rfl rfl) h0
  obtain ⟨b0, eb0, rfl⟩ := trod_a_bool Try.underlying4 g00
  obtain ⟨x0, ex0, rfl, wx0⟩ := DataW.trod_int Try.underlying3 g01
  obtain ⟨y0, ey0, rfl, wy0⟩ := DataW.trod_int Try.underlying3 g02
  obtain ⟨z0, ez0, rfl, wz0⟩ := DataW.trod_int Try.underlying3 g03
  simp only [List.cons.injEq, and_true] at eb0 ex0 ey0 ez0
  subst eb0 ex0 ey0 ez0
  clear hA0 hval0
  simp only [List.append_nil] at hW'
  refine (streakNone_walk W b0 x0 y0 z0).mono fun e W' ⟨he, bel⟩ => ?_
  subst he
  exact ⟨_, rfl, _, _, _, [], _, [], hW', trodAll_mk1 (shut_bool Try.underlying4 _), (trodAll_cons_mk (Joins.shut_agg4 (P := Try.prog) (y0 := (.lit (.bool b0), [])) (y1 := (.lit (.int .i64 x0), [])) (y2 := (.lit (.int .i64 y0), [])) (y3 := (.lit (.int .i64 z0), [])) Try.underlying30 (by kernel_rfl) (by kernel_rfl) ⟨1, by simp [DataW.trod, Try.underlying4]⟩ ⟨1, by simp [DataW.trod, Try.underlying3, wx0]⟩ ⟨1, by simp [DataW.trod, Try.underlying3, wy0]⟩ ⟨1, by simp [DataW.trod, Try.underlying3, wz0]⟩) trodAll_mk0), rfl, bel.frame _, fun h => by cases h⟩

/-- THE STATEMENT. -/
theorem streakNone_proved : Rows.StreakNoneSaid :=
  OpenClaim.holds_of_wide 4 Try.f4 rfl rfl rfl rfl rfl rfl rfl ⟨rfl, rfl, rfl, rfl, rfl⟩ rfl rfl rfl rfl rfl (by kernel_rfl) Try.func4 (by kernel_rfl)
    (of_decide_eq_true (by kernel_rfl)) (by unfold Func.isWrapper; first | (rw [if_pos (by decide +kernel)]; kernel_rfl) | (rw [if_neg (by decide +kernel)]; exact ⟨rfl, rfl⟩))
    (fun os started H enc _ => streakNone_lifted os started H enc)
#print axioms streakNone_proved
end Go.Proofs.Ytfgkgeeldmmfjaa
