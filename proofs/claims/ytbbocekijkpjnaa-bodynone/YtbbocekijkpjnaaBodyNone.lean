/-
  BodyNone: a form that is none tells nothing. For every ask, no condition.
-/
import Derived.Test.YtbbocekijkpjnaaBodyAwake
import Derived.Test.YtbbocekijkpjnaaFive
namespace Go.Proofs.Ytbbocekijkpjnaa
open Go.ChangeShapes Go.WideShapes Go.ChangeAt Go.RowKit Go.Lib

theorem lt_two {i : Nat} (h : i < 2) : i = 0 ∨ i = 1 := by omega
set_option maxRecDepth 100000 in
set_option maxHeartbeats 4000000 in
theorem bodyNone_walk (w : World) (a b c d x : Int) :
    Calls Try.prog 4 #[.agg #[.int .i64 a, .int .i64 b, .int .i64 c, .int .i64 d, .int .i64 x]] w fun e w' => e = .returned (.bool true) ∧ Below w.heap.size w w' := by
  have A1 : Below w.heap.size w (w.alloc (.cells #[.int .i64 a, .int .i64 b, .int .i64 c, .int .i64 d, .int .i64 x] 35)) := (Below.refl _ w).alloc (Nat.le_refl _) _
  have p1 : (w.alloc (.cells #[.int .i64 a, .int .i64 b, .int .i64 c, .int .i64 d, .int .i64 x] 35)).cell? ⟨w.heap.size, 1, none⟩ = some (.int .i64 b) := by simp
  have p2 : (w.alloc (.cells #[.int .i64 a, .int .i64 b, .int .i64 c, .int .i64 d, .int .i64 x] 35)).cell? ⟨w.heap.size, 2, none⟩ = some (.int .i64 c) := by simp
  have p3 : (w.alloc (.cells #[.int .i64 a, .int .i64 b, .int .i64 c, .int .i64 d, .int .i64 x] 35)).cell? ⟨w.heap.size, 3, none⟩ = some (.int .i64 d) := by simp
  have p4 : (w.alloc (.cells #[.int .i64 a, .int .i64 b, .int .i64 c, .int .i64 d, .int .i64 x] 35)).cell? ⟨w.heap.size, 4, none⟩ = some (.int .i64 x) := by simp
  have F1 := awake11_any (w.alloc (.cells #[.int .i64 a, .int .i64 b, .int .i64 c, .int .i64 d, .int .i64 x] 35))
  go_enter Try.func4, Try.ntmps4
  go_wp2_with fail
  refine F1.mono ?_
  rintro e w1 ⟨rfl, hb⟩
  clear F1
  have q1 := (hb.cell (World.block_lt_of_cell? _ _ p1)).trans p1
  have q2 := (hb.cell (World.block_lt_of_cell? _ _ p2)).trans p2
  have q3 := (hb.cell (World.block_lt_of_cell? _ _ p3)).trans p3
  have q4 := (hb.cell (World.block_lt_of_cell? _ _ p4)).trans p4
  have HA : Hid (Below w.heap.size w w1) := A1.trans (hb.mono A1.size)
  clear A1 p1 p2 p3 p4 hb
  go_wp2_with fail
  obtain ⟨W, hW⟩ : ∃ W, W = (w1.alloc (.cells #[.map none, .slice none 0 0, .int .i64 0, .int .i64 0] 39)).alloc (.cells #[.pointer none, .pointer (some ⟨w1.heap.size, 0, none⟩)] 36) := ⟨_, rfl⟩
  rw [← hW]
  have B1 : Below w1.heap.size w1 W := by rw [hW]; exact ((Below.refl _ _).alloc (Nat.le_refl _) _).alloc (by simp) _
  have c0 : W.cell? ⟨w1.heap.size + 1, 0, none⟩ = some (.pointer none) := by rw [hW]; simp
  have c1 : W.cell? ⟨w1.heap.size + 1, 1, none⟩ = some (.pointer (some ⟨w1.heap.size, 0, none⟩)) := by rw [hW]; simp
  have c2 : W.cell? ⟨w1.heap.size, 0, none⟩ = some (.map none) := by rw [hW]; simp
  have r1 := (B1.cell (World.block_lt_of_cell? _ _ q1)).trans q1
  have r2 := (B1.cell (World.block_lt_of_cell? _ _ q2)).trans q2
  have r3 := (B1.cell (World.block_lt_of_cell? _ _ q3)).trans q3
  have r4 := (B1.cell (World.block_lt_of_cell? _ _ q4)).trans q4
  have HB : Hid (Below w.heap.size w W) := HA.out.trans (B1.mono HA.out.size)
  clear hW q1 q2 q3 q4 B1 HA
  go_loopw [15] (fun i wr => ∃ k : Nat, i = .int .i64 (k : Int) ∧ k ≤ 2 ∧ Below W.heap.size W wr) (fun i _ => 2 - (RowKit.intOf i).toNat)
  case atStart => exact ⟨0, rfl, by omega, Below.refl _ _⟩
  case round =>
    obtain ⟨k, rfl, hk, BR⟩ := hrel
    by_cases hlt : k < 2
    · obtain ⟨pa, hr, hc⟩ : ∃ pa, NoFrm wr (.pointer pa) ∧ wr.cell? ⟨w1.heap.size + 1, k, none⟩ = some (.pointer pa) := by
        rcases lt_two hlt with rfl | rfl
        · exact ⟨_, .inl rfl, (BR.cell (p := ⟨w1.heap.size + 1, 0, none⟩) (World.block_lt_of_cell? _ _ c0)).trans c0⟩
        · exact ⟨_, .inr ⟨_, rfl, (BR.cell (p := ⟨w1.heap.size, 0, none⟩) (World.block_lt_of_cell? _ _ c2)).trans c2⟩, (BR.cell (p := ⟨w1.heap.size + 1, 1, none⟩) (World.block_lt_of_cell? _ _ c1)).trans c1⟩
      have t : (k : Int) < 2 := by omega
      have s1 := (BR.cell (World.block_lt_of_cell? _ _ r1)).trans r1
      have s3 := (BR.cell (World.block_lt_of_cell? _ _ r3)).trans r3
      have s4 := (BR.cell (World.block_lt_of_cell? _ _ r4)).trans r4
      have G1 := done_none hr
      have G2 := kind_none hr
      have G3 := has_none hr b
      have G4 := name_none hr b
      have G5 := int_none hr b d x
      have HR : Hid (NoFrm wr (.pointer pa)) := hr
      have HBR : Hid (Below W.heap.size W wr) := BR
      clear c0 c1 c2 hr BR
      go_wp2_with fail
      refine G1.mono ?_
      rintro e w2 ⟨rfl, rfl⟩
      clear G1
      go_wp2_with fail
      refine G2.mono ?_
      rintro e w3 ⟨rfl, rfl⟩
      clear G2
      go_wp2_with fail
      refine G3.mono ?_
      rintro e w4 ⟨rfl, rfl⟩
      clear G3
      go_wp2_with fail
      refine G4.mono ?_
      rintro e w5 ⟨rfl, rfl⟩
      clear G4
      go_wp2_with fail
      refine G5.mono ?_
      rintro e w6 ⟨rfl, b6⟩
      clear G5
      have G6 := ints_none (HR.out.still b6) b c d x
      have B6 := HBR.out.trans (b6.mono HBR.out.size)
      have u1 := (B6.cell (World.block_lt_of_cell? _ _ r1)).trans r1
      have u2 := (B6.cell (World.block_lt_of_cell? _ _ r2)).trans r2
      have u3 := (B6.cell (World.block_lt_of_cell? _ _ r3)).trans r3
      have u4 := (B6.cell (World.block_lt_of_cell? _ _ r4)).trans r4
      have HB6 : Hid (Below W.heap.size W w6) := B6
      clear B6 b6
      go_wp2_with fail
      refine G6.mono ?_
      rintro e w7 ⟨rfl, b7⟩
      clear G6
      have B7 := HB6.out.trans (b7.mono HB6.out.size)
      clear b7
      go_wp2_with fail
      go_roundw
      case rel => exact ⟨k + 1, by simp, by omega, B7⟩
      case measure => simp [RowKit.intOf]; omega
    · obtain rfl : k = 2 := by omega
      have B8 := HB.out.trans (BR.mono HB.out.size)
      go_wp2_with fail
      go_ret
      exact ⟨rfl, B8⟩
theorem bodyNone_own : ownKnob Try.prog.godebug = none := by kernel_rfl
set_option maxRecDepth 100000 in
theorem bodyNone_lifted (os : Os) (started : os.Started) (H : Type) (enc : TypeId × Value → H) :
    ReturnsInHanded {} Try.checked os 4 .any (Rows.bodyNoneSpec.pre6 enc Try.prog Try.f4 Rows.bodyNoneRow.domain false) (Rows.bodyNoneSpec.post enc Try.prog Try.f4 false true false false) := by
  refine returnsInHanded_of_change (C := Try.checked) bodyNone_own started (by kernel_rfl) Try.func4
    (ChangeSpec.witness6 (enc := enc) (C := Try.checked) false ⟨#[], #[.agg #[.int .i64 0, .int .i64 0, .int .i64 0, .int .i64 0, .int .i64 0]], []⟩ 8 (by kernel_rfl) (by kernel_rfl) (by kernel_rfl) (by kernel_rfl)) ?_
  intro W base args ds gs before hval0 hW hcnd _
  have hval : ∀ (j : Nat) t v, Try.f4.params[j]? = some t → args[j]? = some v → Value.okWide Try.prog W .any base t v := hval0
  have hW' := hW
  obtain ⟨p, q, hA0, hV, rfl, hfz, hnd⟩ := hW
  have hA : DataW.TrodAll enc Try.prog W 0 (fun _ => true) true Try.f4.params.toList args.toList ds p := hA0
  rw [Try.params4] at hA hval
  obtain ⟨v0, vs0, d0, ds0, p0, q0, hargs, rfl, rfl, h0, r0⟩ := trodAll_cons hA
  obtain ⟨rfl, rfl, rfl⟩ := trodAll_nil r0
  obtain rfl : args = #[v0] := by cases args; simp_all
  obtain ⟨rfl, rfl⟩ := trodVars_none hV
  obtain ⟨x0, x1, x2, x3, x4, y0, y1, y2, y3, y4, m, rfl, rfl, rfl, hy0, hy1, hy2, hy3, hy4⟩ := open_five Try.underlying35 (by kernel_rfl) (by kernel_rfl) (hval 0 35 v0 rfl rfl) h0
  obtain ⟨a, ea, rfl, wa⟩ := DataW.trod_int Try.underlying3 hy0
  obtain ⟨b, eb, rfl, wb⟩ := DataW.trod_int Try.underlying3 hy1
  obtain ⟨c, ec, rfl, wc⟩ := DataW.trod_int Try.underlying3 hy2
  obtain ⟨d, ed, rfl, wd⟩ := DataW.trod_int Try.underlying3 hy3
  obtain ⟨x, ex, rfl, wx⟩ := DataW.trod_int Try.underlying3 hy4
  simp only [List.cons.injEq, and_true] at ea eb ec ed ex
  subst ea eb ec ed ex
  clear hA0 hval0
  simp only [List.append_nil] at hW'
  refine (bodyNone_walk W a b c d x).mono fun e W' ⟨he, bel⟩ => ?_
  subst he
  exact ⟨_, rfl, _, _, _, [], [], [], hW', trodAll_mk1 (shut_bool Try.underlying4 _), (trodAll_cons_mk (shut_five (y0 := (.lit (.int .i64 a), [])) (y1 := (.lit (.int .i64 b), [])) (y2 := (.lit (.int .i64 c), [])) (y3 := (.lit (.int .i64 d), [])) (y4 := (.lit (.int .i64 x), [])) Try.underlying35 (by kernel_rfl) (by kernel_rfl) 1 (by simp [DataW.trod, Try.underlying3, wa]) (by simp [DataW.trod, Try.underlying3, wb]) (by simp [DataW.trod, Try.underlying3, wc]) (by simp [DataW.trod, Try.underlying3, wd]) (by simp [DataW.trod, Try.underlying3, wx])) trodAll_mk0), rfl, bel.frame _, fun h => by cases h⟩

/-- THE STATEMENT. -/
theorem bodyNone_proved : Rows.BodyNoneSaid :=
  OpenClaim.holds_of_wide 4 Try.f4 rfl rfl rfl rfl rfl rfl rfl ⟨rfl, rfl, rfl, rfl, rfl⟩ rfl rfl rfl rfl rfl (by kernel_rfl) Try.func4 (by kernel_rfl)
    (of_decide_eq_true (by kernel_rfl)) (by unfold Func.isWrapper; first | (rw [if_pos (by decide +kernel)]; kernel_rfl) | (rw [if_neg (by decide +kernel)]; exact ⟨rfl, rfl⟩))
    (fun os started H enc _ => bodyNone_lifted os started H enc)
#print axioms bodyNone_proved
end Go.Proofs.Ytbbocekijkpjnaa
