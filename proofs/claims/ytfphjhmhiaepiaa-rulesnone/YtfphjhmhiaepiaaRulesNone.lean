/-
  RulesNone: rules that are none tell nothing. For every name and every number, no condition.
-/
import Derived.Test.YtfphjhmhiaepiaaRuAwake
import Derived.ChangeOld
import Derived.ShutString
import Derived.ChangeMaps5
import Derived.Deep.Strs
import Derived.Lib.SmallJoins
namespace Go.Proofs.Ytfphjhmhiaepiaa
open Go.ChangeShapes Go.WideShapes Go.ChangeAt Go.RowKit Go.Lib RU SM

set_option maxRecDepth 100000 in
set_option maxHeartbeats 4000000 in
theorem rulesNone_walk (w : World) (s : ByteArray) (hs : s.size ≤ maxLen) (d : Int) (_hd : -9223372036854775808 ≤ d ∧ d ≤ 9223372036854775807) :
    Calls Try.prog 4 #[.string s, .int .i64 d] w fun e w' => e = .returned (.bool true) ∧ Below w.heap.size w w' := by
  have F1 := awake15_any w
  go_enter Try.func4, Try.ntmps4
  go_wp2_with fail
  refine F1.mono ?_
  rintro e w1 ⟨rfl, hb⟩
  have HA : Hid (Below w.heap.size w w1) := hb
  clear hb F1
  go_wp2_with fail
  obtain ⟨W, hW⟩ : ∃ W, W = (w1.alloc (.cells #[.slice none 0 0, .slice none 0 0, .slice none 0 0, .int .i64 0, .int .i64 0, .int .i64 0, .int .i64 0, .int .i64 0, .int .i64 0, .map none, .map none, .map none] 42)).alloc (.cells #[.pointer none, .pointer (some ⟨w1.heap.size, 0, none⟩)] 36) := ⟨_, rfl⟩
  rw [← hW]
  have B1 : Below w1.heap.size w1 W := by rw [hW]; exact ((Below.refl _ _).alloc (Nat.le_refl _) _).alloc (by simp) _
  have c0 : W.cell? ⟨w1.heap.size + 1, 0, none⟩ = some (.pointer none) := by rw [hW]; simp
  have c1 : W.cell? ⟨w1.heap.size + 1, 1, none⟩ = some (.pointer (some ⟨w1.heap.size, 0, none⟩)) := by rw [hW]; simp
  have N1 : Hid (NoRul W (.pointer (some ⟨w1.heap.size, 0, none⟩))) := by
    refine .inr ⟨w1.heap.size, rfl, ?_⟩
    rw [hW]
    refine ⟨?_, ?_, ?_, ?_, ?_, ?_, ?_, ?_, ?_, ?_, ?_, ?_⟩ <;> simp
  have HB : Hid (Below w.heap.size w W) := HA.out.trans (B1.mono HA.out.size)
  clear hW B1 HA
  go_loopw [23] (fun i wr => ∃ k : Nat, i = .int .i64 (k : Int) ∧ k ≤ 2 ∧ Below W.heap.size W wr) (fun i _ => 2 - (RowKit.intOf i).toNat)
  case atStart => exact ⟨0, rfl, by omega, Below.refl _ _⟩
  case round =>
    obtain ⟨k, rfl, hk, BR⟩ := hrel
    by_cases hlt : k < 2
    · obtain ⟨pa, hr, hc⟩ : ∃ pa, NoRul wr (.pointer pa) ∧ wr.cell? ⟨w1.heap.size + 1, k, none⟩ = some (.pointer pa) := by
        rcases (show k = 0 ∨ k = 1 by omega) with rfl | rfl
        · exact ⟨_, .inl rfl, (BR.cell (p := ⟨w1.heap.size + 1, 0, none⟩) (World.block_lt_of_cell? _ _ c0)).trans c0⟩
        · exact ⟨_, N1.out.still BR, (BR.cell (p := ⟨w1.heap.size + 1, 1, none⟩) (World.block_lt_of_cell? _ _ c1)).trans c1⟩
      have t : (k : Int) < 2 := by omega
      have G1 := account_none hr s hs
      have G2 := symbol_none hr s hs
      have G3 := venue_none hr s hs
      have G4 := band_none hr d
      have G5 := setup_none hr
      have HR : Hid (NoRul wr (.pointer pa)) := hr
      have HBR : Hid (Below W.heap.size W wr) := BR
      have i0 : ∀ w : World, (Instr.field 26 (.agg #[.slice none 0 0, .slice none 0 0, .slice none 0 0, .int .i64 0, .int .i64 0, .int .i64 0, .int .i64 0, .int .i64 0, .int .i64 0]) 0).run Try.prog w = .ok (.slice none 0 0) w := fun w => by kernel_rfl
      have i3 : ∀ w : World, (Instr.field 26 (.agg #[.slice none 0 0, .slice none 0 0, .slice none 0 0, .int .i64 0, .int .i64 0, .int .i64 0, .int .i64 0, .int .i64 0, .int .i64 0]) 3).run Try.prog w = .ok (.int .i64 0) w := fun w => by kernel_rfl
      clear c0 c1 hr BR
      go_wp2_with fail
      refine G1.mono ?_
      rintro e w2 ⟨rfl, rfl⟩
      clear G1
      go_wp2_with fail
      refine G2.mono ?_
      rintro e w3 ⟨rfl, rfl⟩
      clear G2
      go_wp2_with fail
      refine G3.mono ?_
      rintro e w4 ⟨rfl, rfl⟩
      clear G3
      go_wp2_with fail
      refine G4.mono ?_
      rintro e w5 ⟨rfl, rfl⟩
      clear G4
      go_wp2_with fail
      refine G5.mono ?_
      rintro e w6 ⟨rfl, b6⟩
      have G6 := setup_none (HR.out.still b6)
      have HB6 : Hid (Below W.heap.size W w6) := HBR.out.trans (b6.mono HBR.out.size)
      clear G5 b6
      go_wp2_with fail
      refine G6.mono ?_
      rintro e w7 ⟨rfl, b7⟩
      have HB7 : Hid (Below W.heap.size W w7) := HB6.out.trans (b7.mono HB6.out.size)
      clear G6 b7
      go_wp2_with fail
      go_roundw
      case rel => exact ⟨k + 1, by simp, by omega, HB7.out⟩
      case measure => simp [RowKit.intOf]; omega
    · have hkn : k = 2 := by omega
      subst hkn
      go_wp2_with fail
      go_ret
      exact ⟨rfl, HB.out.trans (BR.mono HB.out.size)⟩

theorem rulesNone_own : ownKnob Try.prog.godebug = none := by kernel_rfl
theorem rulesNone_laidOut : laidOutB Try.prog = true := by kernel_rfl
set_option maxRecDepth 100000 in
theorem rulesNone_lifted (os : Os) (started : os.Started) (H : Type) (enc : TypeId × Value → H) :
    ReturnsInHanded {} Try.checked os 4 .any (Rows.rulesNoneSpec.pre6 enc Try.prog Try.f4 Rows.rulesNoneRow.domain false) (Rows.rulesNoneSpec.post enc Try.prog Try.f4 false true false false) := by
  refine returnsInHanded_of_change (C := Try.checked) rulesNone_own started (by kernel_rfl) Try.func4
    (ChangeSpec.witness6 (enc := enc) (C := Try.checked) false ⟨#[], #[.string ⟨#[]⟩, .int .i64 0], []⟩ 8 (by kernel_rfl) (by kernel_rfl) (by kernel_rfl) (by kernel_rfl)) ?_
  intro W base args ds gs before hval0 hW hcnd _
  have hval : ∀ (j : Nat) t v, Try.f4.params[j]? = some t → args[j]? = some v → Value.okWide Try.prog W .any base t v := hval0
  have hW' := hW
  obtain ⟨p, q, hA0, hV, rfl, hfz, hnd⟩ := hW
  have hA : DataW.TrodAll enc Try.prog W 0 (fun _ => true) true Try.f4.params.toList args.toList ds p := hA0
  rw [Try.params4] at hA hval
  obtain ⟨v0, vs0, d0, ds0, p0, q0, hargs, rfl, rfl, h0, r0⟩ := trodAll_cons hA
  obtain ⟨v1, vs1, d1, ds1, p1, q1, rfl, rfl, rfl, h1, r1⟩ := trodAll_cons r0
  obtain ⟨rfl, rfl, rfl⟩ := trodAll_nil r1
  obtain rfl : args = #[v0, v1] := by cases args; simp_all
  obtain ⟨rfl, rfl⟩ := trodVars_none hV
  obtain ⟨s0, rfl, rfl, rfl, w0⟩ := Go.ChangeMaps.open_string Try.underlying9 (hval 0 9 v0 rfl rfl) h0
  obtain ⟨a1, rfl, rfl, rfl, w1⟩ := open_int Try.underlying3 (hval 1 3 v1 rfl rfl) h1
  have bd1 := bounds_i64 w1
  clear hA0 hval0
  simp only [List.append_nil] at hW'
  refine (rulesNone_walk W s0 w0 a1 bd1).mono fun e W' ⟨he, bel⟩ => ?_
  subst he
  exact ⟨_, rfl, _, _, _, [], _, [], hW', trodAll_mk1 (shut_bool Try.underlying4 _), (trodAll_cons_mk (Go.ChangeMaps.shut_string Try.underlying9 w0) (trodAll_cons_mk (shut_int Try.underlying3 w1) trodAll_mk0)), rfl, bel.frame _, fun h => by cases h⟩

/-- THE STATEMENT. -/
theorem rulesNone_proved : Rows.RulesNoneSaid :=
  OpenClaim.holds_of_wide 4 Try.f4 rfl rfl rfl rfl rfl rfl rfl ⟨rfl, rfl, rfl, rfl, rfl⟩ rfl rfl rfl rfl rfl (by kernel_rfl) Try.func4 (by kernel_rfl)
    (of_decide_eq_true (by kernel_rfl)) (by unfold Func.isWrapper; first | (rw [if_pos (by decide +kernel)]; kernel_rfl) | (rw [if_neg (by decide +kernel)]; exact ⟨rfl, rfl⟩))
    (fun os started H enc _ => rulesNone_lifted os started H enc)
#print axioms rulesNone_proved
end Go.Proofs.Ytfphjhmhiaepiaa
