/-
  WireOpens: any bytes begin with the document's message, or have its first error; and the messages that stand one behind the other are the document's. For every text, no condition.
-/
import Derived.Test.YtcgojnofkbjinaaWireAwake
import Derived.Test.YtcgojnofkbjinaaWireRefCut
namespace Go.Proofs.Ytcgojnofkbjinaa
open Go.ChangeShapes Go.WideShapes Go.ChangeAt Go.RowKit Go.Lib

set_option maxRecDepth 1000000 in
set_option maxHeartbeats 4000000 in
theorem wireOpens_short (w : World) (s : ByteArray) (h : s.size ≤ 8000) :
    Calls Try.prog 4 #[.string s] w fun e w' => e = .returned (.bool true) ∧ Below w.heap.size w w' := by
  have F0 := awake10_any w
  have F1 := fun w => open_any s w (by omega)
  have F2 := fun w => refOpen_any s w (by omega)
  have F3 := fun w => cut_any s w (by omega)
  have F4 := fun w => refCut_any s w (by omega)
  have t : ¬ (8000 : Int) < (s.size : Int) := by omega
  generalize mk (openE s.data.toList).1 = X at *
  generalize (openE s.data.toList).2.1 = M at *
  generalize (openE s.data.toList).2.2 = E at *
  generalize (cutL s.data.toList [] 0).1 = L at *
  generalize (cutL s.data.toList [] 0).2.1 = A at *
  generalize (cutL s.data.toList [] 0).2.2 = E2 at *
  have t1 : (X.toList == X.toList) = true := by simp
  go_enter Try.func4, Try.ntmps4
  go_wp2_with fail
  refine F0.mono ?_
  rintro e w1 ⟨rfl, hb1⟩
  go_wp2_with fail
  refine (F1 _).mono ?_
  rintro e w2 ⟨rfl, hb2⟩
  go_wp2_with fail
  refine (F2 _).mono ?_
  rintro e w3 ⟨rfl, hb3⟩
  have B2 := hb1.trans (hb2.mono hb1.size)
  have B3 := B2.trans (hb3.mono B2.size)
  clear hb1 hb2 hb3 B2 F0 F1 F2
  go_wp2_with fail
  refine (F3 _).mono ?_
  rintro e w4 ⟨v, rfl, Q4, hl4⟩
  have B4 := B3.trans (Q4.below.mono B3.size)
  go_wp2_with fail
  refine (F4 _).mono ?_
  rintro e w5 ⟨v5, rfl, Q5, _⟩
  have B5 := B4.trans (Q5.below.mono B4.size)
  have R4 := Q4.row.below Q5.below
  have R5 := Q5.row
  have F5 := sameT_yes (fun i => mk (L.getD i [])) L.length v v5 w5 (by omega) R4 R5
  clear R4 R5 Q4 Q5 B3 B4 F3 F4 hl4
  go_wp2_with fail
  refine F5.mono ?_
  rintro e w6 ⟨rfl, hb6⟩
  have B6 := B5.trans (hb6.mono B5.size)
  go_wp2_with fail
  go_ret
  exact ⟨rfl, B6⟩
set_option maxHeartbeats 1000000 in
theorem wireOpens_walk (w : World) (s : ByteArray) (_ : s.size ≤ maxLen) :
    Calls Try.prog 4 #[.string s] w fun e w' => e = .returned (.bool true) ∧ Below w.heap.size w w' := by
  by_cases h : 8000 < s.size
  · have F0 := awake10_any w
    have t : (8000 : Int) < (s.size : Int) := by omega
    go_enter Try.func4, Try.ntmps4
    go_wp2_with fail
    refine F0.mono ?_
    rintro e w1 ⟨rfl, hb⟩
    go_wp2_with fail
    go_ret
    exact ⟨rfl, hb⟩
  · exact wireOpens_short w s (by omega)

theorem wireOpens_own : ownKnob Try.prog.godebug = none := by kernel_rfl
theorem wireOpens_laidOut : laidOutB Try.prog = true := by kernel_rfl
set_option maxRecDepth 100000 in
theorem wireOpens_lifted (os : Os) (started : os.Started) (H : Type) (enc : TypeId × Value → H) :
    ReturnsInHanded {} Try.checked os 4 .any (Rows.wireOpensSpec.pre6 enc Try.prog Try.f4 Rows.wireOpensRow.domain false) (Rows.wireOpensSpec.post enc Try.prog Try.f4 false true false false) := by
  refine returnsInHanded_of_change (C := Try.checked) wireOpens_own started (by kernel_rfl) Try.func4
    (ChangeSpec.witness6 (enc := enc) (C := Try.checked) false ⟨#[], #[.string ⟨#[]⟩], []⟩ 8 (by kernel_rfl) (by kernel_rfl) (by kernel_rfl) (by kernel_rfl)) ?_
  intro W base args ds gs before hval0 hW hcnd _
  have hval : ∀ (j : Nat) t v, Try.f4.params[j]? = some t → args[j]? = some v → Value.okWide Try.prog W .any base t v := hval0
  have hW' := hW
  obtain ⟨p, q, hA0, hV, rfl, hfz, hnd⟩ := hW
  have hA : DataW.TrodAll enc Try.prog W 0 (fun _ => true) true Try.f4.params.toList args.toList ds p := hA0
  rw [Try.params4] at hA hval
  obtain ⟨v0, vs0, d0, ds0, p0, q0, hargs, rfl, rfl, h0, r0⟩ := trodAll_cons hA
  obtain ⟨rfl, rfl, rfl⟩ := trodAll_nil r0
  obtain rfl : args = #[v0] := by cases args; simp_all
  obtain ⟨rfl, rfl⟩ := trodVars_none hV
  obtain ⟨s0, rfl, rfl, rfl, w0⟩ := Go.ChangeMaps.open_string Try.underlying9 (hval 0 9 v0 rfl rfl) h0
  clear hA0 hval0
  simp only [List.append_nil] at hW'
  refine (wireOpens_walk W s0 w0).mono fun e W' ⟨he, bel⟩ => ?_
  subst he
  exact ⟨_, rfl, _, _, _, [], _, [], hW', trodAll_mk1 (shut_bool Try.underlying4 _), (trodAll_cons_mk (Go.ChangeMaps.shut_string Try.underlying9 w0) trodAll_mk0), rfl, bel.frame _, fun h => by cases h⟩

/-- THE STATEMENT. -/
theorem wireOpens_proved : Rows.WireOpensSaid :=
  OpenClaim.holds_of_wide 4 Try.f4 rfl rfl rfl rfl rfl rfl rfl ⟨rfl, rfl, rfl, rfl, rfl⟩ rfl rfl rfl rfl rfl (by kernel_rfl) Try.func4 (by kernel_rfl)
    (of_decide_eq_true (by kernel_rfl)) (by unfold Func.isWrapper; first | (rw [if_pos (by decide +kernel)]; kernel_rfl) | (rw [if_neg (by decide +kernel)]; exact ⟨rfl, rfl⟩))
    (fun os started H enc _ => wireOpens_lifted os started H enc)
#print axioms wireOpens_proved
end Go.Proofs.Ytcgojnofkbjinaa
