/-
  RulesChecks: any setup is right just if the document says so. For every setup, no condition.
-/
import Derived.Test.YtfphjhmhiaepiaaKL
import Derived.Test.YtfphjhmhiaepiaaKO
import Derived.Test.YtfphjhmhiaepiaaKN
namespace Go.Proofs.Ytfphjhmhiaepiaa
open Go.ChangeShapes Go.WideShapes Go.ChangeAt Go.RowKit Go.Lib RU SM

set_option maxRecDepth 100000 in
set_option maxHeartbeats 16000000 in
theorem rulesChecks_walk (w : World) (a1 a2 a3 : Option Addr) (c1 c2 c3 : Nat) (s : Stp) (h : SetIn w a1 a2 a3 c1 c2 c3 s) :
    Calls Try.prog 3 #[.agg #[.slice a1 s.nA c1, .slice a2 s.nS c2, .slice a3 s.nV c3, .int .i64 (s.P 3), .int .i64 (s.P 4), .int .i64 (s.P 5), .int .i64 (s.P 6), .int .i64 (s.P 7), .int .i64 (s.P 8)]] w fun e w' => e = .returned (.bool true) ∧ Below w.heap.size w w' := by
  have HB0 : Hid (Below w.heap.size w (w.alloc (.cells #[.slice a1 s.nA c1, .slice a2 s.nS c2, .slice a3 s.nV c3, .int .i64 (s.P 3), .int .i64 (s.P 4), .int .i64 (s.P 5), .int .i64 (s.P 6), .int .i64 (s.P 7), .int .i64 (s.P 8)] 26))) := (Below.refl _ _).alloc (Nat.le_refl _) _
  have A0 : Hid (SetAt (w.alloc (.cells #[.slice a1 s.nA c1, .slice a2 s.nS c2, .slice a3 s.nV c3, .int .i64 (s.P 3), .int .i64 (s.P 4), .int .i64 (s.P 5), .int .i64 (s.P 6), .int .i64 (s.P 7), .int .i64 (s.P 8)] 26)) w.heap.size a1 a2 a3 c1 c2 c3 s) := SetAt.box w a1 a2 a3 c1 c2 c3 s _
  have F1 := fun w => awake15_any w
  have F2 : ∀ W, Below w.heap.size w W → Calls Try.prog 6 #[.agg #[.slice a1 s.nA c1, .slice a2 s.nS c2, .slice a3 s.nV c3, .int .i64 (s.P 3), .int .i64 (s.P 4), .int .i64 (s.P 5), .int .i64 (s.P 6), .int .i64 (s.P 7), .int .i64 (s.P 8)]] W fun e w' => e = .returned (.bool (fewB s)) ∧ Below W.heap.size W w' := fun W hW => few15_any (h.below hW (Nat.le_refl _))
  cases hf : fewB s
  · rw [hf] at F2
    clear h hf
    go_enter Try.func3, Try.ntmps3
    go_wp2_with fail
    refine (F1 _).mono ?_
    rintro e w1 ⟨rfl, b1⟩
    have HB1 : Hid (Below w.heap.size w w1) := HB0.out.trans (b1.mono HB0.out.size)
    have A1 : Hid (SetAt w1 w.heap.size a1 a2 a3 c1 c2 c3 s) := A0.out.still b1 A0.out.lt
    obtain ⟨d0, d1, d2, d3, d4, d5, d6, d7, d8⟩ := A1.out
    clear b1
    go_wp2_with fail
    refine (F2 _ HB1.out).mono ?_
    rintro e w2 ⟨rfl, b2⟩
    have HB2 : Hid (Below w.heap.size w w2) := HB1.out.trans (b2.mono HB1.out.size)
    have A2 : Hid (SetAt w2 w.heap.size a1 a2 a3 c1 c2 c3 s) := A1.out.still b2 A1.out.lt
    clear d0 d1 d2 d3 d4 d5 d6 d7 d8
    obtain ⟨d0, d1, d2, d3, d4, d5, d6, d7, d8⟩ := A2.out
    clear b2
    go_wp2_with fail
    go_ret
    exact ⟨rfl, HB2.out⟩
  · rw [hf] at F2
    obtain ⟨⟨k1, k2, k3⟩, q1, q2, q3⟩ := few_get hf
    have few' : Few s := ⟨by omega, by omega, by omega, fun i hi => Nat.le_trans (short_get q1 hi) (by omega), fun i hi => Nat.le_trans (short_get q2 hi) (by omega), fun i hi => Nat.le_trans (short_get q3 hi) (by omega)⟩
    have szs : Szs s := ⟨fun i hi => Nat.le_trans (short_get q1 hi) (by omega), fun i hi => Nat.le_trans (short_get q2 hi) (by omega), fun i hi => Nat.le_trans (short_get q3 hi) (by omega)⟩
    clear hf q1 q2 q3
    cases hr : rightB s
    · have F3 : ∀ W, Below w.heap.size w W → Calls Try.prog 7 #[.agg #[.slice a1 s.nA c1, .slice a2 s.nS c2, .slice a3 s.nV c3, .int .i64 (s.P 3), .int .i64 (s.P 4), .int .i64 (s.P 5), .int .i64 (s.P 6), .int .i64 (s.P 7), .int .i64 (s.P 8)]] W fun e w' => ∃ x1 x2 x3 y1 y2 y3, e = .returned (.agg #[.slice x1 s.nA y1, .slice x2 s.nS y2, .slice x3 s.nV y3, .int .i64 (s.P 3), .int .i64 (s.P 4), .int .i64 (s.P 5), .int .i64 (s.P 6), .int .i64 (s.P 7), .int .i64 (s.P 8)]) ∧ SetIn w' x1 x2 x3 y1 y2 y3 s ∧ Below W.heap.size W w' := fun W hW => plain_any (h.below hW (Nat.le_refl _)) (by omega) (by omega) (by omega)
      have F4 : ∀ {W : World} {x1 x2 x3 : Option Addr} {y1 y2 y3 : Nat}, SetIn W x1 x2 x3 y1 y2 y3 s → Calls Try.prog 8 #[.agg #[.slice x1 s.nA y1, .slice x2 s.nS y2, .slice x3 s.nV y3, .int .i64 (s.P 3), .int .i64 (s.P 4), .int .i64 (s.P 5), .int .i64 (s.P 6), .int .i64 (s.P 7), .int .i64 (s.P 8)]] W fun e w' => e = .returned (.bool false) ∧ Below W.heap.size W w' := fun hI => by
          have := rightR_any hI few'
          rwa [hr] at this
      have F5 : ∀ W, Below w.heap.size w W → Calls Try.prog 9 #[.agg #[.slice a1 s.nA c1, .slice a2 s.nS c2, .slice a3 s.nV c3, .int .i64 (s.P 3), .int .i64 (s.P 4), .int .i64 (s.P 5), .int .i64 (s.P 6), .int .i64 (s.P 7), .int .i64 (s.P 8)]] W fun e w' => e = .returned (.tuple #[.pointer none, .int .i64 150]) ∧ Below W.heap.size W w' := fun W hW => new_bad (h.below hW (Nat.le_refl _)) hr
      have F6 : ∀ W, Below w.heap.size w W → Calls Try.prog 10 #[.agg #[.slice a1 s.nA c1, .slice a2 s.nS c2, .slice a3 s.nV c3, .int .i64 (s.P 3), .int .i64 (s.P 4), .int .i64 (s.P 5), .int .i64 (s.P 6), .int .i64 (s.P 7), .int .i64 (s.P 8)]] W fun e w' => e = .returned (.int .i64 150) ∧ Below W.heap.size W w' := fun W hW => by
          have := check_any (h.below hW (Nat.le_refl _))
          rwa [hr] at this
      clear h hr few' szs k1 k2 k3
      go_enter Try.func3, Try.ntmps3
      go_wp2_with fail
      refine (F1 _).mono ?_
      rintro e w1 ⟨rfl, b1⟩
      have HB1 : Hid (Below w.heap.size w w1) := HB0.out.trans (b1.mono HB0.out.size)
      have A1 : Hid (SetAt w1 w.heap.size a1 a2 a3 c1 c2 c3 s) := A0.out.still b1 A0.out.lt
      obtain ⟨d0, d1, d2, d3, d4, d5, d6, d7, d8⟩ := A1.out
      clear b1
      go_wp2_with fail
      refine (F2 _ HB1.out).mono ?_
      rintro e w2 ⟨rfl, b2⟩
      have HB2 : Hid (Below w.heap.size w w2) := HB1.out.trans (b2.mono HB1.out.size)
      have A2 : Hid (SetAt w2 w.heap.size a1 a2 a3 c1 c2 c3 s) := A1.out.still b2 A1.out.lt
      clear d0 d1 d2 d3 d4 d5 d6 d7 d8
      obtain ⟨d0, d1, d2, d3, d4, d5, d6, d7, d8⟩ := A2.out
      clear b2
      go_wp2_with fail
      refine (F3 _ HB2.out).mono ?_
      rintro e w3 ⟨x1, x2, x3, y1, y2, y3, rfl, hI, b3⟩
      have G4 := F4 hI
      have HB3 : Hid (Below w.heap.size w w3) := HB2.out.trans (b3.mono HB2.out.size)
      have A3 : Hid (SetAt w3 w.heap.size a1 a2 a3 c1 c2 c3 s) := A2.out.still b3 A2.out.lt
      clear d0 d1 d2 d3 d4 d5 d6 d7 d8
      obtain ⟨d0, d1, d2, d3, d4, d5, d6, d7, d8⟩ := A3.out
      clear b3 hI F4
      go_wp2_with fail
      refine G4.mono ?_
      rintro e w4 ⟨rfl, b4⟩
      have HB4 : Hid (Below w.heap.size w w4) := HB3.out.trans (b4.mono HB3.out.size)
      have A4 : Hid (SetAt w4 w.heap.size a1 a2 a3 c1 c2 c3 s) := A3.out.still b4 A3.out.lt
      clear d0 d1 d2 d3 d4 d5 d6 d7 d8
      obtain ⟨d0, d1, d2, d3, d4, d5, d6, d7, d8⟩ := A4.out
      clear b4 G4
      go_wp2_with fail
      refine (F5 _ HB4.out).mono ?_
      rintro e w5 ⟨rfl, b5⟩
      have HB5 : Hid (Below w.heap.size w w5) := HB4.out.trans (b5.mono HB4.out.size)
      have A5 : Hid (SetAt w5 w.heap.size a1 a2 a3 c1 c2 c3 s) := A4.out.still b5 A4.out.lt
      clear d0 d1 d2 d3 d4 d5 d6 d7 d8
      obtain ⟨d0, d1, d2, d3, d4, d5, d6, d7, d8⟩ := A5.out
      clear b5
      go_wp2_with fail
      refine (F6 _ HB5.out).mono ?_
      rintro e w6 ⟨rfl, b6⟩
      go_wp2_with fail
      go_ret
      exact ⟨rfl, HB5.out.trans (b6.mono HB5.out.size)⟩
    · have F3 : ∀ W, Below w.heap.size w W → Calls Try.prog 7 #[.agg #[.slice a1 s.nA c1, .slice a2 s.nS c2, .slice a3 s.nV c3, .int .i64 (s.P 3), .int .i64 (s.P 4), .int .i64 (s.P 5), .int .i64 (s.P 6), .int .i64 (s.P 7), .int .i64 (s.P 8)]] W fun e w' => ∃ x1 x2 x3 y1 y2 y3, e = .returned (.agg #[.slice x1 s.nA y1, .slice x2 s.nS y2, .slice x3 s.nV y3, .int .i64 (s.P 3), .int .i64 (s.P 4), .int .i64 (s.P 5), .int .i64 (s.P 6), .int .i64 (s.P 7), .int .i64 (s.P 8)]) ∧ SetIn w' x1 x2 x3 y1 y2 y3 s ∧ Below W.heap.size W w' := fun W hW => plain_any (h.below hW (Nat.le_refl _)) (by omega) (by omega) (by omega)
      have F4 : ∀ {W : World} {x1 x2 x3 : Option Addr} {y1 y2 y3 : Nat}, SetIn W x1 x2 x3 y1 y2 y3 s → Calls Try.prog 8 #[.agg #[.slice x1 s.nA y1, .slice x2 s.nS y2, .slice x3 s.nV y3, .int .i64 (s.P 3), .int .i64 (s.P 4), .int .i64 (s.P 5), .int .i64 (s.P 6), .int .i64 (s.P 7), .int .i64 (s.P 8)]] W fun e w' => e = .returned (.bool true) ∧ Below W.heap.size W w' := fun hI => by
          have := rightR_any hI few'
          rwa [hr] at this
      have F5 : ∀ W, Below w.heap.size w W → Calls Try.prog 9 #[.agg #[.slice a1 s.nA c1, .slice a2 s.nS c2, .slice a3 s.nV c3, .int .i64 (s.P 3), .int .i64 (s.P 4), .int .i64 (s.P 5), .int .i64 (s.P 6), .int .i64 (s.P 7), .int .i64 (s.P 8)]] W fun e w' => ∃ p, e = .returned (.tuple #[.pointer (some ⟨p, 0, none⟩), .int .i64 0]) ∧ Below W.heap.size W w' := fun W hW => (new_good (h.below hW (Nat.le_refl _)) hr szs).mono fun e w' ⟨p, _, _, _, _, _, _, _, _, _, he, _, hb⟩ => ⟨p, he, hb⟩
      have F6 : ∀ W, Below w.heap.size w W → Calls Try.prog 10 #[.agg #[.slice a1 s.nA c1, .slice a2 s.nS c2, .slice a3 s.nV c3, .int .i64 (s.P 3), .int .i64 (s.P 4), .int .i64 (s.P 5), .int .i64 (s.P 6), .int .i64 (s.P 7), .int .i64 (s.P 8)]] W fun e w' => e = .returned (.int .i64 0) ∧ Below W.heap.size W w' := fun W hW => by
          have := check_any (h.below hW (Nat.le_refl _))
          rwa [hr] at this
      clear h hr few' szs k1 k2 k3
      go_enter Try.func3, Try.ntmps3
      go_wp2_with fail
      refine (F1 _).mono ?_
      rintro e w1 ⟨rfl, b1⟩
      have HB1 : Hid (Below w.heap.size w w1) := HB0.out.trans (b1.mono HB0.out.size)
      have A1 : Hid (SetAt w1 w.heap.size a1 a2 a3 c1 c2 c3 s) := A0.out.still b1 A0.out.lt
      obtain ⟨d0, d1, d2, d3, d4, d5, d6, d7, d8⟩ := A1.out
      clear b1
      go_wp2_with fail
      refine (F2 _ HB1.out).mono ?_
      rintro e w2 ⟨rfl, b2⟩
      have HB2 : Hid (Below w.heap.size w w2) := HB1.out.trans (b2.mono HB1.out.size)
      have A2 : Hid (SetAt w2 w.heap.size a1 a2 a3 c1 c2 c3 s) := A1.out.still b2 A1.out.lt
      clear d0 d1 d2 d3 d4 d5 d6 d7 d8
      obtain ⟨d0, d1, d2, d3, d4, d5, d6, d7, d8⟩ := A2.out
      clear b2
      go_wp2_with fail
      refine (F3 _ HB2.out).mono ?_
      rintro e w3 ⟨x1, x2, x3, y1, y2, y3, rfl, hI, b3⟩
      have G4 := F4 hI
      have HB3 : Hid (Below w.heap.size w w3) := HB2.out.trans (b3.mono HB2.out.size)
      have A3 : Hid (SetAt w3 w.heap.size a1 a2 a3 c1 c2 c3 s) := A2.out.still b3 A2.out.lt
      clear d0 d1 d2 d3 d4 d5 d6 d7 d8
      obtain ⟨d0, d1, d2, d3, d4, d5, d6, d7, d8⟩ := A3.out
      clear b3 hI F4
      go_wp2_with fail
      refine G4.mono ?_
      rintro e w4 ⟨rfl, b4⟩
      have HB4 : Hid (Below w.heap.size w w4) := HB3.out.trans (b4.mono HB3.out.size)
      have A4 : Hid (SetAt w4 w.heap.size a1 a2 a3 c1 c2 c3 s) := A3.out.still b4 A3.out.lt
      clear d0 d1 d2 d3 d4 d5 d6 d7 d8
      obtain ⟨d0, d1, d2, d3, d4, d5, d6, d7, d8⟩ := A4.out
      clear b4 G4
      go_wp2_with fail
      refine (F5 _ HB4.out).mono ?_
      rintro e w5 ⟨p, rfl, b5⟩
      have HB5 : Hid (Below w.heap.size w w5) := HB4.out.trans (b5.mono HB4.out.size)
      have A5 : Hid (SetAt w5 w.heap.size a1 a2 a3 c1 c2 c3 s) := A4.out.still b5 A4.out.lt
      clear d0 d1 d2 d3 d4 d5 d6 d7 d8
      obtain ⟨d0, d1, d2, d3, d4, d5, d6, d7, d8⟩ := A5.out
      clear b5
      go_wp2_with fail
      refine (F6 _ HB5.out).mono ?_
      rintro e w6 ⟨rfl, b6⟩
      go_wp2_with fail
      go_ret
      exact ⟨rfl, HB5.out.trans (b6.mono HB5.out.size)⟩

theorem rulesChecks_own : ownKnob Try.prog.godebug = none := by kernel_rfl
theorem rulesChecks_laidOut : laidOutB Try.prog = true := by kernel_rfl
set_option maxRecDepth 100000 in
theorem rulesChecks_lifted (os : Os) (started : os.Started) (H : Type) (enc : TypeId × Value → H) :
    ReturnsInHanded {} Try.checked os 3 .any (Rows.rulesChecksSpec.pre6 enc Try.prog Try.f3 Rows.rulesChecksRow.domain false) (Rows.rulesChecksSpec.post enc Try.prog Try.f3 false true false false) := by
  refine returnsInHanded_of_change (C := Try.checked) rulesChecks_own started (by kernel_rfl) Try.func3
    (ChangeSpec.witness6 (enc := enc) (C := Try.checked) false ⟨#[], #[.agg #[.slice none 0 0, .slice none 0 0, .slice none 0 0, .int .i64 0, .int .i64 0, .int .i64 0, .int .i64 0, .int .i64 0, .int .i64 0]], []⟩ 8 (by kernel_rfl) (by kernel_rfl) (by kernel_rfl) (by kernel_rfl)) ?_
  intro W base args ds gs before hval0 hW hcnd _
  have hval : ∀ (j : Nat) t v, Try.f3.params[j]? = some t → args[j]? = some v → Value.okWide Try.prog W .any base t v := hval0
  have hW' := hW
  obtain ⟨p, q, hA0, hV, rfl, hfz, hnd⟩ := hW
  have hA : DataW.TrodAll enc Try.prog W 0 (fun _ => true) true Try.f3.params.toList args.toList ds p := hA0
  rw [Try.params3] at hA hval
  obtain ⟨v0, vs0, d0, ds0, p0, q0, hargs, rfl, rfl, h0, r0⟩ := trodAll_cons hA
  obtain ⟨rfl, rfl, rfl⟩ := trodAll_nil r0
  obtain rfl : args = #[v0] := by cases args; simp_all
  obtain ⟨rfl, rfl⟩ := trodVars_none hV
  have k0 := h0
  have lt0 : ∀ x ∈ p0, x.block < W.heap.size := by obtain ⟨m, hm⟩ := k0; exact DataW.trod_lt m _ _ _ hm
  obtain ⟨a1, a2, a3, c1, c2, c3, s, rfl, row0⟩ := RU.open_setup (hval 0 26 v0 rfl rfl) h0
  clear hA0 hval0
  simp only [List.append_nil] at hW'
  refine (rulesChecks_walk W a1 a2 a3 c1 c2 c3 s row0).mono fun e W' ⟨he, bel⟩ => ?_
  subst he
  exact ⟨_, rfl, _, _, _, [], _, [], hW', trodAll_mk1 (shut_bool Try.underlying4 _), (trodAll_cons_mk (Below.trod rulesChecks_laidOut (by kernel_rfl) (of_decide_eq_true (by kernel_rfl)) k0 bel lt0) trodAll_mk0), rfl, bel.frame _, fun h => by cases h⟩

/-- THE STATEMENT. -/
theorem rulesChecks_proved : Rows.RulesChecksSaid :=
  OpenClaim.holds_of_wide 3 Try.f3 rfl rfl rfl rfl rfl rfl rfl ⟨rfl, rfl, rfl, rfl, rfl⟩ rfl rfl rfl rfl rfl (by kernel_rfl) Try.func3 (by kernel_rfl)
    (of_decide_eq_true (by kernel_rfl)) (by unfold Func.isWrapper; first | (rw [if_pos (by decide +kernel)]; kernel_rfl) | (rw [if_neg (by decide +kernel)]; exact ⟨rfl, rfl⟩))
    (fun os started H enc _ => rulesChecks_lifted os started H enc)
#print axioms rulesChecks_proved
end Go.Proofs.Ytfphjhmhiaepiaa

