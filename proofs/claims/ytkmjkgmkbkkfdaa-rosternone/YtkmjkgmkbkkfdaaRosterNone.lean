/-
  RosterNone: in a roster that is none there are no names. For every text and every number, no condition.
-/
import Derived.Test.YtkmjkgmkbkkfdaaFrame4
namespace Go.Proofs.Ytkmjkgmkbkkfdaa
open Go.ChangeShapes Go.WideShapes Go.ChangeAt Go.RowKit Go.Lib

set_option maxRecDepth 100000 in
set_option maxHeartbeats 4000000 in
theorem rosterNone_walk (w : World) (s : ByteArray) (_hs : s.size ≤ maxLen) (a : Int) (_ha : -9223372036854775808 ≤ a ∧ a ≤ 9223372036854775807) :
    Calls Try.prog 5 #[.string s, .int .i64 a] w fun e w' => e = .returned (.bool true) ∧ Below w.heap.size w w' := by
  have F1 := awake4_any w
  go_enter Try.func5, Try.ntmps5
  go_wp2_with fail
  refine F1.mono ?_
  rintro e w1 ⟨rfl, hb⟩
  have hsz := hb.size
  go_wp2_with fail
  obtain ⟨W, hW⟩ : ∃ W, W = (w1.alloc (.cells #[.slice none 0 0, .slice none 0 0] 52)).alloc (.cells #[.pointer none, .pointer (some ⟨w1.heap.size, 0, none⟩)] 26) := ⟨_, rfl⟩
  rw [← hW]
  have B : Below w.heap.size w W := by rw [hW]; exact (hb.alloc hsz _).alloc (by simp; omega) _
  have c0 : W.cell? ⟨w1.heap.size + 1, 0, none⟩ = some (.pointer none) := by rw [hW]; simp
  have c1 : W.cell? ⟨w1.heap.size + 1, 1, none⟩ = some (.pointer (some ⟨w1.heap.size, 0, none⟩)) := by rw [hW]; simp
  have c2 : W.cell? ⟨w1.heap.size, 1, none⟩ = some (.slice none 0 0) := by rw [hW]; simp
  have N0 : NoRos W (.pointer none) := .inl rfl
  have N1 : NoRos W (.pointer (some ⟨w1.heap.size, 0, none⟩)) := .inr ⟨_, rfl, c2⟩
  clear hW hb hsz c2 F1
  go_loopw [21] (fun i wr => ∃ k : Nat, i = .int .i64 (k : Int) ∧ k ≤ 2 ∧ wr = W) (fun i _ => 2 - (RowKit.intOf i).toNat)
  case atStart => exact ⟨0, rfl, by omega, rfl⟩
  case round =>
    obtain ⟨k, rfl, hk, rfl⟩ := hrel
    by_cases hlt : k < 2
    · obtain ⟨r, hr, hc⟩ : ∃ r, NoRos wr r ∧ wr.cell? ⟨w1.heap.size + 1, k, none⟩ = some r := by
        rcases lt_two hlt with rfl | rfl
        · exact ⟨_, N0, c0⟩
        · exact ⟨_, N1, c1⟩
      have t : (k : Int) < 2 := by omega
      have G1 := putN hr s
      have G2 := findN hr s
      have G3 := nameN hr a
      have G4 := dropN hr s
      have G5 := countN hr
      have G6 := sortedN hr
      clear N0 N1 c0 c1 hr
      go_wp2_with fail
      refine G1.mono ?_
      rintro e w2 ⟨rfl, rfl⟩
      go_wp2_with fail
      refine G2.mono ?_
      rintro e w3 ⟨rfl, rfl⟩
      go_wp2_with fail
      refine G3.mono ?_
      rintro e w4 ⟨rfl, rfl⟩
      go_wp2_with fail
      refine G4.mono ?_
      rintro e w5 ⟨rfl, rfl⟩
      go_wp2_with fail
      refine G5.mono ?_
      rintro e w6 ⟨rfl, rfl⟩
      go_wp2_with fail
      refine G6.mono ?_
      rintro e w7 ⟨rfl, rfl⟩
      go_wp2_with fail
      go_roundw
      case rel => exact ⟨k + 1, by simp, by omega, trivial⟩
      case measure => simp [RowKit.intOf]; omega
    · obtain rfl : k = 2 := by omega
      go_wp2_with fail
      go_ret
      exact ⟨rfl, B⟩
theorem rosterNone_own : ownKnob Try.prog.godebug = none := by kernel_rfl
theorem rosterNone_laidOut : laidOutB Try.prog = true := by kernel_rfl
set_option maxRecDepth 100000 in
theorem rosterNone_lifted (os : Os) (started : os.Started) (H : Type) (enc : TypeId × Value → H) :
    ReturnsInHanded {} Try.checked os 5 .any (Rows.rosterNoneSpec.pre6 enc Try.prog Try.f5 Rows.rosterNoneRow.domain false) (Rows.rosterNoneSpec.post enc Try.prog Try.f5 false true false false) := by
  refine returnsInHanded_of_change (C := Try.checked) rosterNone_own started (by kernel_rfl) Try.func5
    (ChangeSpec.witness6 (enc := enc) (C := Try.checked) false ⟨#[], #[.string ⟨#[]⟩, .int .i64 0], []⟩ 8 (by kernel_rfl) (by kernel_rfl) (by kernel_rfl) (by kernel_rfl)) ?_
  intro W base args ds gs before hval0 hW hcnd _
  have hval : ∀ (j : Nat) t v, Try.f5.params[j]? = some t → args[j]? = some v → Value.okWide Try.prog W .any base t v := hval0
  have hW' := hW
  obtain ⟨p, q, hA0, hV, rfl, hfz, hnd⟩ := hW
  have hA : DataW.TrodAll enc Try.prog W 0 (fun _ => true) true Try.f5.params.toList args.toList ds p := hA0
  rw [Try.params5] at hA hval
  obtain ⟨v0, vs0, d0, ds0, p0, q0, hargs, rfl, rfl, h0, r0⟩ := trodAll_cons hA
  obtain ⟨v1, vs1, d1, ds1, p1, q1, rfl, rfl, rfl, h1, r1⟩ := trodAll_cons r0
  obtain ⟨rfl, rfl, rfl⟩ := trodAll_nil r1
  obtain rfl : args = #[v0, v1] := by cases args; simp_all
  obtain ⟨rfl, rfl⟩ := trodVars_none hV
  obtain ⟨s0, rfl, rfl, rfl, w0⟩ := Go.ChangeMaps.open_string Try.underlying9 (hval 0 9 v0 rfl rfl) h0
  obtain ⟨a1, rfl, rfl, rfl, w1⟩ := open_int Try.underlying3 (hval 1 3 v1 rfl rfl) h1
  have bd1 := bounds_i64 w1
  clear hA0 hval0
  simp only [List.append_nil] at hW'
  refine (rosterNone_walk W s0 w0 a1 bd1).mono fun e W' ⟨he, bel⟩ => ?_
  subst he
  exact ⟨_, rfl, _, _, _, [], _, [], hW', trodAll_mk1 (shut_bool Try.underlying4 _), (trodAll_cons_mk (Go.ChangeMaps.shut_string Try.underlying9 w0) (trodAll_cons_mk (shut_int Try.underlying3 w1) trodAll_mk0)), rfl, bel.frame _, fun h => by cases h⟩

/-- THE STATEMENT. -/
theorem rosterNone_proved : Rows.RosterNoneSaid :=
  OpenClaim.holds_of_wide 5 Try.f5 rfl rfl rfl rfl rfl rfl rfl ⟨rfl, rfl, rfl, rfl, rfl⟩ rfl rfl rfl rfl rfl (by kernel_rfl) Try.func5 (by kernel_rfl)
    (of_decide_eq_true (by kernel_rfl)) (by unfold Func.isWrapper; first | (rw [if_pos (by decide +kernel)]; kernel_rfl) | (rw [if_neg (by decide +kernel)]; exact ⟨rfl, rfl⟩))
    (fun os started H enc _ => rosterNone_lifted os started H enc)
#print axioms rosterNone_proved
end Go.Proofs.Ytkmjkgmkbkkfdaa
