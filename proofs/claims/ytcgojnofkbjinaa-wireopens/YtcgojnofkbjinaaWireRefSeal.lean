/-
  The contracts of the reference's Form and Seal.
-/
import Derived.Test.YtcgojnofkbjinaaWireSeal
import Derived.Test.YtcgojnofkbjinaaSumRef
import Derived.Test.YtcgojnofkbjinaaTagRefFields
namespace Go.Proofs.Ytcgojnofkbjinaa
open Go.ChangeShapes Go.WideShapes Go.ChangeAt Go.RowKit Go.Lib

/-- The joins of the trailer behind what stands ahead of it. -/
theorem trail_runs (a : List UInt8) (h : a.length ≤ 10000) : ∃ D1 D2, (∀ w, (Op.stringOp .add (mk a) ⟨#[49, 48, 61]⟩).run Try.prog w = .ok (.string D1) w) ∧ (∀ w, (Op.stringOp .add D1 (mk (three (sumL a)))).run Try.prog w = .ok (.string D2) w) ∧ (∀ w, (Op.stringOp .add D2 ⟨#[1]⟩).run Try.prog w = .ok (.string (mk (a ++ trailL a))) w) := by
  refine ⟨mk (a ++ [49, 48, 61]), mk (a ++ [49, 48, 61] ++ three (sumL a)), ?_, ?_, ?_⟩
  · exact add_run _ _ _ (by rw [← mk_add]; rfl) (by rw [mk_size]; omega) (by decide)
  · exact add_run _ _ _ (mk_add _ _) (by rw [mk_size, List.length_append]; simp; omega) (by rw [mk_size]; simp [three])
  · refine add_run _ _ _ ?_ (by rw [mk_size, List.length_append, List.length_append]; simp [three]; omega) (by decide)
    unfold trailL
    rw [← List.append_assoc, ← List.append_assoc, ← mk_add]
    rfl
set_option maxRecDepth 1000000 in
set_option maxHeartbeats 4000000 in
theorem refForm10_any (s : ByteArray) (w : World) (h : s.size ≤ 4096) :
    Calls Try.prog 20 #[.string s] w fun e w' => e = .returned (.string (mk (formL s.data.toList))) ∧ Below w.heap.size w w' := by
  have F1 := fun w => refDigits_any s.size (by omega) w
  have F2 := fun w => refSum_any (mk (aheadL s.data.toList)) w (ahead_small s h)
  rw [mk_list] at F2
  have F3 := fun w => refThree_any (sumL (aheadL s.data.toList)) w (sumL_lt _)
  obtain ⟨D1, D2, j1, j2, j3⟩ := ahead_runs s h
  have hal : (aheadL s.data.toList).length ≤ 10000 := by
    have := body_fit (b := s.data.toList) (by rw [← size_eq]; exact h)
    rw [ahead_len, ← size_eq] at *
    omega
  obtain ⟨D3, D4, j4, j5, j6⟩ := trail_runs (aheadL s.data.toList) hal
  have e1 : aheadL s.data.toList ++ trailL (aheadL s.data.toList) = formL s.data.toList := rfl
  rw [e1] at j6
  clear e1 hal
  generalize sumL (aheadL s.data.toList) = n at *
  generalize mk (three n) = T at *
  generalize mk (decDigits s.size) = D at *
  generalize mk (aheadL s.data.toList) = H at *
  generalize mk (formL s.data.toList) = M at *
  go_enter Try.func20, Try.ntmps20
  go_wp2_with fail
  refine (F1 _).mono ?_
  rintro e w1 ⟨rfl, hb1⟩
  go_wp2_with fail
  refine (F2 _).mono ?_
  rintro e w2 ⟨rfl, rfl⟩
  go_wp2_with fail
  refine (F3 _).mono ?_
  rintro e w3 ⟨rfl, hb3⟩
  go_wp2_with fail
  go_ret
  exact ⟨rfl, hb1.trans (hb3.mono hb1.size)⟩
set_option maxRecDepth 1000000 in
set_option maxHeartbeats 4000000 in
theorem refSeal_length (s : ByteArray) (w : World) (h : s.size < 1 ∨ 4096 < s.size) :
    Calls Try.prog 9 #[.string s] w fun e w' => e = .returned (.tuple #[.string ⟨#[]⟩, .int .i64 102]) ∧ Below w.heap.size w w' := by
  by_cases h1 : s.size < 1
  · have t1 : (s.size : Int) < 1 := by omega
    clear h h1
    go_enter Try.func9, Try.ntmps9
    go_wp2_with fail
    go_ret2
    exact ⟨rfl, Below.refl _ _⟩
  · have t1 : ¬ (s.size : Int) < 1 := by omega
    have t2 : (4096 : Int) < (s.size : Int) := by omega
    clear h h1
    go_enter Try.func9, Try.ntmps9
    go_wp2_with fail
    go_ret2
    exact ⟨rfl, Below.refl _ _⟩
set_option maxRecDepth 1000000 in
set_option maxHeartbeats 4000000 in
theorem refSeal_fields (s : ByteArray) (w : World) (h1 : 1 ≤ s.size) (h2 : s.size ≤ 4096) (E : Nat) (hE : (fieldsL s.data.toList).2.2 = E) (h0 : E ≠ 0) :
    Calls Try.prog 9 #[.string s] w fun e w' => e = .returned (.tuple #[.string ⟨#[]⟩, .int .i64 (E : Int)]) ∧ Below w.heap.size w w' := by
  have F2 := fun w => refFields_any s w (by omega)
  rw [hE] at F2
  have t0 : ((E : Int) == 0) = false := beq_false_of_ne (by omega)
  have t1 : ¬ (s.size : Int) < 1 := by omega
  have t2 : ¬ (4096 : Int) < (s.size : Int) := by omega
  generalize (fieldsL s.data.toList).2.1 = A at F2
  generalize (fieldsL s.data.toList).1 = L at F2
  clear hE h0 h1 h2
  go_enter Try.func9, Try.ntmps9
  go_wp2_with fail
  refine (F2 _).mono ?_
  rintro e w2 ⟨v, rfl, hg⟩
  have B2 := hg.below
  clear hg
  go_wp2_with fail
  go_ret2
  exact ⟨rfl, B2⟩
set_option maxRecDepth 1000000 in
set_option maxHeartbeats 4000000 in
theorem refSeal_ok (s : ByteArray) (w : World) (h1 : 1 ≤ s.size) (h2 : s.size ≤ 4096) (hE : (fieldsL s.data.toList).2.2 = 0) :
    Calls Try.prog 9 #[.string s] w fun e w' => e = .returned (.tuple #[.string (mk (formL s.data.toList)), .int .i64 0]) ∧ Below w.heap.size w w' := by
  have F2 := fun w => refFields_any s w (by omega)
  have F3 := fun w => refForm10_any s w h2
  rw [hE] at F2
  have t1 : ¬ (s.size : Int) < 1 := by omega
  have t2 : ¬ (4096 : Int) < (s.size : Int) := by omega
  generalize (fieldsL s.data.toList).2.1 = A at F2
  generalize (fieldsL s.data.toList).1 = L at F2
  generalize mk (formL s.data.toList) = M at *
  clear hE h1 h2
  go_enter Try.func9, Try.ntmps9
  go_wp2_with fail
  refine (F2 _).mono ?_
  rintro e w2 ⟨v, rfl, hg⟩
  have B2 := hg.below
  clear hg
  go_wp2_with fail
  refine (F3 _).mono ?_
  rintro e w3 ⟨rfl, hb3⟩
  go_wp2_with fail
  go_ret2
  exact ⟨rfl, B2.trans (hb3.mono B2.size)⟩
/-- The reference's Seal by the plain mathematics. -/
theorem refSeal_any (s : ByteArray) (w : World) :
    Calls Try.prog 9 #[.string s] w fun e w' => e = .returned (.tuple #[.string (mk (sealE s.data.toList).1), .int .i64 ((sealE s.data.toList).2 : Int)]) ∧ Below w.heap.size w w' := by
  unfold sealE
  rw [← size_eq]
  by_cases h : s.size < 1 ∨ 4096 < s.size
  · rw [if_pos h]
    exact refSeal_length s w h
  · rw [if_neg h]
    by_cases h0 : (fieldsL s.data.toList).2.2 = 0
    · rw [if_pos h0]
      exact refSeal_ok s w (by omega) (by omega) h0
    · rw [if_neg h0]
      exact refSeal_fields s w (by omega) (by omega) _ rfl h0
end Go.Proofs.Ytcgojnofkbjinaa
