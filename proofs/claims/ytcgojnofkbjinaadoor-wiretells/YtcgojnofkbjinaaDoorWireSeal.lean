/-
  The contract of wire's Seal.
-/
import Derived.Test.YtcgojnofkbjinaaDoorWireTrail
import Derived.Test.YtcgojnofkbjinaaDoorWireBegin
import Derived.Test.YtcgojnofkbjinaaDoorTagFields
namespace Go.Proofs.YtcgojnofkbjinaaDoor
open Go.ChangeShapes Go.WideShapes Go.ChangeAt Go.RowKit Go.Lib

theorem add_run (a b X : ByteArray) (h : a ++ b = X) (h1 : a.size ≤ 1000000) (h2 : b.size ≤ 1000000) : ∀ w, (Op.stringOp .add a b).run Tryd.prog w = .ok (.string X) w := by
  intro w
  rw [run_string_add_sum, h]
  omega
theorem mk_add (a b : List UInt8) : mk a ++ mk b = mk (a ++ b) := bytes_ext8 (by simp [mk])
theorem body_fit {b : List UInt8} (h : b.length ≤ 4096) : (decDigits b.length).length ≤ 4 := dec_len (by omega)
/-- The joins of what stands ahead, and of the whole. -/
theorem ahead_runs (s : ByteArray) (h : s.size ≤ 4096) : ∃ D1 D2, (∀ w, (Op.stringOp .add beginS (mk (decDigits s.size))).run Tryd.prog w = .ok (.string D1) w) ∧ (∀ w, (Op.stringOp .add D1 ⟨#[1]⟩).run Tryd.prog w = .ok (.string D2) w) ∧ (∀ w, (Op.stringOp .add D2 s).run Tryd.prog w = .ok (.string (mk (aheadL s.data.toList))) w) := by
  have hl : s.data.toList.length ≤ 4096 := by rw [← size_eq]; exact h
  have hd := body_fit hl
  rw [← size_eq] at hd
  have hb : beginL.length = 12 := rfl
  refine ⟨mk (beginL ++ decDigits s.size), mk (beginL ++ decDigits s.size ++ [1]), ?_, ?_, ?_⟩
  · exact add_run _ _ _ (by rw [← mk_add]; rfl) (by decide) (by rw [mk_size]; omega)
  · exact add_run _ _ _ (by rw [← mk_add]; rfl) (by rw [mk_size, List.length_append]; omega) (by decide)
  · refine add_run _ _ _ ?_ (by rw [mk_size, List.length_append, List.length_append]; simp; omega) (by omega)
    unfold aheadL
    rw [← size_eq]
    have := mk_add (beginL ++ decDigits s.size ++ [1]) s.data.toList
    rw [list_mk] at this
    exact this
theorem form_run (s : ByteArray) (h : s.size ≤ 4096) : ∀ w, (Op.stringOp .add (mk (aheadL s.data.toList)) (mk (trailL (aheadL s.data.toList)))).run Tryd.prog w = .ok (.string (mk (formL s.data.toList))) w := by
  have hl : s.data.toList.length ≤ 4096 := by rw [← size_eq]; exact h
  have hd := body_fit hl
  have ha := ahead_len s.data.toList
  exact add_run _ _ _ (by rw [mk_add]; rfl) (by rw [mk_size]; omega) (by rw [mk_size, trail_len]; omega)
theorem ahead_small (s : ByteArray) (h : s.size ≤ 4096) : (mk (aheadL s.data.toList)).size ≤ maxLen := by
  have hl : s.data.toList.length ≤ 4096 := by rw [← size_eq]; exact h
  have hd := body_fit hl
  rw [mk_size, ahead_len]
  unfold maxLen
  omega
set_option maxRecDepth 1000000 in
set_option maxHeartbeats 4000000 in
theorem seal_length (s : ByteArray) (w : World) (h : s.size < 1 ∨ 4096 < s.size) :
    Calls Tryd.prog 7 #[.string s] w fun e w' => e = .returned (.tuple #[.string ⟨#[]⟩, .int .i64 102]) ∧ Below w.heap.size w w' := by
  have F := fun w => length_no (s.size : Int) w (by omega)
  have e0 : mk [] = ⟨#[]⟩ := rfl
  rw [e0] at F
  clear h e0
  go_enter Tryd.func7, Tryd.ntmps7
  go_wp2_with fail
  refine (F _).mono ?_
  rintro e w1 ⟨rfl, rfl⟩
  go_wp2_with fail
  go_ret2
  exact ⟨rfl, Below.refl _ _⟩
set_option maxRecDepth 1000000 in
set_option maxHeartbeats 4000000 in
theorem seal_fields (s : ByteArray) (w : World) (h1 : 1 ≤ s.size) (h2 : s.size ≤ 4096) (E : Nat) (hE : (fieldsL s.data.toList).2.2 = E) (h0 : E ≠ 0) :
    Calls Tryd.prog 7 #[.string s] w fun e w' => e = .returned (.tuple #[.string ⟨#[]⟩, .int .i64 (E : Int)]) ∧ Below w.heap.size w w' := by
  have F1 := fun w => length_yes s.size w h1 h2
  have F2 := fun w => fields_any s w (by omega)
  rw [hE] at F2
  have t2 : ((E : Int) == 0) = false := beq_false_of_ne (by omega)
  generalize (fieldsL s.data.toList).2.1 = A at F2
  generalize (fieldsL s.data.toList).1 = L at F2
  generalize mk (decDigits s.size) = D at F1
  clear hE h0
  go_enter Tryd.func7, Tryd.ntmps7
  go_wp2_with fail
  refine (F1 _).mono ?_
  rintro e w1 ⟨rfl, hb1⟩
  go_wp2_with fail
  refine (F2 _).mono ?_
  rintro e w2 ⟨v, rfl, hg⟩
  have B2 := hb1.trans (hg.below.mono hb1.size)
  clear hg hb1
  go_wp2_with fail
  go_ret2
  exact ⟨rfl, B2⟩
set_option maxRecDepth 1000000 in
set_option maxHeartbeats 4000000 in
theorem seal_ok (s : ByteArray) (w : World) (h1 : 1 ≤ s.size) (h2 : s.size ≤ 4096) (hE : (fieldsL s.data.toList).2.2 = 0) :
    Calls Tryd.prog 7 #[.string s] w fun e w' => e = .returned (.tuple #[.string (mk (formL s.data.toList)), .int .i64 0]) ∧ Below w.heap.size w w' := by
  have F1 := fun w => length_yes s.size w h1 h2
  have F2 := fun w => fields_any s w (by omega)
  have F3 := fun w => trailer_any (mk (aheadL s.data.toList)) w (ahead_small s h2)
  obtain ⟨D1, D2, j1, j2, j3⟩ := ahead_runs s h2
  have j4 := form_run s h2
  rw [hE] at F2
  rw [mk_list] at F3
  generalize (fieldsL s.data.toList).2.1 = A at F2
  generalize (fieldsL s.data.toList).1 = L at F2
  generalize mk (decDigits s.size) = D at *
  generalize mk (trailL (aheadL s.data.toList)) = T at *
  generalize mk (aheadL s.data.toList) = H at *
  generalize mk (formL s.data.toList) = M at *
  clear hE
  go_enter Tryd.func7, Tryd.ntmps7
  go_wp2_with fail
  refine (F1 _).mono ?_
  rintro e w1 ⟨rfl, hb1⟩
  go_wp2_with fail
  refine (F2 _).mono ?_
  rintro e w2 ⟨v, rfl, hg⟩
  have B2 := hb1.trans (hg.below.mono hb1.size)
  clear hg hb1
  go_wp2_with fail
  refine (F3 _).mono ?_
  rintro e w3 ⟨rfl, hb3⟩
  go_wp2_with fail
  go_ret2
  exact ⟨rfl, B2.trans (hb3.mono B2.size)⟩
/-- Seal by the plain mathematics. -/
theorem seal_any (s : ByteArray) (w : World) :
    Calls Tryd.prog 7 #[.string s] w fun e w' => e = .returned (.tuple #[.string (mk (sealE s.data.toList).1), .int .i64 ((sealE s.data.toList).2 : Int)]) ∧ Below w.heap.size w w' := by
  unfold sealE
  rw [← size_eq]
  by_cases h : s.size < 1 ∨ 4096 < s.size
  · rw [if_pos h]
    exact seal_length s w h
  · rw [if_neg h]
    by_cases h0 : (fieldsL s.data.toList).2.2 = 0
    · rw [if_pos h0]
      exact seal_ok s w (by omega) (by omega) h0
    · rw [if_neg h0]
      exact seal_fields s w (by omega) (by omega) _ rfl h0
end Go.Proofs.YtcgojnofkbjinaaDoor
