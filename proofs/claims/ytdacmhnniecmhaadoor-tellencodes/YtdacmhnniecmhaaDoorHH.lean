/-
  The contract of the reference's Right: tells of the kind 3: the case z.
-/
import Derived.Test.YtdacmhnniecmhaaDoorHE
namespace Go.Proofs.YtdacmhnniecmhaaDoor
open Go.ChangeShapes Go.WideShapes Go.ChangeAt Go.RowKit Go.Lib
set_option maxRecDepth 100000 in
set_option maxHeartbeats 16000000 in
theorem refRight_3z (g r : Int) (w : World) (h9 : inB r 0 999 = true) (h8 : inB g 0 99999 = true) :
    Calls Tryd.prog 12 #[.agg #[.int .i64 3, .string ⟨#[]⟩, .string ⟨#[]⟩, .int .i64 0, .int .i64 0, .int .i64 0, .int .i64 0, .int .i64 0, .int .i64 g, .int .i64 r]] w fun e' w' => e' = .returned (.bool (inB r 0 999 && (inB g 0 99999))) ∧ Below w.heap.size w w' := by
  have HB0 : Hid (Below w.heap.size w (w.alloc (.cells #[.int .i64 3, .string ⟨#[]⟩, .string ⟨#[]⟩, .int .i64 0, .int .i64 0, .int .i64 0, .int .i64 0, .int .i64 0, .int .i64 g, .int .i64 r] 31))) := (Below.refl _ w).alloc (Nat.le_refl _) _
  have HT : Hid (TellAt (w.alloc (.cells #[.int .i64 3, .string ⟨#[]⟩, .string ⟨#[]⟩, .int .i64 0, .int .i64 0, .int .i64 0, .int .i64 0, .int .i64 0, .int .i64 g, .int .i64 r] 31)) w.heap.size (tt 3 ⟨#[]⟩ ⟨#[]⟩ 0 0 0 0 0 g r)) := letters_box 3 ⟨#[]⟩ ⟨#[]⟩ 0 0 0 0 0 g r w
  have I0 := fun w => refIn_at in_kind3 w
  have KP := fun w => kept_3 ⟨#[]⟩ ⟨#[]⟩ 0 0 0 0 0 g r w
  have QE := letters_same 3 ⟨#[]⟩ ⟨#[]⟩ 0 0 0 0 0 g r
  have I3 := fun w => refIn_at in_zero w
  have I4 := fun w => refIn_at in_zero40 w
  have I5 := fun w => refIn_at in_zero40 w
  have I6 := fun w => refIn_at in_zero40 w
  have I7 := fun w => refIn_at in_zero40 w
  have I9 := fun w => refIn_at h9 w
  have I8 := fun w => refIn_at h8 w
  have Hh9 : Hid (inB r 0 999 = true) := h9
  have Hh8 : Hid (inB g 0 99999 = true) := h8
  clear h9 h8
  go_enter Tryd.func12, Tryd.ntmps12
  go_wp2_with fail
  first
    | go_region_with (first
      | (go_at_call_of 26 (Value.int .i64 4); refine (I0 _).mono ?_; rintro e' w1 ⟨rfl, rfl⟩)
      | (go_at_call 27; refine (KP _).mono ?_; rintro e' w2 ⟨rfl, b2⟩; have b2' := below_of_drew b2; have X2 : Hid (TellAt w2 w.heap.size (tt 3 ⟨#[]⟩ ⟨#[]⟩ 0 0 0 0 0 g r)) := HT.out.still b2'; obtain ⟨u0, u1, u2, u3, u4, u5, u6, u7, u8, u9⟩ := X2.out.letters)
      | (go_at_call_of 26 (Value.int .i64 999); refine (I9 _).mono ?_; rintro e' w9 ⟨rfl, rfl⟩)
      | (go_at_call_of 26 (Value.int .i64 9); refine (I3 _).mono ?_; rintro e' w3 ⟨rfl, rfl⟩)
      | (go_at_call_of 26 (Value.int .i64 99999); refine (I8 _).mono ?_; rintro e' w8 ⟨rfl, rfl⟩))
    | fail
  all_goals
    have HB2 : Hid (Below w.heap.size w w2) := HB0.out.trans (b2'.mono HB0.out.size)
    go_wp2_with fail
    refine (I4 _).mono ?_
    rintro e' q4 ⟨rfl, rfl⟩
    go_wp2_with fail
    refine (I5 _).mono ?_
    rintro e' q5 ⟨rfl, rfl⟩
    go_wp2_with fail
    refine (I6 _).mono ?_
    rintro e' q6 ⟨rfl, rfl⟩
    go_wp2_with fail
    refine (I7 _).mono ?_
    rintro e' q7 ⟨rfl, rfl⟩
    go_wp2_with fail
    go_ret
    exact ⟨by rw [show (inB r 0 999 && (inB g 0 99999)) = true by simp [Hh9.out, Hh8.out]] <;> rfl, HB2.out⟩
end Go.Proofs.YtdacmhnniecmhaaDoor
/-
  The contract of the reference's Right: tells of the kind 4: the case z.
-/
namespace Go.Proofs.YtdacmhnniecmhaaDoor
open Go.ChangeShapes Go.WideShapes Go.ChangeAt Go.RowKit Go.Lib
set_option maxRecDepth 100000 in
set_option maxHeartbeats 16000000 in
theorem refRight_4z (g r : Int) (w : World) (h9 : inB r 0 999 = true) (h8 : inB g 0 99999 = true) :
    Calls Tryd.prog 12 #[.agg #[.int .i64 4, .string ⟨#[]⟩, .string ⟨#[]⟩, .int .i64 0, .int .i64 0, .int .i64 0, .int .i64 0, .int .i64 0, .int .i64 g, .int .i64 r]] w fun e' w' => e' = .returned (.bool (inB r 0 999 && (inB g 0 99999))) ∧ Below w.heap.size w w' := by
  have HB0 : Hid (Below w.heap.size w (w.alloc (.cells #[.int .i64 4, .string ⟨#[]⟩, .string ⟨#[]⟩, .int .i64 0, .int .i64 0, .int .i64 0, .int .i64 0, .int .i64 0, .int .i64 g, .int .i64 r] 31))) := (Below.refl _ w).alloc (Nat.le_refl _) _
  have HT : Hid (TellAt (w.alloc (.cells #[.int .i64 4, .string ⟨#[]⟩, .string ⟨#[]⟩, .int .i64 0, .int .i64 0, .int .i64 0, .int .i64 0, .int .i64 0, .int .i64 g, .int .i64 r] 31)) w.heap.size (tt 4 ⟨#[]⟩ ⟨#[]⟩ 0 0 0 0 0 g r)) := letters_box 4 ⟨#[]⟩ ⟨#[]⟩ 0 0 0 0 0 g r w
  have I0 := fun w => refIn_at in_kind4 w
  have KP := fun w => kept_4 ⟨#[]⟩ ⟨#[]⟩ 0 0 0 0 0 g r w
  have QE := letters_same 4 ⟨#[]⟩ ⟨#[]⟩ 0 0 0 0 0 g r
  have I3 := fun w => refIn_at in_zero w
  have I4 := fun w => refIn_at in_zero40 w
  have I5 := fun w => refIn_at in_zero40 w
  have I6 := fun w => refIn_at in_zero40 w
  have I7 := fun w => refIn_at in_zero40 w
  have I9 := fun w => refIn_at h9 w
  have I8 := fun w => refIn_at h8 w
  have Hh9 : Hid (inB r 0 999 = true) := h9
  have Hh8 : Hid (inB g 0 99999 = true) := h8
  clear h9 h8
  go_enter Tryd.func12, Tryd.ntmps12
  go_wp2_with fail
  first
    | go_region_with (first
      | (go_at_call_of 26 (Value.int .i64 4); refine (I0 _).mono ?_; rintro e' w1 ⟨rfl, rfl⟩)
      | (go_at_call 27; refine (KP _).mono ?_; rintro e' w2 ⟨rfl, b2⟩; have b2' := below_of_drew b2; have X2 : Hid (TellAt w2 w.heap.size (tt 4 ⟨#[]⟩ ⟨#[]⟩ 0 0 0 0 0 g r)) := HT.out.still b2'; obtain ⟨u0, u1, u2, u3, u4, u5, u6, u7, u8, u9⟩ := X2.out.letters)
      | (go_at_call_of 26 (Value.int .i64 999); refine (I9 _).mono ?_; rintro e' w9 ⟨rfl, rfl⟩)
      | (go_at_call_of 26 (Value.int .i64 9); refine (I3 _).mono ?_; rintro e' w3 ⟨rfl, rfl⟩)
      | (go_at_call_of 26 (Value.int .i64 99999); refine (I8 _).mono ?_; rintro e' w8 ⟨rfl, rfl⟩))
    | fail
  all_goals
    have HB2 : Hid (Below w.heap.size w w2) := HB0.out.trans (b2'.mono HB0.out.size)
    go_wp2_with fail
    refine (I4 _).mono ?_
    rintro e' q4 ⟨rfl, rfl⟩
    go_wp2_with fail
    refine (I5 _).mono ?_
    rintro e' q5 ⟨rfl, rfl⟩
    go_wp2_with fail
    refine (I6 _).mono ?_
    rintro e' q6 ⟨rfl, rfl⟩
    go_wp2_with fail
    refine (I7 _).mono ?_
    rintro e' q7 ⟨rfl, rfl⟩
    go_wp2_with fail
    go_ret
    exact ⟨by rw [show (inB r 0 999 && (inB g 0 99999)) = true by simp [Hh9.out, Hh8.out]] <;> rfl, HB2.out⟩
end Go.Proofs.YtdacmhnniecmhaaDoor
