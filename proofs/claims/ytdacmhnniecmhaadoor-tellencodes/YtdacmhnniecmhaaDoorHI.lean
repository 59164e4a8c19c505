/-
  The contract of the reference's Right: tells of the kind 1: the case b.
-/
import Derived.Test.YtdacmhnniecmhaaDoorHE
namespace Go.Proofs.YtdacmhnniecmhaaDoor
open Go.ChangeShapes Go.WideShapes Go.ChangeAt Go.RowKit Go.Lib
set_option maxRecDepth 100000 in
set_option maxHeartbeats 16000000 in
theorem refRight_1b (i x : ByteArray) (s l p c e r : Int) (w : World) (h9 : inB r 0 999 = true) (h3 : inB s 0 9 = false) :
    Calls Tryd.prog 12 #[.agg #[.int .i64 1, .string i, .string x, .int .i64 s, .int .i64 l, .int .i64 p, .int .i64 c, .int .i64 e, .int .i64 0, .int .i64 r]] w fun e' w' => e' = .returned (.bool (false)) ∧ Below w.heap.size w w' := by
  have HB0 : Hid (Below w.heap.size w (w.alloc (.cells #[.int .i64 1, .string i, .string x, .int .i64 s, .int .i64 l, .int .i64 p, .int .i64 c, .int .i64 e, .int .i64 0, .int .i64 r] 31))) := (Below.refl _ w).alloc (Nat.le_refl _) _
  have HT : Hid (TellAt (w.alloc (.cells #[.int .i64 1, .string i, .string x, .int .i64 s, .int .i64 l, .int .i64 p, .int .i64 c, .int .i64 e, .int .i64 0, .int .i64 r] 31)) w.heap.size (tt 1 i x s l p c e 0 r)) := letters_box 1 i x s l p c e 0 r w
  have I0 := fun w => refIn_at in_kind1 w
  have KP := fun w => kept_1 i x s l p c e 0 r w
  have QE := letters_same 1 i x s l p c e 0 r
  have I8 := fun w => refIn_at in_zero8 w
  have I9 := fun w => refIn_at h9 w
  have I3 := fun w => refIn_at h3 w
  have Hh9 : Hid (inB r 0 999 = true) := h9
  have Hh3 : Hid (inB s 0 9 = false) := h3
  clear h9 h3
  go_enter Tryd.func12, Tryd.ntmps12
  go_wp2_with fail
  first
    | go_region_with (first
      | (go_at_call_of 26 (Value.int .i64 4); refine (I0 _).mono ?_; rintro e' w1 ⟨rfl, rfl⟩)
      | (go_at_call 27; refine (KP _).mono ?_; rintro e' w2 ⟨rfl, b2⟩; have b2' := below_of_drew b2; have X2 : Hid (TellAt w2 w.heap.size (tt 1 i x s l p c e 0 r)) := HT.out.still b2'; obtain ⟨u0, u1, u2, u3, u4, u5, u6, u7, u8, u9⟩ := X2.out.letters)
      | (go_at_call_of 26 (Value.int .i64 999); refine (I9 _).mono ?_; rintro e' w9 ⟨rfl, rfl⟩)
      | (go_at_call_of 26 (Value.int .i64 9); refine (I3 _).mono ?_; rintro e' w3 ⟨rfl, rfl⟩)
      | (go_at_call_of 26 (Value.int .i64 99999); refine (I8 _).mono ?_; rintro e' w8 ⟨rfl, rfl⟩))
    | fail
  all_goals
    have HB2 : Hid (Below w.heap.size w w2) := HB0.out.trans (b2'.mono HB0.out.size)
    go_wp2_with fail
    go_ret
    exact ⟨rfl, HB2.out⟩
end Go.Proofs.YtdacmhnniecmhaaDoor
/-
  The contract of the reference's Right: tells of the kind 1: something is set that may not be.
-/
namespace Go.Proofs.YtdacmhnniecmhaaDoor
open Go.ChangeShapes Go.WideShapes Go.ChangeAt Go.RowKit Go.Lib
set_option maxRecDepth 100000 in
set_option maxHeartbeats 8000000 in
theorem refRight_diff1 (i x : ByteArray) (s l p c e g r : Int) (w : World) (hd : ¬ (g = 0)) :
    Calls Tryd.prog 12 #[.agg #[.int .i64 1, .string i, .string x, .int .i64 s, .int .i64 l, .int .i64 p, .int .i64 c, .int .i64 e, .int .i64 g, .int .i64 r]] w fun e' w' => e' = .returned (.bool false) ∧ Below w.heap.size w w' := by
  have HB0 : Hid (Below w.heap.size w (w.alloc (.cells #[.int .i64 1, .string i, .string x, .int .i64 s, .int .i64 l, .int .i64 p, .int .i64 c, .int .i64 e, .int .i64 g, .int .i64 r] 31))) := (Below.refl _ w).alloc (Nat.le_refl _) _
  have HT : Hid (TellAt (w.alloc (.cells #[.int .i64 1, .string i, .string x, .int .i64 s, .int .i64 l, .int .i64 p, .int .i64 c, .int .i64 e, .int .i64 g, .int .i64 r] 31)) w.heap.size (tt 1 i x s l p c e g r)) := letters_box 1 i x s l p c e g r w
  have I0 := fun w => refIn_at in_kind1 w
  have KP := fun w => kept_1 i x s l p c e g r w
  have QE : ∀ w, (Op.equalIn 10000 31 (.agg #[.int .i64 1, .string i, .string x, .int .i64 s, .int .i64 l, .int .i64 p, .int .i64 c, .int .i64 e, .int .i64 g, .int .i64 r]) (.agg #[.int .i64 1, .string i, .string x, .int .i64 s, .int .i64 l, .int .i64 p, .int .i64 c, .int .i64 e, .int .i64 0, .int .i64 r])).run Tryd.prog w = .ok false w := fun w => by
    rw [refTell_eq, decide_eq_false (fun h => hd (h.2.2.2.2.2.2.2.2.1))]
  have I9 := I0
  have I3 := I0
  have I8 := I0
  clear hd
  go_enter Tryd.func12, Tryd.ntmps12
  go_wp2_with fail
  first
    | go_region_with (first
      | (go_at_call_of 26 (Value.int .i64 4); refine (I0 _).mono ?_; rintro e' w1 ⟨rfl, rfl⟩)
      | (go_at_call 27; refine (KP _).mono ?_; rintro e' w2 ⟨rfl, b2⟩; have b2' := below_of_drew b2; have X2 : Hid (TellAt w2 w.heap.size (tt 1 i x s l p c e g r)) := HT.out.still b2'; obtain ⟨u0, u1, u2, u3, u4, u5, u6, u7, u8, u9⟩ := X2.out.letters)
      | (go_at_call_of 26 (Value.int .i64 999); refine (I9 _).mono ?_; rintro e' w9 ⟨rfl, rfl⟩)
      | (go_at_call_of 26 (Value.int .i64 9); refine (I3 _).mono ?_; rintro e' w3 ⟨rfl, rfl⟩)
      | (go_at_call_of 26 (Value.int .i64 99999); refine (I8 _).mono ?_; rintro e' w8 ⟨rfl, rfl⟩))
    | fail
  all_goals
    have HB2 : Hid (Below w.heap.size w w2) := HB0.out.trans (b2'.mono HB0.out.size)
    go_wp2_with fail
    go_ret
    exact ⟨rfl, HB2.out⟩
end Go.Proofs.YtdacmhnniecmhaaDoor
/-
  The contract of the reference's Right: tells of the kind 2: the case a.
-/
namespace Go.Proofs.YtdacmhnniecmhaaDoor
open Go.ChangeShapes Go.WideShapes Go.ChangeAt Go.RowKit Go.Lib
set_option maxRecDepth 100000 in
set_option maxHeartbeats 16000000 in
theorem refRight_2a (i : ByteArray) (s r : Int) (w : World) (h9 : inB r 0 999 = false) :
    Calls Tryd.prog 12 #[.agg #[.int .i64 2, .string i, .string ⟨#[]⟩, .int .i64 s, .int .i64 0, .int .i64 0, .int .i64 0, .int .i64 0, .int .i64 0, .int .i64 r]] w fun e' w' => e' = .returned (.bool (false)) ∧ Below w.heap.size w w' := by
  have HB0 : Hid (Below w.heap.size w (w.alloc (.cells #[.int .i64 2, .string i, .string ⟨#[]⟩, .int .i64 s, .int .i64 0, .int .i64 0, .int .i64 0, .int .i64 0, .int .i64 0, .int .i64 r] 31))) := (Below.refl _ w).alloc (Nat.le_refl _) _
  have HT : Hid (TellAt (w.alloc (.cells #[.int .i64 2, .string i, .string ⟨#[]⟩, .int .i64 s, .int .i64 0, .int .i64 0, .int .i64 0, .int .i64 0, .int .i64 0, .int .i64 r] 31)) w.heap.size (tt 2 i ⟨#[]⟩ s 0 0 0 0 0 r)) := letters_box 2 i ⟨#[]⟩ s 0 0 0 0 0 r w
  have I0 := fun w => refIn_at in_kind2 w
  have KP := fun w => kept_2 i ⟨#[]⟩ s 0 0 0 0 0 r w
  have QE := letters_same 2 i ⟨#[]⟩ s 0 0 0 0 0 r
  have I8 := fun w => refIn_at in_zero8 w
  have I4 := fun w => refIn_at in_zero40 w
  have I5 := fun w => refIn_at in_zero40 w
  have I6 := fun w => refIn_at in_zero40 w
  have I7 := fun w => refIn_at in_zero40 w
  have I9 := fun w => refIn_at h9 w
  have I3 := I0
  have Hh9 : Hid (inB r 0 999 = false) := h9
  clear h9
  go_enter Tryd.func12, Tryd.ntmps12
  go_wp2_with fail
  first
    | go_region_with (first
      | (go_at_call_of 26 (Value.int .i64 4); refine (I0 _).mono ?_; rintro e' w1 ⟨rfl, rfl⟩)
      | (go_at_call 27; refine (KP _).mono ?_; rintro e' w2 ⟨rfl, b2⟩; have b2' := below_of_drew b2; have X2 : Hid (TellAt w2 w.heap.size (tt 2 i ⟨#[]⟩ s 0 0 0 0 0 r)) := HT.out.still b2'; obtain ⟨u0, u1, u2, u3, u4, u5, u6, u7, u8, u9⟩ := X2.out.letters)
      | (go_at_call_of 26 (Value.int .i64 999); refine (I9 _).mono ?_; rintro e' w9 ⟨rfl, rfl⟩)
      | (go_at_call_of 26 (Value.int .i64 9); refine (I3 _).mono ?_; rintro e' w3 ⟨rfl, rfl⟩)
      | (go_at_call_of 26 (Value.int .i64 99999); refine (I8 _).mono ?_; rintro e' w8 ⟨rfl, rfl⟩))
    | fail
  all_goals
    have HB2 : Hid (Below w.heap.size w w2) := HB0.out.trans (b2'.mono HB0.out.size)
    go_wp2_with fail
    go_ret
    exact ⟨rfl, HB2.out⟩
end Go.Proofs.YtdacmhnniecmhaaDoor
