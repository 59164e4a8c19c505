/-
  The contract of the reference's Right: tells of the kind 1: the case z.
-/
import Derived.Test.YtdacmhnniecmhaaDoorHE
namespace Go.Proofs.YtdacmhnniecmhaaDoor
open Go.ChangeShapes Go.WideShapes Go.ChangeAt Go.RowKit Go.Lib
set_option maxRecDepth 100000 in
set_option maxHeartbeats 16000000 in
theorem refRight_1z (i x : ByteArray) (s l p c e r : Int) (hi200 : i.size ≤ 100000) (hx200 : x.size ≤ 100000) (w : World) (h9 : inB r 0 999 = true) (h3 : inB s 0 9 = true) :
    Calls Tryd.prog 12 #[.agg #[.int .i64 1, .string i, .string x, .int .i64 s, .int .i64 l, .int .i64 p, .int .i64 c, .int .i64 e, .int .i64 0, .int .i64 r]] w fun e' w' => e' = .returned (.bool (inB r 0 999 && (inB s 0 9 && (vldB i && (vldB x && (inB l 0 1099511627776 && (inB p 0 1099511627776 && (inB c 0 1099511627776 && (inB e 0 1099511627776))))))))) ∧ Below w.heap.size w w' := by
  have HB0 : Hid (Below w.heap.size w (w.alloc (.cells #[.int .i64 1, .string i, .string x, .int .i64 s, .int .i64 l, .int .i64 p, .int .i64 c, .int .i64 e, .int .i64 0, .int .i64 r] 31))) := (Below.refl _ w).alloc (Nat.le_refl _) _
  have HT : Hid (TellAt (w.alloc (.cells #[.int .i64 1, .string i, .string x, .int .i64 s, .int .i64 l, .int .i64 p, .int .i64 c, .int .i64 e, .int .i64 0, .int .i64 r] 31)) w.heap.size (tt 1 i x s l p c e 0 r)) := letters_box 1 i x s l p c e 0 r w
  have I0 := fun w => refIn_at in_kind1 w
  have KP := fun w => kept_1 i x s l p c e 0 r w
  have QE := letters_same 1 i x s l p c e 0 r
  have Vi := fun w => refValid_big i w hi200
  have Vx := fun w => refValid_big x w hx200
  clear hi200 hx200
  have I8 := fun w => refIn_at in_zero8 w
  have I9 := fun w => refIn_at h9 w
  have I3 := fun w => refIn_at h3 w
  have Hh9 : Hid (inB r 0 999 = true) := h9
  have Hh3 : Hid (inB s 0 9 = true) := h3
  clear h9 h3
  go_enter Tryd.func12, Tryd.ntmps12
  go_wp2_with fail
  first
    | go_region_with (first
      | (go_at_call_of 26 (Value.int .i64 4); refine (I0 _).mono ?_; rintro e' w1 ⟨rfl, rfl⟩)
      | (go_at_call 27; refine (KP _).mono ?_; rintro e' w2 ⟨rfl, b2⟩; have b2' := below_of_drew b2; have X2 : Hid (TellAt w2 w.heap.size (tt 1 i x s l p c e 0 r)) := HT.out.still b2'; obtain ⟨u0, u1, u2, u3, u4, u5, u6, u7, u8, u9⟩ := X2.out.letters)
      | (go_at_call_of 26 (Value.int .i64 999); refine (I9 _).mono ?_; rintro e' w9 ⟨rfl, rfl⟩)
      | (go_at_call_of 26 (Value.int .i64 9); refine (I3 _).mono ?_; rintro e' w3 ⟨rfl, rfl⟩)
      | (go_at_call_of 26 (Value.int .i64 99999); refine (I8 _).mono ?_; rintro e' w8 ⟨rfl, rfl⟩))
    | fail
  all_goals
    have HB2 : Hid (Below w.heap.size w w2) := HB0.out.trans (b2'.mono HB0.out.size)
    rcases Bool.eq_false_or_eq_true (vldB i) with hi | hi
    rotate_left
    · skip
      have Hhi : Hid (vldB i = false) := hi
      have Wi := Vi
      rw [hi] at Wi
      clear hi
      go_wp2_with fail
      refine (Wi _).mono ?_
      rintro e' v3 ⟨rfl, d3⟩
      have X3 : Hid (TellAt v3 w.heap.size (tt 1 i x s l p c e 0 r)) := X2.out.still d3
      obtain ⟨t30, t31, t32, t33, t34, t35, t36, t37, t38, t39⟩ := X3.out.letters
      have HB3 : Hid (Below w.heap.size w v3) := HB2.out.trans (d3.mono HB2.out.size)
      clear d3
      go_wp2_with fail
      go_ret
      exact ⟨by rw [show (inB r 0 999 && (inB s 0 9 && (vldB i && (vldB x && (inB l 0 1099511627776 && (inB p 0 1099511627776 && (inB c 0 1099511627776 && (inB e 0 1099511627776)))))))) = false by simp [Hh9.out, Hh3.out, Hhi.out]] <;> rfl, HB3.out⟩
    have Hhi : Hid (vldB i = true) := hi
    have Wi := Vi
    rw [hi] at Wi
    clear hi
    go_wp2_with fail
    refine (Wi _).mono ?_
    rintro e' v3 ⟨rfl, d3⟩
    have X3 : Hid (TellAt v3 w.heap.size (tt 1 i x s l p c e 0 r)) := X2.out.still d3
    obtain ⟨t30, t31, t32, t33, t34, t35, t36, t37, t38, t39⟩ := X3.out.letters
    have HB3 : Hid (Below w.heap.size w v3) := HB2.out.trans (d3.mono HB2.out.size)
    clear d3
    rcases Bool.eq_false_or_eq_true (vldB x) with hx | hx
    rotate_left
    · skip
      have Hhx : Hid (vldB x = false) := hx
      have Wx := Vx
      rw [hx] at Wx
      clear hx
      go_wp2_with fail
      refine (Wx _).mono ?_
      rintro e' v4 ⟨rfl, d4⟩
      have X4 : Hid (TellAt v4 w.heap.size (tt 1 i x s l p c e 0 r)) := X3.out.still d4
      obtain ⟨t40, t41, t42, t43, t44, t45, t46, t47, t48, t49⟩ := X4.out.letters
      have HB4 : Hid (Below w.heap.size w v4) := HB3.out.trans (d4.mono HB3.out.size)
      clear d4
      go_wp2_with fail
      go_ret
      exact ⟨by rw [show (inB r 0 999 && (inB s 0 9 && (vldB i && (vldB x && (inB l 0 1099511627776 && (inB p 0 1099511627776 && (inB c 0 1099511627776 && (inB e 0 1099511627776)))))))) = false by simp [Hh9.out, Hh3.out, Hhi.out, Hhx.out]] <;> rfl, HB4.out⟩
    have Hhx : Hid (vldB x = true) := hx
    have Wx := Vx
    rw [hx] at Wx
    clear hx
    go_wp2_with fail
    refine (Wx _).mono ?_
    rintro e' v4 ⟨rfl, d4⟩
    have X4 : Hid (TellAt v4 w.heap.size (tt 1 i x s l p c e 0 r)) := X3.out.still d4
    obtain ⟨t40, t41, t42, t43, t44, t45, t46, t47, t48, t49⟩ := X4.out.letters
    have HB4 : Hid (Below w.heap.size w v4) := HB3.out.trans (d4.mono HB3.out.size)
    clear d4
    rcases Bool.eq_false_or_eq_true (inB l 0 1099511627776) with h4 | h4
    rotate_left
    · skip
      have Hh4 : Hid (inB l 0 1099511627776 = false) := h4
      have I4 := fun w => refIn_at h4 w
      clear h4
      go_wp2_with fail
      refine (I4 _).mono ?_
      rintro e' q4 ⟨rfl, rfl⟩
      go_wp2_with fail
      go_ret
      exact ⟨by rw [show (inB r 0 999 && (inB s 0 9 && (vldB i && (vldB x && (inB l 0 1099511627776 && (inB p 0 1099511627776 && (inB c 0 1099511627776 && (inB e 0 1099511627776)))))))) = false by simp [Hh9.out, Hh3.out, Hhi.out, Hhx.out, Hh4.out]] <;> rfl, HB4.out⟩
    have Hh4 : Hid (inB l 0 1099511627776 = true) := h4
    have I4 := fun w => refIn_at h4 w
    clear h4
    go_wp2_with fail
    refine (I4 _).mono ?_
    rintro e' q4 ⟨rfl, rfl⟩
    rcases Bool.eq_false_or_eq_true (inB p 0 1099511627776) with h5 | h5
    rotate_left
    · skip
      have Hh5 : Hid (inB p 0 1099511627776 = false) := h5
      have I5 := fun w => refIn_at h5 w
      clear h5
      go_wp2_with fail
      refine (I5 _).mono ?_
      rintro e' q5 ⟨rfl, rfl⟩
      go_wp2_with fail
      go_ret
      exact ⟨by rw [show (inB r 0 999 && (inB s 0 9 && (vldB i && (vldB x && (inB l 0 1099511627776 && (inB p 0 1099511627776 && (inB c 0 1099511627776 && (inB e 0 1099511627776)))))))) = false by simp [Hh9.out, Hh3.out, Hhi.out, Hhx.out, Hh4.out, Hh5.out]] <;> rfl, HB4.out⟩
    have Hh5 : Hid (inB p 0 1099511627776 = true) := h5
    have I5 := fun w => refIn_at h5 w
    clear h5
    go_wp2_with fail
    refine (I5 _).mono ?_
    rintro e' q5 ⟨rfl, rfl⟩
    rcases Bool.eq_false_or_eq_true (inB c 0 1099511627776) with h6 | h6
    rotate_left
    · skip
      have Hh6 : Hid (inB c 0 1099511627776 = false) := h6
      have I6 := fun w => refIn_at h6 w
      clear h6
      go_wp2_with fail
      refine (I6 _).mono ?_
      rintro e' q6 ⟨rfl, rfl⟩
      go_wp2_with fail
      go_ret
      exact ⟨by rw [show (inB r 0 999 && (inB s 0 9 && (vldB i && (vldB x && (inB l 0 1099511627776 && (inB p 0 1099511627776 && (inB c 0 1099511627776 && (inB e 0 1099511627776)))))))) = false by simp [Hh9.out, Hh3.out, Hhi.out, Hhx.out, Hh4.out, Hh5.out, Hh6.out]] <;> rfl, HB4.out⟩
    have Hh6 : Hid (inB c 0 1099511627776 = true) := h6
    have I6 := fun w => refIn_at h6 w
    clear h6
    go_wp2_with fail
    refine (I6 _).mono ?_
    rintro e' q6 ⟨rfl, rfl⟩
    rcases Bool.eq_false_or_eq_true (inB e 0 1099511627776) with h7 | h7
    rotate_left
    · skip
      have Hh7 : Hid (inB e 0 1099511627776 = false) := h7
      have I7 := fun w => refIn_at h7 w
      clear h7
      go_wp2_with fail
      refine (I7 _).mono ?_
      rintro e' q7 ⟨rfl, rfl⟩
      go_wp2_with fail
      go_ret
      exact ⟨by rw [show (inB r 0 999 && (inB s 0 9 && (vldB i && (vldB x && (inB l 0 1099511627776 && (inB p 0 1099511627776 && (inB c 0 1099511627776 && (inB e 0 1099511627776)))))))) = false by simp [Hh9.out, Hh3.out, Hhi.out, Hhx.out, Hh4.out, Hh5.out, Hh6.out, Hh7.out]] <;> rfl, HB4.out⟩
    have Hh7 : Hid (inB e 0 1099511627776 = true) := h7
    have I7 := fun w => refIn_at h7 w
    clear h7
    go_wp2_with fail
    refine (I7 _).mono ?_
    rintro e' q7 ⟨rfl, rfl⟩
    go_wp2_with fail
    go_ret
    exact ⟨by rw [show (inB r 0 999 && (inB s 0 9 && (vldB i && (vldB x && (inB l 0 1099511627776 && (inB p 0 1099511627776 && (inB c 0 1099511627776 && (inB e 0 1099511627776)))))))) = true by simp [Hh9.out, Hh3.out, Hhi.out, Hhx.out, Hh4.out, Hh5.out, Hh6.out, Hh7.out]] <;> rfl, HB4.out⟩
end Go.Proofs.YtdacmhnniecmhaaDoor
