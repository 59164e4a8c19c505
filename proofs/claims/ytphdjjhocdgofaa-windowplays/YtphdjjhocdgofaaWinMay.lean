/-
  Contracts of window's May and Free.
-/
import Derived.Test.YtphdjjhocdgofaaWinAsk
namespace Go.Proofs.Ytphdjjhocdgofaa
open Go.ChangeShapes Go.WideShapes Go.ChangeAt Go.RowKit Go.Lib

set_option maxRecDepth 100000 in
set_option maxHeartbeats 2000000 in
theorem may_ok {w : World} {B p width most n c : Nat} {v : Value} {g : Nat → Int} (h : Win w B p width most v n g) {now : Int} (ha : Askd g n now) (hc : Cnt g n width now c) :
    Calls Try.prog 14 #[.pointer (some ⟨p, 0, none⟩), .int .i64 now] w fun e w' => e = .returned (.bool (decide (c < most))) ∧ ∃ m, w' = w.drewN m := by
  have F1 := fun m0 => fits_ok (h.drewN m0) ha
  have F2 := fun m0 => count_any (h.drewN m0) now (by have := ha.2.1; omega) hc
  have c1 := h.tk.cmost
  clear h ha hc
  go_enter Try.func14, Try.ntmps14
  go_wp2_with fail
  go_quiet (first
    | (go_at_call 19; exact Calls.quiet_of (F1 _))
    | (go_at_call 13; exact Calls.quiet_of (F2 _)))
  go_wp2_with fail
  go_ret
  exact ⟨rfl, _, rfl⟩
set_option maxRecDepth 100000 in
set_option maxHeartbeats 2000000 in
theorem may_no {w : World} {B p width most n : Nat} {v : Value} {g : Nat → Int} (h : Win w B p width most v n g) {now : Int} (ha : ¬ Askd g n now) :
    Calls Try.prog 14 #[.pointer (some ⟨p, 0, none⟩), .int .i64 now] w fun e w' => e = .returned (.bool false) ∧ ∃ m, w' = w.drewN m := by
  have F1 := fun m0 => fits_no (h.drewN m0) ha
  clear h ha
  go_enter Try.func14, Try.ntmps14
  go_wp2_with fail
  go_quiet (first
    | (go_at_call 19; exact Calls.quiet_of (F1 _)))
  go_wp2_with fail
  go_ret
  exact ⟨rfl, _, rfl⟩
theorem NoWin.drewN {w : World} {r : Value} (h : NoWin w r) (m : Nat) : NoWin (w.drewN m) r := h
set_option maxRecDepth 100000 in
set_option maxHeartbeats 2000000 in
theorem mayN {w : World} {r : Value} (h : NoWin w r) (now : Int) : Calls Try.prog 14 #[r, .int .i64 now] w fun e w' => e = .returned (.bool false) ∧ ∃ m, w' = w.drewN m := by
  have F1 := fun m0 => fitsN (h.drewN m0) now
  clear h
  go_enter Try.func14, Try.ntmps14
  go_wp2_with fail
  go_quiet (first
    | (go_at_call 19; exact Calls.quiet_of_same (F1 _)))
  go_wp2_with fail
  go_ret
  exact ⟨rfl, _, rfl⟩

set_option maxRecDepth 100000 in
set_option maxHeartbeats 2000000 in
theorem free_no {w : World} {B p width most n : Nat} {v : Value} {g : Nat → Int} (h : Win w B p width most v n g) {now : Int} (ha : ¬ Askd g n now) :
    Calls Try.prog 10 #[.pointer (some ⟨p, 0, none⟩), .int .i64 now] w fun e w' => e = .returned (.tuple #[.int .i64 0, .int .i64 2]) ∧ ∃ m, w' = w.drewN m := by
  have F1 := fits_no h ha
  clear h ha
  go_enter Try.func10, Try.ntmps10
  go_wp2_with fail
  refine F1.mono ?_
  rintro e w1 ⟨rfl, m1, rfl⟩
  go_wp2_with fail
  go_ret2
  exact ⟨rfl, _, rfl⟩
theorem freeN {w : World} {r : Value} (h : NoWin w r) (now : Int) : Calls Try.prog 10 #[r, .int .i64 now] w fun e w' => e = .returned (.tuple #[.int .i64 0, .int .i64 1]) ∧ w' = w := by
  have F1 := fitsN h now
  go_enter Try.func10, Try.ntmps10
  go_wp2_with fail
  refine F1.mono ?_
  rintro e w1 ⟨rfl, rfl⟩
  go_wp2_with fail
  go_ret2
  exact ⟨rfl, rfl⟩
set_option maxRecDepth 100000 in
set_option maxHeartbeats 2000000 in
theorem free_now {w : World} {B p width most n c : Nat} {v : Value} {g : Nat → Int} (h : Win w B p width most v n g) {now : Int} (ha : Askd g n now) (hc : Cnt g n width now c) (hcm : c < most) :
    Calls Try.prog 10 #[.pointer (some ⟨p, 0, none⟩), .int .i64 now] w fun e w' => e = .returned (.tuple #[.int .i64 now, .int .i64 0]) ∧ ∃ m, w' = w.drewN m := by
  have F1 := fits_ok h ha
  have F2 := fun w m0 (h : Win w B p width most v n g) => count_any (h.drewN m0) now (by have := ha.2.1; omega) hc
  have t : (c : Int) < (most : Int) := by omega
  clear ha hc
  go_enter Try.func10, Try.ntmps10
  go_wp2_with fail
  refine F1.mono ?_
  rintro e w1 ⟨rfl, m1, hw1⟩
  have h1 := h.drewN m1
  rw [← hw1] at h1
  have c1 := h1.tk.cmost
  have F3 := fun m0 => F2 w1 m0 h1
  have HW : Hid (w1 = w.drewN m1) := hw1
  clear hw1 h h1 F1 F2
  go_wp2_with fail
  go_quiet (first | (go_at_call 13; exact Calls.quiet_of (F3 _)))
  go_wp2_with fail
  go_ret2
  exact ⟨rfl, _, by rw [HW.out, World.drewN_drewN]⟩
set_option maxRecDepth 100000 in
set_option maxHeartbeats 2000000 in
theorem free_wait {w : World} {B p width most : Nat} {v : Value} {g : Nat → Int} (h : Win w B p width most v most g) {now : Int} (ha : Askd g most now) (hc : Cnt g most width now most) :
    Calls Try.prog 10 #[.pointer (some ⟨p, 0, none⟩), .int .i64 now] w fun e w' => e = .returned (.tuple #[.int .i64 (g 0 + (width : Int)), .int .i64 0]) ∧ ∃ m, w' = w.drewN m := by
  have F1 := fits_ok h ha
  have F2 := fun w m0 (h : Win w B p width most v most g) => count_any (h.drewN m0) now (by have := ha.2.1; omega) hc
  have F4 := fun w (h : Win w B p width most v most g) => h.tk.row
  obtain ⟨s1, s2, s3, s4⟩ := h.sized
  have x1 := h.rise.low 0 (by omega)
  have x2 := h.rise.high 0 (by omega)
  obtain ⟨a, cap, rfl⟩ := own_shape h.tk.list
  have t : (0 : Int) < (most : Int) := by omega
  obtain ⟨x, ex⟩ : ∃ x, g 0 = x := ⟨_, rfl⟩
  rw [ex] at x1 x2 ⊢
  have e1 : IntKind.i64.wrap (x + (width : Int)) = x + (width : Int) := by rw [IntKind.wrap_i64]; omega
  clear ha hc
  go_enter Try.func10, Try.ntmps10
  go_wp2_with fail
  refine F1.mono ?_
  rintro e w1 ⟨rfl, m1, hw1⟩
  have h1 := h.drewN m1
  rw [← hw1] at h1
  have c0 := h1.tk.cwidth
  have c1 := h1.tk.cmost
  have c2 := h1.tk.clist
  have F3 := fun m0 => F2 w1 m0 h1
  obtain ⟨_, _, e, _, _, h3⟩ := F4 w1 h1
  injection e with e1' _ e2'
  subst e1' e2'
  obtain ⟨b, off, rfl, hx0⟩ := h3 0 (by omega)
  have hx : w1.cell? ⟨b, off, none⟩ = some (.int .i64 x) := by rw [← ex]; exact hx0
  have HW : Hid (w1 = w.drewN m1) := hw1
  clear hw1 h h1 F1 F2 F4 h3 hx0 ex
  go_wp2_with fail
  go_quiet (first | (go_at_call 13; exact Calls.quiet_of (F3 _)))
  go_wp2_with fail
  go_quiet (fail)
  go_wp2_with fail
  go_ret2
  exact ⟨rfl, _, by rw [HW.out, World.drewN_drewN, World.drewN_drewN]⟩
end Go.Proofs.Ytphdjjhocdgofaa
