/-
  Contracts of window's past, Count, fits, May and Free.
-/
import Derived.Test.YtphdjjhocdgofaaWin
namespace Go.Proofs.Ytphdjjhocdgofaa
open Go.ChangeShapes Go.WideShapes Go.ChangeAt Go.RowKit Go.Lib

set_option maxRecDepth 100000 in
set_option maxHeartbeats 2000000 in
theorem past_any {w : World} {B p width most n K : Nat} {v : Value} {g : Nat → Int} (h : Tk w B p width most v n g) (hs : Sized width most) (hn : n ≤ 1000000) (R : Rise n g) (now : Int) (h0 : 0 ≤ now) (h1 : now ≤ 9223372036854775807) (hK : Cut g n (now - (width : Int) + 1) K) :
    Calls Try.prog 20 #[.pointer (some ⟨p, 0, none⟩), .int .i64 now] w fun e w' => e = .returned (.int .i64 (K : Int)) ∧ ∃ m, w' = w.drewN m := by
  have F1 := fun m0 => search_any (h.drewN m0).row hn R.up _ K hK
  obtain ⟨s1, s2, s3, s4⟩ := hs
  have c0 := h.cwidth
  have c2 := h.clist
  obtain ⟨a, cap, rfl⟩ := own_shape h.list
  have e1 : IntKind.i64.wrap (now - (width : Int)) = now - (width : Int) := by rw [IntKind.wrap_i64]; omega
  have e2 : IntKind.i64.wrap (now - (width : Int) + 1) = now - (width : Int) + 1 := by rw [IntKind.wrap_i64]; omega
  generalize decide (K < n ∧ g K = now - (width : Int) + 1) = tb at *
  clear h hK
  go_enter Try.func20, Try.ntmps20
  go_wp2_with fail
  go_quiet (first | (go_at_call 23; exact Calls.quiet_of_same (F1 _)))
  go_wp2_with fail
  go_ret
  exact ⟨rfl, _, rfl⟩
/-- The world holds at block p a window with the n ticks of g. -/
structure Win (w : World) (B p width most : Nat) (v : Value) (n : Nat) (g : Nat → Int) : Prop where
  tk : Tk w B p width most v n g
  rise : Rise n g
  sized : Sized width most
  fits : n ≤ most
theorem Win.drewN {w : World} {B p width most n : Nat} {v : Value} {g : Nat → Int} (h : Win w B p width most v n g) (m : Nat) : Win (w.drewN m) B p width most v n g := ⟨h.tk.drewN m, h.rise, h.sized, h.fits⟩
theorem Win.below {w w' : World} {B p width most n : Nat} {v : Value} {g : Nat → Int} (h : Win w B p width most v n g) (k : Below w.heap.size w w') : Win w' B p width most v n g := ⟨h.tk.below k, h.rise, h.sized, h.fits⟩

set_option maxRecDepth 100000 in
set_option maxHeartbeats 2000000 in
theorem count_any {w : World} {B p width most n c : Nat} {v : Value} {g : Nat → Int} (h : Win w B p width most v n g) (now : Int) (hb : now ≤ 9223372036854775807) (hc : Cnt g n width now c) :
    Calls Try.prog 13 #[.pointer (some ⟨p, 0, none⟩), .int .i64 now] w fun e w' => e = .returned (.int .i64 (c : Int)) ∧ ∃ m, w' = w.drewN m := by
  have hs := h.sized
  have hf := h.fits
  have hs2 := hs.m2
  rcases hc with ⟨rfl, rfl⟩ | ⟨hn, hlt, rfl⟩ | ⟨hn, hle, K, hK, hcK⟩
  · have F1 := last_none h.tk hs.w1
    go_enter Try.func13, Try.ntmps13
    go_wp2_with fail
    refine F1.mono ?_
    rintro e w1 ⟨rfl, rfl⟩
    go_wp2_with fail
    go_ret
    exact ⟨rfl, 0, rfl⟩
  · have F1 := last_some h.tk hs.w1 hn
    generalize g (n - 1) = x at *
    go_enter Try.func13, Try.ntmps13
    go_wp2_with fail
    refine F1.mono ?_
    rintro e w1 ⟨rfl, m1, rfl⟩
    go_wp2_with fail
    go_ret
    exact ⟨rfl, _, rfl⟩
  · have F1 := last_some h.tk hs.w1 hn
    have h0 : 0 ≤ now := Int.le_trans (h.rise.low (n - 1) (by omega)) hle
    have F2 := fun w m1 (k : Tk w B p width most v n g) => past_any (k.drewN m1) hs (by omega) h.rise now h0 hb hK
    obtain ⟨a, cap, rfl⟩ := own_shape h.tk.list
    have t : ¬ now < g (n - 1) := by omega
    have e1 : IntKind.i64.wrap ((n : Int) - (K : Int)) = (c : Int) := by rw [IntKind.wrap_i64]; omega
    generalize g (n - 1) = x at *
    clear hK
    go_enter Try.func13, Try.ntmps13
    go_wp2_with fail
    refine F1.mono ?_
    rintro e w1 ⟨rfl, m1, hw1⟩
    have h1 := h.tk.drewN m1
    rw [← hw1] at h1
    have c2 := h1.clist
    have F3 := fun m0 => F2 w1 m0 h1
    have HW : Hid (w1 = w.drewN m1) := hw1
    clear hw1 h h1 F1 F2
    go_wp2_with fail
    go_quiet (first | (go_at_call 20; exact Calls.quiet_of (F3 _)))
    go_wp2_with fail
    go_ret
    exact ⟨rfl, _, by rw [HW.out, World.drewN_drewN]⟩
theorem countN {w : World} {r : Value} (h : NoWin w r) (now : Int) : Calls Try.prog 13 #[r, .int .i64 now] w fun e w' => e = .returned (.int .i64 0) ∧ w' = w := by
  have F1 := lastN h
  go_enter Try.func13, Try.ntmps13
  go_wp2_with fail
  refine F1.mono ?_
  rintro e w1 ⟨rfl, rfl⟩
  go_wp2_with fail
  go_ret
  exact ⟨rfl, rfl⟩

set_option maxRecDepth 100000 in
set_option maxHeartbeats 2000000 in
theorem fits_ok {w : World} {B p width most n : Nat} {v : Value} {g : Nat → Int} (h : Win w B p width most v n g) {now : Int} (ha : Askd g n now) :
    Calls Try.prog 19 #[.pointer (some ⟨p, 0, none⟩), .int .i64 now] w fun e w' => e = .returned (.int .i64 0) ∧ ∃ m, w' = w.drewN m := by
  have hs := h.sized
  have F0 := made_yes p width w h.tk.cwidth hs.w1
  obtain ⟨a1, a2, a3⟩ := ha
  have t1 : ¬ now < 0 := by omega
  have t2 : ¬ 1099511627776 < now := by omega
  by_cases hn : n = 0
  · subst hn
    have F1 := last_none h.tk hs.w1
    go_enter Try.func19, Try.ntmps19
    go_wp2_with fail
    refine F0.mono ?_
    rintro e w1 ⟨rfl, rfl⟩
    go_wp2_with fail
    refine F1.mono ?_
    rintro e w1 ⟨rfl, rfl⟩
    go_wp2_with fail
    go_ret
    exact ⟨rfl, 0, rfl⟩
  · have F1 := last_some h.tk hs.w1 (by omega)
    have t3 : ¬ now < g (n - 1) := by omega
    generalize g (n - 1) = x at *
    go_enter Try.func19, Try.ntmps19
    go_wp2_with fail
    refine F0.mono ?_
    rintro e w1 ⟨rfl, rfl⟩
    go_wp2_with fail
    refine F1.mono ?_
    rintro e w1 ⟨rfl, m1, rfl⟩
    go_wp2_with fail
    go_ret
    exact ⟨rfl, _, rfl⟩
set_option maxRecDepth 100000 in
set_option maxHeartbeats 2000000 in
theorem fits_no {w : World} {B p width most n : Nat} {v : Value} {g : Nat → Int} (h : Win w B p width most v n g) {now : Int} (ha : ¬ Askd g n now) :
    Calls Try.prog 19 #[.pointer (some ⟨p, 0, none⟩), .int .i64 now] w fun e w' => e = .returned (.int .i64 2) ∧ ∃ m, w' = w.drewN m := by
  have hs := h.sized
  have F0 := made_yes p width w h.tk.cwidth hs.w1
  obtain ⟨x, b, F1⟩ : ∃ x b, Calls Try.prog 18 #[.pointer (some ⟨p, 0, none⟩)] w fun e w' => e = .returned (.tuple #[.int .i64 x, .bool b]) ∧ ∃ m, w' = w.drewN m := by
    by_cases hn : n = 0
    · subst hn
      exact ⟨0, false, (last_none h.tk hs.w1).mono fun e w' ⟨h1, h2⟩ => ⟨h1, 0, h2⟩⟩
    · exact ⟨_, true, last_some h.tk hs.w1 (by omega)⟩
  by_cases h1 : now < 0
  · go_enter Try.func19, Try.ntmps19
    go_wp2_with fail
    refine F0.mono ?_
    rintro e w1 ⟨rfl, rfl⟩
    go_wp2_with fail
    refine F1.mono ?_
    rintro e w1 ⟨rfl, m1, rfl⟩
    go_wp2_with fail
    go_ret
    exact ⟨rfl, _, rfl⟩
  by_cases h2 : 1099511627776 < now
  · go_enter Try.func19, Try.ntmps19
    go_wp2_with fail
    refine F0.mono ?_
    rintro e w1 ⟨rfl, rfl⟩
    go_wp2_with fail
    refine F1.mono ?_
    rintro e w1 ⟨rfl, m1, rfl⟩
    go_wp2_with fail
    go_ret
    exact ⟨rfl, _, rfl⟩
  · have h3 : ¬ n = 0 ∧ now < g (n - 1) := by
      by_cases e : n = 0
      · exact absurd ⟨by omega, by omega, .inl e⟩ ha
      · exact ⟨e, by
          by_cases e' : now < g (n - 1)
          · exact e'
          · exact absurd ⟨by omega, by omega, .inr (by omega)⟩ ha⟩
    clear F1
    have F1 := last_some h.tk hs.w1 (by omega)
    have t3 := h3.2
    generalize g (n - 1) = x at *
    clear ha h3
    go_enter Try.func19, Try.ntmps19
    go_wp2_with fail
    refine F0.mono ?_
    rintro e w1 ⟨rfl, rfl⟩
    go_wp2_with fail
    refine F1.mono ?_
    rintro e w1 ⟨rfl, m1, rfl⟩
    go_wp2_with fail
    go_ret
    exact ⟨rfl, _, rfl⟩
theorem fitsN {w : World} {r : Value} (h : NoWin w r) (now : Int) : Calls Try.prog 19 #[r, .int .i64 now] w fun e w' => e = .returned (.int .i64 1) ∧ w' = w := by
  have F1 := made_no h
  go_enter Try.func19, Try.ntmps19
  go_wp2_with fail
  refine F1.mono ?_
  rintro e w1 ⟨rfl, rfl⟩
  go_wp2_with fail
  go_ret
  exact ⟨rfl, rfl⟩
end Go.Proofs.Ytphdjjhocdgofaa
