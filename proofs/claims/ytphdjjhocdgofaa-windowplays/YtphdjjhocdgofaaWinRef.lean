/-
  Contracts of the reference's Right, Asked, Count, Take and Free.
-/
import Derived.Test.YtphdjjhocdgofaaWinTake
namespace Go.Proofs.Ytphdjjhocdgofaa
open Go.ChangeShapes Go.WideShapes Go.ChangeAt Go.RowKit Go.Lib

set_option maxHeartbeats 1000000 in
theorem right_yes (width most : Nat) (w : World) (h : Sized width most) : Calls Try.prog 9 #[.int .i64 (width : Int), .int .i64 (most : Int)] w fun e w' => e = .returned (.bool true) ∧ w' = w := by
  obtain ⟨h1, h2, h3, h4⟩ := h
  have t1 : (1 : Int) ≤ (width : Int) := by omega
  have t2 : (width : Int) ≤ 1073741824 := by omega
  have t3 : (1 : Int) ≤ (most : Int) := by omega
  have t4 : (most : Int) ≤ 1024 := by omega
  go_enter Try.func9, Try.ntmps9
  go_wp2
  go_ret
  exact ⟨by simp, rfl⟩
set_option maxHeartbeats 1000000 in
theorem right_no (width most : Int) (w : World) (h : width < 1 ∨ 1073741824 < width ∨ most < 1 ∨ 1024 < most) : Calls Try.prog 9 #[.int .i64 width, .int .i64 most] w fun e w' => e = .returned (.bool false) ∧ w' = w := by
  by_cases h1 : 1 ≤ width
  · by_cases h2 : width ≤ 1073741824
    · by_cases h3 : 1 ≤ most
      · have h4 : ¬ most ≤ 1024 := by omega
        clear h
        go_enter Try.func9, Try.ntmps9
        go_wp2
        go_ret
        exact ⟨by simp, rfl⟩
      · clear h
        go_enter Try.func9, Try.ntmps9
        go_wp2
        go_ret
        exact ⟨rfl, rfl⟩
    · clear h
      go_enter Try.func9, Try.ntmps9
      go_wp2
      go_ret
      exact ⟨rfl, rfl⟩
  · clear h
    go_enter Try.func9, Try.ntmps9
    go_wp2
    go_ret
    exact ⟨rfl, rfl⟩

/-- The world holds at block q the reference's window with all N ticks of a. -/
structure Ref (w : World) (B q width most : Nat) (v : Value) (N : Nat) (a : Nat → Int) : Prop where
  tk : Tk w B q width most v N a
  rise : Rise N a
  sized : Sized width most
  few : N ≤ 1000
theorem Ref.drewN {w : World} {B p width most n : Nat} {v : Value} {g : Nat → Int} (h : Ref w B p width most v n g) (m : Nat) : Ref (w.drewN m) B p width most v n g := ⟨h.tk.drewN m, h.rise, h.sized, h.few⟩
theorem Ref.below {w w' : World} {B p width most n : Nat} {v : Value} {g : Nat → Int} (h : Ref w B p width most v n g) (k : Below w.heap.size w w') : Ref w' B p width most v n g := ⟨h.tk.below k, h.rise, h.sized, h.few⟩
theorem Ref.lastCell {w : World} {B q width most N : Nat} {v : Value} {a : Nat → Int} (h : Ref w B q width most v N a) (hN : 0 < N) : ∃ b off cap, v = .slice (some ⟨b, off, none⟩) N cap ∧ cap ≤ 9223372036854775807 ∧ N ≤ cap ∧ ∀ i, i < N → w.cell? ⟨b, off + i, none⟩ = some (.int .i64 (a i)) := by
  obtain ⟨ad, cap, rfl, h1, h2, h3⟩ := h.tk.row
  unfold maxLen at h2
  obtain ⟨b, off, rfl, _⟩ := h3 0 hN
  refine ⟨b, off, cap, rfl, h2, h1, fun i hi => ?_⟩
  obtain ⟨b', off', e, hc⟩ := h3 i hi
  injection e with e
  injection e with e1 e2
  subst e1 e2
  exact hc

set_option maxRecDepth 100000 in
set_option maxHeartbeats 2000000 in
theorem asked_ok {w : World} {B q width most N : Nat} {v : Value} {a : Nat → Int} (h : Ref w B q width most v N a) {now : Int} (ha : Askd a N now) :
    Calls Try.prog 15 #[.pointer (some ⟨q, 0, none⟩), .int .i64 now] w fun e w' => e = .returned (.bool true) ∧ ∃ m, w' = w.drewN m := by
  obtain ⟨a1, a2, a3⟩ := ha
  have t1 : ¬ now < 0 := by omega
  have t2 : ¬ 1099511627776 < now := by omega
  have c2 := h.tk.clist
  have hf := h.few
  by_cases hN : N = 0
  · subst hN
    obtain ⟨ad, cap, rfl⟩ := own_shape h.tk.list
    go_enter Try.func15, Try.ntmps15
    go_wp2_with fail
    go_quiet (fail)
    go_wp2_with fail
    go_ret
    exact ⟨rfl, _, rfl⟩
  · obtain ⟨b, off, cap, rfl, hcap, hNc, hc⟩ := h.lastCell (by omega)
    obtain ⟨k, rfl⟩ : ∃ k, N = k + 1 := ⟨N - 1, by omega⟩
    rw [Nat.add_sub_cancel] at a3
    have x := hc k (by omega)
    have t3 : a k ≤ now := by omega
    have t4 : ((k : Int) + 1 == 0) = false := beq_false_of_ne (by omega)
    have t5 : ¬ (k : Int) + 1 = 0 := by omega
    have t6 : decide (a k ≤ now) = true := decide_eq_true t3
    have t7 : (((k + 1 : Nat) : Int) == 0) = false := beq_false_of_ne (by omega)
    generalize a k = z at *
    clear hc h
    go_enter Try.func15, Try.ntmps15
    go_wp2_with fail
    go_quiet (fail)
    go_wp2_with fail
    go_ret
    exact ⟨by simp, _, rfl⟩
set_option maxRecDepth 100000 in
set_option maxHeartbeats 2000000 in
theorem asked_no {w : World} {B q width most N : Nat} {v : Value} {a : Nat → Int} (h : Ref w B q width most v N a) {now : Int} (ha : ¬ Askd a N now) :
    Calls Try.prog 15 #[.pointer (some ⟨q, 0, none⟩), .int .i64 now] w fun e w' => e = .returned (.bool false) ∧ ∃ m, w' = w.drewN m := by
  have c2 := h.tk.clist
  have hf := h.few
  by_cases t1 : now < 0
  · go_enter Try.func15, Try.ntmps15
    go_wp2_with fail
    go_ret
    exact ⟨rfl, 0, rfl⟩
  by_cases t2 : 1099511627776 < now
  · go_enter Try.func15, Try.ntmps15
    go_wp2_with fail
    go_ret
    exact ⟨rfl, 0, rfl⟩
  have hN : ¬ N = 0 := fun e => ha ⟨by omega, by omega, .inl e⟩
  have a3 : now < a (N - 1) := by
    by_cases e : now < a (N - 1)
    · exact e
    · exact absurd ⟨by omega, by omega, .inr (by omega)⟩ ha
  obtain ⟨b, off, cap, rfl, hcap, hNc, hc⟩ := h.lastCell (by omega)
  obtain ⟨k, rfl⟩ : ∃ k, N = k + 1 := ⟨N - 1, by omega⟩
  rw [Nat.add_sub_cancel] at a3
  have x := hc k (by omega)
  have t3 : ¬ a k ≤ now := by omega
  have t4 : ((k : Int) + 1 == 0) = false := beq_false_of_ne (by omega)
  have t5 : ¬ (k : Int) + 1 = 0 := by omega
  have t6 : decide (a k ≤ now) = false := decide_eq_false t3
  have t7 : (((k + 1 : Nat) : Int) == 0) = false := beq_false_of_ne (by omega)
  generalize a k = z at *
  clear hc h ha
  go_enter Try.func15, Try.ntmps15
  go_wp2_with fail
  go_quiet (fail)
  go_wp2_with fail
  go_ret
  exact ⟨by simp, _, rfl⟩

set_option maxRecDepth 100000 in
set_option maxHeartbeats 4000000 in
theorem refCount_any {w : World} {B q width most N c : Nat} {v : Value} {a : Nat → Int} (h : Ref w B q width most v N a) (now : Int) (hc : Cnt a N width now c) :
    Calls Try.prog 12 #[.pointer (some ⟨q, 0, none⟩), .int .i64 now] w fun e w' => e = .returned (.int .i64 (c : Int)) ∧ ∃ m, w' = w.drewN m := by
  have c2 := h.tk.clist
  have c0 := h.tk.cwidth
  have hf := h.few
  obtain ⟨s1, s2, s3, s4⟩ := h.sized
  rcases hc with ⟨rfl, rfl⟩ | ⟨hN, hlt, rfl⟩ | ⟨hN, hle, K, hK, hcK⟩
  · obtain ⟨ad, cap, rfl⟩ := own_shape h.tk.list
    have t0 : decide ((0 : Int) < 0) = false := rfl
    clear h
    go_enter Try.func12, Try.ntmps12
    go_wp2_with fail
    go_quiet (fail)
    go_wp2_with fail
    go_loopw [5, 6] (fun x i wr => x = .int .i64 0 ∧ i = .int .i64 0 ∧ wr = w.drewN nq) (fun _ _ _ => 0)
    case atStart => exact ⟨rfl, rfl, rfl⟩
    case round =>
      obtain ⟨rfl, rfl, rfl⟩ := hrel
      go_wp2_with fail
      go_ret
      exact ⟨rfl, _, rfl⟩
  · obtain ⟨b, off, cap, rfl, hcap, hNc, hx⟩ := h.lastCell hN
    obtain ⟨k, rfl⟩ : ∃ k, N = k + 1 := ⟨N - 1, by omega⟩
    rw [Nat.add_sub_cancel] at hlt
    have x := hx k (by omega)
    have t4 : decide ((0 : Int) < (k : Int) + 1) = true := decide_eq_true (by omega)
    have t6 : decide (now < a k) = true := decide_eq_true hlt
    have t7 : (0 : Int) < ((k + 1 : Nat) : Int) := by omega
    generalize a k = z at *
    clear hx h
    go_enter Try.func12, Try.ntmps12
    go_wp2_with fail
    go_quiet (fail)
    go_wp2_with fail
    go_ret
    exact ⟨rfl, _, rfl⟩
  · obtain ⟨b, off, cap, rfl, hcap, hNc, hx⟩ := h.lastCell hN
    have xx : ∃ z, z = a (N - 1) ∧ w.cell? ⟨b, off + (N - 1), none⟩ = some (.int .i64 z) := ⟨_, rfl, hx (N - 1) (by omega)⟩
    obtain ⟨z, ez, x⟩ := xx
    have hle' : z ≤ now := by rw [ez]; exact hle
    have HX : Hid (∀ i, i < N → w.cell? ⟨b, off + i, none⟩ = some (.int .i64 (a i))) := hx
    have HK : Hid (Cut a N (now - (width : Int) + 1) K) := hK
    have HR : Hid (Rise N a) := h.rise
    have t3 : ¬ now < z := by omega
    have t6 : decide (now < z) = false := decide_eq_false t3
    obtain ⟨k, rfl⟩ : ∃ k, N = k + 1 := ⟨N - 1, by omega⟩
    rw [Nat.add_sub_cancel] at x
    have t4 : decide ((0 : Int) < (k : Int) + 1) = true := decide_eq_true (by omega)
    have t7 : (0 : Int) < ((k + 1 : Nat) : Int) := by omega
    clear hx hK h ez hle hle'
    go_enter Try.func12, Try.ntmps12
    go_wp2_with fail
    go_quiet (fail)
    clear x t3 t6 t4
    go_wp2_with fail
    go_loopw [5, 6] (fun x i wr => ∃ j : Nat, x = .int .i64 ((j - K : Nat) : Int) ∧ i = .int .i64 (j : Int) ∧ j ≤ k + 1 ∧ ∃ m, wr = w.drewN m) (fun _ i _ => (k + 1) - (RowKit.intOf i).toNat)
    case atStart => exact ⟨0, by simp, rfl, Nat.zero_le _, _, rfl⟩
    case round =>
      obtain ⟨j, rfl, rfl, hj, m, rfl⟩ := hrel
      by_cases hlt : j < k + 1
      · have t1 : (j : Int) < ((k + 1 : Nat) : Int) := by omega
        have t1' : (j : Int) < (k : Int) + 1 := by omega
        have x := HX.out j hlt
        have y1 := HR.out.low j hlt
        have y2 := HR.out.high j hlt
        by_cases hjK : j < K
        · have y3 := HK.out.less j hjK
          obtain ⟨y, ey⟩ : ∃ y, a j = y := ⟨_, rfl⟩
          rw [ey] at x y1 y2 y3
          have e1 : IntKind.i64.wrap (y + (width : Int)) = y + (width : Int) := by rw [IntKind.wrap_i64]; omega
          have t2 : ¬ now < y + (width : Int) := by omega
          clear ey
          go_wp2_with fail
          go_quiet (fail)
          go_wp2_with fail
          go_roundw
          case rel => exact ⟨j + 1, by rw [show j + 1 - K = j - K by omega], by simp, by omega, _, rfl⟩
          case measure => simp [RowKit.intOf]; omega
        · have y3 := HK.out.rest j (by omega) hlt
          obtain ⟨y, ey⟩ : ∃ y, a j = y := ⟨_, rfl⟩
          rw [ey] at x y1 y2 y3
          have e1 : IntKind.i64.wrap (y + (width : Int)) = y + (width : Int) := by rw [IntKind.wrap_i64]; omega
          have t2 : now < y + (width : Int) := by omega
          clear ey
          go_wp2_with fail
          go_quiet (fail)
          go_wp2_with fail
          go_roundw
          case rel => exact ⟨j + 1, by rw [show j + 1 - K = (j - K) + 1 by omega]; simp, by simp, by omega, _, rfl⟩
          case measure => simp [RowKit.intOf]; omega
      · obtain rfl : j = k + 1 := by omega
        have t1 : ¬ (k : Int) + 1 < (k : Int) + 1 := by omega
        obtain rfl : c = k + 1 - K := by omega
        go_wp2_with fail
        go_ret
        exact ⟨rfl, _, rfl⟩

set_option maxRecDepth 100000 in
set_option maxHeartbeats 2000000 in
theorem refFree_no {w : World} {B q width most N : Nat} {v : Value} {a : Nat → Int} (h : Ref w B q width most v N a) {now : Int} (ha : ¬ Askd a N now) :
    Calls Try.prog 11 #[.pointer (some ⟨q, 0, none⟩), .int .i64 now] w fun e w' => e = .returned (.tuple #[.int .i64 0, .int .i64 2]) ∧ ∃ m, w' = w.drewN m := by
  have F1 := asked_no h ha
  clear h ha
  go_enter Try.func11, Try.ntmps11
  go_wp2_with fail
  refine F1.mono ?_
  rintro e w1 ⟨rfl, m1, rfl⟩
  go_wp2_with fail
  go_ret2
  exact ⟨rfl, _, rfl⟩
set_option maxRecDepth 100000 in
set_option maxHeartbeats 2000000 in
theorem refFree_now {w : World} {B q width most N c : Nat} {v : Value} {a : Nat → Int} (h : Ref w B q width most v N a) {now : Int} (ha : Askd a N now) (hc : Cnt a N width now c) (hcm : c < most) :
    Calls Try.prog 11 #[.pointer (some ⟨q, 0, none⟩), .int .i64 now] w fun e w' => e = .returned (.tuple #[.int .i64 now, .int .i64 0]) ∧ ∃ m, w' = w.drewN m := by
  have F1 := asked_ok h ha
  have F2 := fun m => refCount_any (h.drewN m) now hc
  have c1 := h.tk.cmost
  have t : (c : Int) < (most : Int) := by omega
  clear h ha hc
  go_enter Try.func11, Try.ntmps11
  go_wp2_with fail
  refine F1.mono ?_
  rintro e w1 ⟨rfl, m1, rfl⟩
  go_wp2_with fail
  refine (F2 _).mono ?_
  rintro e w2 ⟨rfl, m2, rfl⟩
  go_wp2_with fail
  go_ret2
  exact ⟨rfl, _, rfl⟩
set_option maxRecDepth 100000 in
set_option maxHeartbeats 2000000 in
theorem refFree_wait {w : World} {B q width most N : Nat} {v : Value} {a : Nat → Int} (h : Ref w B q width most v N a) {now : Int} (ha : Askd a N now) (hc : Cnt a N width now most) (x : Int) (hx : a (N - most) = x) :
    Calls Try.prog 11 #[.pointer (some ⟨q, 0, none⟩), .int .i64 now] w fun e w' => e = .returned (.tuple #[.int .i64 (x + (width : Int)), .int .i64 0]) ∧ ∃ m, w' = w.drewN m := by
  have F1 := asked_ok h ha
  have F2 := fun m => refCount_any (h.drewN m) now hc
  obtain ⟨s1, s2, s3, s4⟩ := h.sized
  have c0 := h.tk.cwidth
  have c1 := h.tk.cmost
  have c2 := h.tk.clist
  have hcl := hc.le
  have hf := h.few
  have x1 := h.rise.low (N - most) (by omega)
  have x2 := h.rise.high (N - most) (by omega)
  obtain ⟨b, off, cap, rfl, hcap, hNc, hcell⟩ := h.lastCell (by omega)
  have k1 := hcell (N - most) (by omega)
  rw [hx] at x1 x2 k1
  have t : ¬ (most : Int) < (most : Int) := by omega
  obtain ⟨j, ej⟩ : ∃ j, N - most = j := ⟨_, rfl⟩
  rw [ej] at k1
  have e0 : IntKind.i64.wrap ((N : Int) - (most : Int)) = (j : Int) := by rw [IntKind.wrap_i64]; omega
  have e1 : IntKind.i64.wrap (x + (width : Int)) = x + (width : Int) := by rw [IntKind.wrap_i64]; omega
  have e2 : (N : Int) - (most : Int) = (j : Int) := by omega
  have t2 : (j : Int) < (N : Int) := by omega
  clear h ha hc hcell hx ej
  go_enter Try.func11, Try.ntmps11
  go_wp2_with fail
  refine F1.mono ?_
  rintro e w1 ⟨rfl, m1, rfl⟩
  go_wp2_with fail
  refine (F2 _).mono ?_
  rintro e w2 ⟨rfl, m2, rfl⟩
  go_wp2_with fail
  go_quiet (fail)
  go_wp2_with fail
  go_ret2
  exact ⟨rfl, _, by rw [World.drewN_drewN]⟩

set_option maxRecDepth 100000 in
set_option maxHeartbeats 2000000 in
theorem refTake_no {w : World} {B q width most N : Nat} {v : Value} {a : Nat → Int} (h : Ref w B q width most v N a) {now : Int} (ha : ¬ Askd a N now) :
    Calls Try.prog 17 #[.pointer (some ⟨q, 0, none⟩), .int .i64 now] w fun e w' => e = .returned (.int .i64 2) ∧ ∃ m, w' = w.drewN m := by
  have F1 := asked_no h ha
  clear h ha
  go_enter Try.func17, Try.ntmps17
  go_wp2_with fail
  refine F1.mono ?_
  rintro e w1 ⟨rfl, m1, rfl⟩
  go_wp2_with fail
  go_ret
  exact ⟨rfl, _, rfl⟩
set_option maxRecDepth 100000 in
set_option maxHeartbeats 2000000 in
theorem refTake_full {w : World} {B q width most N : Nat} {v : Value} {a : Nat → Int} (h : Ref w B q width most v N a) {now : Int} (ha : Askd a N now) (hc : Cnt a N width now most) :
    Calls Try.prog 17 #[.pointer (some ⟨q, 0, none⟩), .int .i64 now] w fun e w' => e = .returned (.int .i64 60) ∧ ∃ m, w' = w.drewN m := by
  have F1 := asked_ok h ha
  have F2 := fun w m0 (h : Ref w B q width most v N a) => refCount_any (h.drewN m0) now hc
  clear ha hc
  go_enter Try.func17, Try.ntmps17
  go_wp2_with fail
  refine F1.mono ?_
  rintro e w1 ⟨rfl, m1, hw1⟩
  have h1 := h.drewN m1
  rw [← hw1] at h1
  have c1 := h1.tk.cmost
  have F3 := fun m0 => F2 w1 m0 h1
  have t : (most : Int) ≤ (most : Int) := by omega
  have HW : Hid (w1 = w.drewN m1) := hw1
  clear hw1 h h1 F1 F2
  go_wp2_with fail
  go_quiet (first | (go_at_call 12; exact Calls.quiet_of (F3 _)))
  go_wp2_with fail
  go_ret
  exact ⟨rfl, _, by rw [HW.out, World.drewN_drewN]⟩
set_option maxRecDepth 100000 in
set_option maxHeartbeats 4000000 in
theorem refTake_ok {w : World} {B q width most N c : Nat} {v : Value} {a : Nat → Int} (h : Ref w B q width most v N a) {now : Int} (ha : Askd a N now) (hc : Cnt a N width now c) (hcm : c < most) :
    Calls Try.prog 17 #[.pointer (some ⟨q, 0, none⟩), .int .i64 now] w fun e w' => e = .returned (.int .i64 0) ∧
      ∃ v', Tk w' B q width most v' (N + 1) (upd a N now) ∧ But (ownT q v) w w' ∧ ∀ k, ownT q v' k → ownT q v k ∨ w.heap.size ≤ k := by
  have F1 := asked_ok h ha
  have F2 := fun w m0 (h : Ref w B q width most v N a) => refCount_any (h.drewN m0) now hc
  obtain ⟨i0, hi0, hz0, hzs, hzb⟩ := info_parts infoN
  have t : ¬ (most : Int) ≤ (c : Int) := by omega
  have hf := h.few
  clear ha hc
  go_enter Try.func17, Try.ntmps17
  go_wp2_with fail
  refine F1.mono ?_
  rintro e w1 ⟨rfl, m1, hw1⟩
  have h1 := h.drewN m1
  rw [← hw1] at h1
  have c1 := h1.tk.cmost
  have F3 := fun m0 => F2 w1 m0 h1
  have HW : Hid (w1 = w.drewN m1) := hw1
  have HH : Hid (Ref w1 B q width most v N a) := h1
  clear hw1 h h1 F1 F2
  go_wp2_with fail
  go_quiet (first | (go_at_call 12; exact Calls.quiet_of (F3 _)))
  obtain ⟨w2, hw2⟩ : ∃ w2, w2 = w1.drewN nq := ⟨_, rfl⟩
  rw [← hw2]
  have T2 := HH.out.tk.drewN nq
  rw [← hw2] at T2
  have HW2 : Hid (w2 = w1.drewN nq) := hw2
  obtain ⟨a2, cap2, hs2⟩ := own_shape T2.list
  have k2 := T2.clist
  have z2 := T2.thaw 2
  have hp := T2.there (.inl rfl)
  rw [hs2] at k2
  have hown := own_below T2.list ((Below.refl _ w2).alloc (Nat.le_refl _) (.cells #[.int .i64 now] 3))
  have hcn := cell_one_new w2 (.int .i64 now) 3
  rw [hs2] at hown
  clear F3 c1 hw2
  go_wp2_with (at_builtin; refine wpList_append_own_at _ rfl _ _ 22 rfl B 3 i0 (.int .i64 0) 1 8 Try.underlying22 hi0 hz0 hzs hzb rfl (by decide) _ _ _ rfl hown ⟨w2.heap.size, 0, none⟩ 1 1 [.int .i64 now] rfl rfl ?hnews ?hone ?h63 ?hbytes ?hbase ?_)
  case hone => simp [Value.oneCell']
  case hnews => exact hcn
  case h63 => unfold maxLen; omega
  case hbytes => omega
  case hbase => simp; omega
  intro v' w' hown' hgrow _ hat
  have T3 := T2.below ((Below.refl _ w2).alloc (Nat.le_refl _) (.cells #[.int .i64 now] 3))
  rw [← hs2] at hgrow hat
  have hat' : v'.ownBlock = v.ownBlock ∨ ∃ k, v'.ownBlock = some k ∧ (w2.alloc (.cells #[.int .i64 now] 3)).heap.size ≤ k := by
    rcases hat with e | e
    · exact .inl e
    · exact .inr ⟨_, e, by simp⟩
  have HM := T3.more hgrow hat' hown'
  have e1 := ((But.of_grown hgrow).cell (o := 2) (T3.there (.inl rfl)).2 T3.apart).trans T3.clist
  have e2 := ((But.of_grown hgrow).frozen (o := 2) (T3.there (.inl rfl)).2 T3.apart).trans (T3.thaw 2)
  rw [hs2] at e1
  have HM' : Hid (Tk (w'.setCell ⟨q, 2, none⟩ v') B q width most v' (N + 1) (upd a N now) ∧ But (ownT q v) (w2.alloc (.cells #[.int .i64 now] 3)) (w'.setCell ⟨q, 2, none⟩ v') ∧ ∀ k, ownT q v' k → ownT q v k ∨ (w2.alloc (.cells #[.int .i64 now] 3)).heap.size ≤ k) := HM
  obtain ⟨b', cap', hsh⟩ := ownsRow_succ hown'
  clear hown hown' hgrow hat hat' HM T2 T3 hcn k2 z2 hi0 hz0 hzs hzb hs2 HH
  subst hsh
  go_wp2_with fail
  go_ret
  obtain ⟨M1, M2, M3⟩ := HM'.out
  have B2 : Below w.heap.size w w2 := by rw [HW2.out, HW.out]; exact below_more (below_drewN _ _ _) _
  have hz := B2.size
  refine ⟨rfl, _, M1, ?_, fun k hk => ?_⟩
  · exact ((But.of_below (S := ownT q v) B2).trans (But.of_below (S := ownT q v) ((Below.refl _ w2).alloc (Nat.le_refl _) _)) (fun _ _ e => e)).trans M2 (fun _ _ e => e)
  · rcases M3 k hk with e | e
    · exact .inl e
    · right; simp at e; omega
end Go.Proofs.Ytphdjjhocdgofaa
