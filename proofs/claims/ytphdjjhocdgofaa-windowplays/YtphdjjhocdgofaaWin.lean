/-
  A window in memory (the program's or the reference's: two numbers and a list of ticks), and the contracts of window's New, made, Last, past and of slices.BinarySearch at numbers.
-/
import Derived.Test.YtphdjjhocdgofaaOwnRows
import Derived.Test.YtphdjjhocdgofaaTicks
namespace Go.Proofs.Ytphdjjhocdgofaa
open Go.ChangeShapes Go.WideShapes Go.ChangeAt Go.RowKit Go.Lib

/-- The world holds at block p a width, a most, and in the list v the n ticks that g tells, in memory from block B on. -/
structure Tk (w : World) (B p width most : Nat) (v : Value) (n : Nat) (g : Nat → Int) : Prop where
  cwidth : w.cell? ⟨p, 0, none⟩ = some (.int .i64 (width : Int))
  cmost : w.cell? ⟨p, 1, none⟩ = some (.int .i64 (most : Int))
  clist : w.cell? ⟨p, 2, none⟩ = some v
  thaw : ∀ j, w.frozen? ⟨p, j, none⟩ = false
  list : w.ownsRow B 3 1 v n (vals (fun i => .int .i64 (g i)) n)
  apart : v.ownBlock ≠ some p
  least : B ≤ p
/-- The blocks that are its own. -/
def ownT (p : Nat) (v : Value) (k : Nat) : Prop := k = p ∨ v.ownBlock = some k
theorem Tk.there {w : World} {B p width most n : Nat} {v : Value} {g : Nat → Int} (h : Tk w B p width most v n g) {k : Nat} (hk : ownT p v k) : B ≤ k ∧ k < w.heap.size := by
  rcases hk with rfl | e
  · exact ⟨h.least, World.block_lt_of_cell? _ _ h.cwidth⟩
  · exact h.list.lt k e
theorem Tk.kept {w w' : World} {B p width most n : Nat} {v : Value} {g : Nat → Int} {T : Nat → Prop} (h : Tk w B p width most v n g) (k : But T w w') (hT : ∀ i, ownT p v i → ¬ T i) : Tk w' B p width most v n g := by
  have hp := hT p (.inl rfl)
  have hlt := (h.there (.inl rfl)).2
  exact ⟨by rw [k.cell hlt hp]; exact h.cwidth, by rw [k.cell hlt hp]; exact h.cmost, by rw [k.cell hlt hp]; exact h.clist, fun j => by rw [k.frozen hlt hp]; exact h.thaw j, own_kept h.list k (fun g hg => hT g (.inr hg)), h.apart, h.least⟩
theorem Tk.below {w w' : World} {B p width most n : Nat} {v : Value} {g : Nat → Int} (h : Tk w B p width most v n g) (k : Below w.heap.size w w') : Tk w' B p width most v n g :=
  h.kept (T := fun _ => False) (But.of_below k) (fun _ _ => id)
theorem Tk.drewN {w : World} {B p width most n : Nat} {v : Value} {g : Nat → Int} (h : Tk w B p width most v n g) (m : Nat) : Tk (w.drewN m) B p width most v n g := h.below (below_drewN _ _ _)
theorem Tk.row {w : World} {B p width most n : Nat} {v : Value} {g : Nat → Int} (h : Tk w B p width most v n g) : Row w v n fun i => .int .i64 (g i) := row_of_own h.list _ (fun _ hi => vals_at _ hi)
/-- A window that is none. -/
def NoWin (w : World) (r : Value) : Prop := r = .pointer none ∨ ∃ b, r = .pointer (some ⟨b, 0, none⟩) ∧ w.cell? ⟨b, 0, none⟩ = some (.int .i64 0)
/-- What a width and a most may be. -/
structure Sized (width most : Nat) : Prop where
  w1 : 1 ≤ width
  w2 : width ≤ 1073741824
  m1 : 1 ≤ most
  m2 : most ≤ 1024

set_option maxHeartbeats 1000000 in
theorem new_no (width most : Int) (w : World) (h : width < 1 ∨ 1073741824 < width ∨ most < 1 ∨ 1024 < most) : Calls Try.prog 8 #[.int .i64 width, .int .i64 most] w fun e w' => e = .returned (.tuple #[.pointer none, .int .i64 2]) ∧ w' = w := by
  by_cases h1 : width < 1
  · go_enter Try.func8, Try.ntmps8
    go_wp2
    go_ret2
    exact ⟨rfl, rfl⟩
  by_cases h2 : 1073741824 < width
  · go_enter Try.func8, Try.ntmps8
    go_wp2
    go_ret2
    exact ⟨rfl, rfl⟩
  by_cases h3 : most < 1
  · go_enter Try.func8, Try.ntmps8
    go_wp2
    go_ret2
    exact ⟨rfl, rfl⟩
  · have h4 : 1024 < most := by omega
    go_enter Try.func8, Try.ntmps8
    go_wp2
    go_ret2
    exact ⟨rfl, rfl⟩
set_option maxHeartbeats 1000000 in
theorem new_yes (width most : Nat) (w : World) (h : Sized width most) (B : Nat) (hB : B ≤ w.heap.size) : Calls Try.prog 8 #[.int .i64 (width : Int), .int .i64 (most : Int)] w fun e w' =>
    e = .returned (.tuple #[.pointer (some ⟨w.heap.size, 0, none⟩), .int .i64 0]) ∧ (∀ g, Tk w' B w.heap.size width most (.slice none 0 0) 0 g) ∧ Below w.heap.size w w' ∧ w'.heap.size = w.heap.size + 1 := by
  obtain ⟨h1, h2, h3, h4⟩ := h
  have t1 : ¬ (width : Int) < 1 := by omega
  have t2 : ¬ (1073741824 : Int) < (width : Int) := by omega
  have t3 : ¬ (most : Int) < 1 := by omega
  have t4 : ¬ (1024 : Int) < (most : Int) := by omega
  go_enter Try.func8, Try.ntmps8
  go_wp2
  go_ret2
  exact ⟨rfl, fun g => ⟨by simp, by simp, by simp, fun j => by simp, World.ownsRow_nil _ _ _ _, by simp [Value.ownBlock], hB⟩, (Below.refl _ w).alloc (Nat.le_refl _) _, by simp⟩

theorem made_yes (p width : Nat) (w : World) (h : w.cell? ⟨p, 0, none⟩ = some (.int .i64 (width : Int))) (hr : 0 < width) :
    Calls Try.prog 22 #[.pointer (some ⟨p, 0, none⟩)] w fun e w' => e = .returned (.bool true) ∧ w' = w := by
  have t : (0 : Int) < (width : Int) := by omega
  go_enter Try.func22, Try.ntmps22
  go_wp2
  go_ret
  exact ⟨by simp, rfl⟩
theorem made_no {w : World} {r : Value} (h : NoWin w r) : Calls Try.prog 22 #[r] w fun e w' => e = .returned (.bool false) ∧ w' = w := by
  rcases h with rfl | ⟨b, rfl, h⟩
  · go_enter Try.func22, Try.ntmps22
    go_wp2
    go_ret
    exact ⟨rfl, rfl⟩
  · go_enter Try.func22, Try.ntmps22
    go_wp2
    go_ret
    exact ⟨by simp, rfl⟩

set_option maxHeartbeats 1000000 in
theorem last_none {w : World} {B p width most : Nat} {v : Value} {g : Nat → Int} (h : Tk w B p width most v 0 g) (hs : 0 < width) :
    Calls Try.prog 18 #[.pointer (some ⟨p, 0, none⟩)] w fun e w' => e = .returned (.tuple #[.int .i64 0, .bool false]) ∧ w' = w := by
  have F1 := made_yes p width w h.cwidth hs
  obtain ⟨a, cap, rfl⟩ := own_shape h.list
  have hc := h.clist
  go_enter Try.func18, Try.ntmps18
  go_wp2_with fail
  refine F1.mono ?_
  rintro e w1 ⟨rfl, rfl⟩
  go_wp2_with fail
  go_ret2
  exact ⟨rfl, rfl⟩
set_option maxHeartbeats 1000000 in
theorem last_some {w : World} {B p width most n : Nat} {v : Value} {g : Nat → Int} (h : Tk w B p width most v n g) (hs : 0 < width) (hn : 0 < n) :
    Calls Try.prog 18 #[.pointer (some ⟨p, 0, none⟩)] w fun e w' => e = .returned (.tuple #[.int .i64 (g (n - 1)), .bool true]) ∧ ∃ m, w' = w.drewN m := by
  have F1 := made_yes p width w h.cwidth hs
  have hc := h.clist
  obtain ⟨a, cap, rfl, h1, h2, h3⟩ := h.row
  obtain ⟨b, off, rfl, hx0⟩ := h3 (n - 1) (by omega)
  unfold maxLen at h2
  obtain ⟨k, rfl⟩ : ∃ k, n = k + 1 := ⟨n - 1, by omega⟩
  rw [Nat.add_sub_cancel] at hx0 ⊢
  have hx : w.cell? ⟨b, off + k, none⟩ = some (.int .i64 (g k)) := hx0
  clear hx0
  obtain ⟨x, ex⟩ : ∃ x, g k = x := ⟨_, rfl⟩
  rw [ex] at hx ⊢
  have t : ¬ ((k : Int) + 1 = 0) := by omega
  clear h3 h ex
  go_enter Try.func18, Try.ntmps18
  go_wp2_with fail
  refine F1.mono ?_
  rintro e w1 ⟨rfl, rfl⟩
  go_wp2_with fail
  go_quiet (fail)
  go_wp2_with fail
  go_ret2
  exact ⟨rfl, _, rfl⟩
theorem lastN {w : World} {r : Value} (h : NoWin w r) : Calls Try.prog 18 #[r] w fun e w' => e = .returned (.tuple #[.int .i64 0, .bool false]) ∧ w' = w := by
  have F1 := made_no h
  go_enter Try.func18, Try.ntmps18
  go_wp2_with fail
  refine F1.mono ?_
  rintro e w1 ⟨rfl, rfl⟩
  go_wp2_with fail
  go_ret2
  exact ⟨rfl, rfl⟩

theorem nanC (x : Int) (w : World) : Calls Try.prog 26 #[.int .i64 x] w fun e w' => e = .returned (.bool false) ∧ w' = w := by
  go_enter Try.func26, Try.ntmps26
  go_wp2
  go_ret
  exact ⟨by simp, rfl⟩
theorem nanS (x : Int) (w : World) : Calls Try.prog 25 #[.int .i64 x] w fun e w' => e = .returned (.bool false) ∧ w' = w := by
  go_enter Try.func25, Try.ntmps25
  go_wp2
  go_ret
  exact ⟨by simp, rfl⟩
theorem lessC (x y : Int) (w : World) : Calls Try.prog 24 #[.int .i64 x, .int .i64 y] w fun e w' => e = .returned (.bool (decide (x < y))) ∧ w' = w := by
  have F1 := nanC x w
  go_enter Try.func24, Try.ntmps24
  go_wp2_with fail
  refine F1.mono ?_
  rintro e w1 ⟨rfl, rfl⟩
  go_wp2_with fail
  go_ret
  exact ⟨rfl, rfl⟩
set_option maxRecDepth 1000000 in
set_option maxHeartbeats 2000000 in
/-- BinarySearch among rising numbers tells how many are less. -/
theorem search_any {w : World} {v : Value} {n : Nat} {g : Nat → Int} (h : Row w v n fun i => .int .i64 (g i)) (hn : n ≤ 1000000) (up : ∀ i j, i ≤ j → j < n → g i ≤ g j) (x : Int) (K : Nat) (hK : Cut g n x K) :
    Calls Try.prog 23 #[v, .int .i64 x] w fun e w' => e = .returned (.tuple #[.int .i64 (K : Int), .bool (decide (K < n ∧ g K = x))]) ∧ w' = w := by
  obtain ⟨tb, HB'⟩ : ∃ tb, decide (K < n ∧ g K = x) = tb := ⟨_, rfl⟩
  rw [HB']
  have HB : Hid (decide (K < n ∧ g K = x) = tb) := HB'
  clear HB'
  obtain ⟨a, cap, rfl, h1, h2, h3⟩ := h
  have HS : Hid (∀ i j, i ≤ j → j < n → g i ≤ g j) := up
  have HK : Hid (Cut g n x K) := hK
  clear up hK
  go_enter Try.func23, Try.ntmps23
  go_wp2_with fail
  go_loopg [7, 8] n (fun m a b wr => ∃ lo hi : Nat, a = .int .i64 (lo : Int) ∧ b = .int .i64 (hi : Int) ∧ lo ≤ hi ∧ hi ≤ n ∧ hi - lo ≤ m ∧ wr = w ∧ (∀ j, j < lo → g j < x) ∧ (∀ j, hi ≤ j → j < n → x ≤ g j))
  case atStart => exact ⟨0, n, rfl, rfl, Nat.zero_le _, Nat.le_refl _, by omega, rfl, fun j hj => absurd hj (by omega), fun j hj hj' => absurd hj' (by omega)⟩
  case round =>
    obtain ⟨lo, hi, rfl, rfl, hlh, hin, hg, rfl, hl, hh⟩ := hrel
    have HL : Hid (∀ j, j < lo → g j < x) := hl
    have HH : Hid (∀ j, hi ≤ j → j < n → x ≤ g j) := hh
    clear hl hh
    by_cases hlt : lo < hi
    · obtain ⟨b, off, rfl, hc⟩ := h3 ((lo + hi) / 2) (by omega)
      have F := lessC (g ((lo + hi) / 2)) x wr
      have hc : wr.cell? ⟨b, off + (lo + hi) / 2, none⟩ = some (.int .i64 (g ((lo + hi) / 2))) := hc
      obtain ⟨y, HY'⟩ : ∃ y, g ((lo + hi) / 2) = y := ⟨_, rfl⟩
      rw [HY'] at F hc
      have HY : Hid (g ((lo + hi) / 2) = y) := HY'
      obtain ⟨q, HQ'⟩ : ∃ q, (lo + hi) / 2 = q := ⟨_, rfl⟩
      rw [HQ'] at hc HY
      have e1 : ((lo : Int) + (hi : Int)) / 2 = (q : Int) := by omega
      have t1 : (q : Int) < (n : Int) := by omega
      have HQ : Hid (lo ≤ q ∧ q < hi) := ⟨by omega, by omega⟩
      clear HY' h3 HQ'
      by_cases hyx : y < x
      · rw [decide_eq_true hyx] at F
        go_wp2_with fail
        refine F.mono ?_
        rintro e w1 ⟨rfl, rfl⟩
        go_wp2_with fail
        have q1 := HQ.out.1
        have q2 := HQ.out.2
        go_roundg (hi - (q + 1))
        case measure => omega
        case rel => exact ⟨q + 1, hi, by simp, rfl, by omega, hin, Nat.le_refl _, rfl, fun j hj => by
          have := HS.out j q (by omega) (by omega)
          rw [HY.out] at this
          omega, HH.out⟩
      · rw [decide_eq_false hyx] at F
        go_wp2_with fail
        refine F.mono ?_
        rintro e w1 ⟨rfl, rfl⟩
        go_wp2_with fail
        have q1 := HQ.out.1
        have q2 := HQ.out.2
        go_roundg (q - lo)
        case measure => omega
        case rel => exact ⟨lo, q, rfl, rfl, by omega, by omega, Nat.le_refl _, rfl, HL.out, fun j hj hj' => by
          have := HS.out q j (by omega) (by omega)
          rw [HY.out] at this
          omega⟩
    · obtain rfl : lo = hi := by omega
      obtain rfl : K = lo := HK.out.one ⟨hin, HL.out, HH.out⟩
      by_cases hKn : K < n
      · obtain ⟨b, off, rfl, hc⟩ := h3 K hKn
        have hc : wr.cell? ⟨b, off + K, none⟩ = some (.int .i64 (g K)) := hc
        have t1 : (K : Int) < (n : Int) := by omega
        have F := fun x => nanS x wr
        clear h3
        by_cases e : g K = x
        · obtain rfl : true = tb := by rw [← HB.out]; exact (decide_eq_true ⟨hKn, e⟩).symm
          clear HB HK HL HH HS
          subst e
          generalize g K = y at *
          go_wp2_with fail
          go_ret2
          exact ⟨rfl, rfl⟩
        · obtain rfl : false = tb := by rw [← HB.out]; exact (decide_eq_false (fun c => e c.2)).symm
          clear HB HK HL HH HS
          generalize g K = y at *
          have t2 : (y == x) = false := beq_false_of_ne e
          go_wp2_with fail
          refine (F _).mono ?_
          rintro e w1 ⟨rfl, rfl⟩
          go_wp2_with fail
          go_ret2
          exact ⟨rfl, rfl⟩
      · obtain rfl : false = tb := by rw [← HB.out]; exact (decide_eq_false (fun c => hKn c.1)).symm
        have t1 : ¬ (K : Int) < (n : Int) := by omega
        clear h3 HB
        go_wp2_with fail
        go_ret2
        exact ⟨rfl, rfl⟩
end Go.Proofs.Ytphdjjhocdgofaa
