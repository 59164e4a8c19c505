/-
  The contract of the third reference's Right.
-/
import Derived.Test.YtepkmbpadhfbmaaGreatDoorGF
import Derived.Test.YtepkmbpadhfbmaaGreatDoorGL
namespace Go.Proofs.YtepkmbpadhfbmaaGreatDoor
open Go.ChangeShapes Go.WideShapes Go.ChangeAt Go.RowKit

theorem wrap_in12 (x : Int) (h1 : -9223372036854775808 ≤ x) (h2 : x ≤ 9223372036854775807) : wrap64 x = x := by unfold wrap64; omega
theorem step_sum (zs : Nat → Int) (k : Nat) (hk : k < 64) (h : ∀ i, i < k + 1 → ¬ bad (zs i)) : 0 ≤ sumTo zs k ∧ sumTo zs k ≤ 1048576 * (k : Int) ∧ wrap64 (sumTo zs k + zs k) = sumTo zs (k + 1) := by
  have hb : ∀ j, j ≤ k → 0 ≤ sumTo zs j ∧ sumTo zs j ≤ 1048576 * (j : Int) := by
    intro j
    induction j with
    | zero => intro _; simp [sumTo]
    | succ j ih =>
      intro hj
      have a := ih (by omega)
      have b := h j (by omega)
      unfold bad at b
      simp only [sumTo]
      omega
  have a := hb k (Nat.le_refl _)
  have b := h k (by omega)
  unfold bad at b
  refine ⟨a.1, a.2, ?_⟩
  show wrap64 (sumTo zs k + zs k) = sumTo zs k + zs k
  exact wrap_in12 _ (by omega) (by omega)

/-- A bool that says whether p. -/
def Tells3 (e : Ending) (p : Prop) : Prop := ∃ b : Bool, e = .returned (.bool b) ∧ (b = true ↔ p)
theorem tells_no {p : Prop} (h : ¬ p) : Tells3 (.returned (.bool false)) p := ⟨false, rfl, by simp [h]⟩

set_option maxHeartbeats 1000000 in
theorem ref3Right_tells (zs : Nat → Int) (n : Nat) (v : Value) (w : World) (h : Row w v n fun i => .int .i64 (zs i)) (hb : ∀ i, n ≤ i → zs i = 0) :
    Calls Tryz.prog 56 #[v] w fun e w' => Tells3 e (Curve zs n) ∧ w' = w := by
  obtain ⟨a, cap, rfl, h1, h2, h3⟩ := id h
  unfold maxLen at h2
  rcases Nat.eq_zero_or_pos n with rfl | hp
  · go_enter Tryz.func56, Tryz.ntmps56
    go_wp2_with fail
    go_ret
    exact ⟨tells_no (fun hc => by have := hc.some; simp [sumTo] at this), rfl⟩
  have t1 : ¬ (n : Int) < 1 := by omega
  by_cases hn : 64 < n
  · have t2 : (64 : Int) < (n : Int) := by omega
    go_enter Tryz.func56, Tryz.ntmps56
    go_wp2_with fail
    go_ret
    exact ⟨tells_no (fun hc => by have := hc.len; omega), rfl⟩
  have t2 : ¬ (64 : Int) < (n : Int) := by omega
  go_enter Tryz.func56, Tryz.ntmps56
  go_wp2_with fail
  go_loopw [3, 4] (fun s c wr => ∃ k : Nat, s = .int .i64 (sumTo zs k) ∧ c = .int .i64 (k : Int) ∧ k ≤ n ∧ Hid (∀ i, i < k → ¬ bad (zs i)) ∧ wr = w) (fun _ c _ => n - (intOf c).toNat)
  case atStart => exact ⟨0, rfl, rfl, Nat.zero_le _, fun i hi => absurd hi (by omega), rfl⟩
  case round =>
    obtain ⟨k, rfl, rfl, hk, hg, rfl⟩ := hrel
    by_cases hlt : k < n
    · have t : (k : Int) < (n : Int) := by omega
      obtain ⟨b, off, rfl, hc⟩ := h3 k hlt
      clear h3
      by_cases hz : bad (zs k)
      · have HN : Hid (¬ Curve zs n) := fun hc => by have := hc.each k; unfold bad at hz; omega
        unfold bad at hz
        by_cases h0 : zs k < 0
        · go_wp2_with fail
          go_ret
          exact ⟨tells_no HN.out, rfl⟩
        · have h4 : 1048576 < zs k := by omega
          clear hz
          go_wp2_with fail
          go_ret
          exact ⟨tells_no HN.out, rfl⟩
      · have hg' : ∀ i, i < k + 1 → ¬ bad (zs i) := fun i hi => if e : i = k then e ▸ hz else hg.out i (by omega)
        have HG : Hid (∀ i, i < k + 1 → ¬ bad (zs i)) := hg'
        have hw := (step_sum zs k (by omega) hg').2.2
        have HW : Hid (wrap64 (sumTo zs k + zs k) = sumTo zs (k + 1)) := hw
        clear hw hg' hg
        unfold bad at hz
        have h0 : ¬ zs k < 0 := by omega
        have h4 : ¬ 1048576 < zs k := by omega
        clear hz
        go_wp2_with fail
        go_roundw
        case rel => exact ⟨k + 1, by rw [HW.out], by simp, by omega, HG, trivial⟩
        case measure => simp [intOf]; omega
    · have hkn : k = n := by omega
      subst hkn
      have t : ¬ (k : Int) < (k : Int) := by omega
      go_wp2_with fail
      go_ret
      refine ⟨⟨_, rfl, ?_⟩, rfl⟩
      simp only [decide_eq_true_eq]
      refine ⟨fun hp => ⟨by omega, fun i => ?_, hb, hp⟩, fun hc => hc.some⟩
      by_cases hi : i < k
      · have := hg.out i hi; unfold bad at this; omega
      · rw [hb i (by omega)]; omega
theorem ref3Right_yes (zs : Nat → Int) (n : Nat) (v : Value) (w : World) (h : Row w v n fun i => .int .i64 (zs i)) (hc : Curve zs n) :
    Calls Tryz.prog 56 #[v] w fun e w' => e = .returned (.bool true) ∧ w' = w :=
  (ref3Right_tells zs n v w h hc.beyond).mono fun _ _ ⟨⟨b, he, hb⟩, hw⟩ => ⟨by rw [he, hb.2 hc], hw⟩
theorem ref3Right_no (zs : Nat → Int) (n : Nat) (v : Value) (w : World) (h : Row w v n fun i => .int .i64 (zs i)) (hb : ∀ i, n ≤ i → zs i = 0) (hc : ¬ Curve zs n) :
    Calls Tryz.prog 56 #[v] w fun e w' => e = .returned (.bool false) ∧ w' = w :=
  (ref3Right_tells zs n v w h hb).mono fun _ _ ⟨⟨b, he, hb⟩, hw⟩ => ⟨by
    cases b with
    | false => exact he
    | true => exact absurd (hb.1 rfl) hc, hw⟩

theorem ref3Right_any (l : List Int) (v : Value) (w : World) (h : Row w v l.length fun i => .int .i64 (l.getD i 0)) :
    Calls Tryz.prog 56 #[v] w fun e w' => e = .returned (.bool (curB l)) ∧ w' = w := by
  cases hc : curB l with
  | true => exact ref3Right_yes _ l.length v w h ((curve_iff l).2 hc)
  | false => exact ref3Right_no _ l.length v w h (fun i hi => getD_beyond hi) (fun k => by rw [(curve_iff l).1 k] at hc; simp at hc)
end Go.Proofs.YtepkmbpadhfbmaaGreatDoor
/-
  The contract of the reference's Whole.
-/
namespace Go.Proofs.YtepkmbpadhfbmaaGreatDoor
open Go.ChangeShapes Go.WideShapes Go.ChangeAt Go.RowKit Go.Lib

set_option maxHeartbeats 1000000 in
theorem refIn_any (n low high : Int) (w : World) :
    Calls Tryz.prog 25 #[.int .i64 n, .int .i64 low, .int .i64 high] w fun e w' => e = .returned (.bool (inB n low high)) ∧ w' = w := by
  by_cases h1 : low ≤ n
  · by_cases h2 : n ≤ high
    · rw [inB_true.2 ⟨h1, h2⟩]
      go_enter Tryz.func25, Tryz.ntmps25
      go_wp2
      go_ret
      exact ⟨rfl, rfl⟩
    · rw [inB_false.2 (.inr (by omega))]
      go_enter Tryz.func25, Tryz.ntmps25
      go_wp2
      go_ret
      exact ⟨rfl, rfl⟩
  · rw [inB_false.2 (.inl (by omega))]
    go_enter Tryz.func25, Tryz.ntmps25
    go_wp2
    go_ret
    exact ⟨rfl, rfl⟩
theorem boxR_below (w : World) (k : Int) (i t c s : ByteArray) (sd q p al st en ra sh : Int) (cv : Value) : Below w.heap.size w (boxR w k i t c s sd q p al st en ra sh cv) := (Below.refl _ w).alloc (Nat.le_refl _) _
theorem AskAt.boxR (w : World) (k : Int) (i t c s : ByteArray) (sd q p al st en ra sh : Int) (cv : Value) : AskAt (boxR w k i t c s sd q p al st en ra sh cv) w.heap.size k i t c s sd q p al st en ra sh cv := by
  refine ⟨?_, ?_, ?_, ?_, ?_, ?_, ?_, ?_, ?_, ?_, ?_, ?_, ?_, ?_⟩ <;> simp
/-- What fields are together: a tag, an error's number. -/
def wholeB (k al st en : Int) (cb : Bool) : Int × Int := if k = 1 ∧ inB (en - st) 1 1073741824 = false then (5003, 282) else if k = 1 ∧ al = 2 ∧ cb = false then (5006, 30) else (0, 0)
set_option maxHeartbeats 8000000 in
theorem refWhole_at (k : Int) (i t c s : ByteArray) (sd q p al st en ra sh : Int) (a : Option Addr) (n cap : Nat) (cb : Bool) (w : World) (hb : k = 1 → -9223372036854775808 ≤ en - st ∧ en - st ≤ 9223372036854775807)
    (FC0 : ∀ w1, Below w.heap.size w w1 → Calls Tryz.prog 56 #[.slice a n cap] w1 fun e w' => e = .returned (.bool cb) ∧ w' = w1) :
    Calls Tryz.prog 28 #[.agg #[.int .i64 k, .string i, .string t, .string c, .string s, .int .i64 sd, .int .i64 q, .int .i64 p, .int .i64 al, .int .i64 st, .int .i64 en, .int .i64 ra, .int .i64 sh, .slice a n cap]] w fun e w' => e = .returned (.tuple #[.int .i64 (wholeB k al st en cb).1, .int .i64 (wholeB k al st en cb).2]) ∧ Below w.heap.size w w' := by
  have B0 := boxR_below w k i t c s sd q p al st en ra sh (.slice a n cap)
  have FC := FC0 _ B0
  have HB : Hid (Below w.heap.size w (boxR w k i t c s sd q p al st en ra sh (.slice a n cap))) := B0
  clear B0 FC0
  by_cases h1 : k = 1
  case neg =>
    have g1 : (k == 1) = false := beq_false_of_ne h1
    rw [show wholeB k al st en cb = (0, 0) by unfold wholeB; rw [if_neg (fun e => h1 e.1), if_neg (fun e => h1 e.1)]]
    clear FC h1 hb
    go_enter Tryz.func28, Tryz.ntmps28
    go_wp2_with fail
    go_ret2
    exact ⟨rfl, HB.out⟩
  have g1 : (k == 1) = true := beq_iff_eq.2 h1
  have bd := hb h1
  have FI := fun w => refIn_any (en - st) 1 1073741824 w
  cases hs : inB (en - st) 1 1073741824
  case false =>
    rw [show wholeB k al st en cb = (5003, 282) by unfold wholeB; rw [if_pos ⟨h1, hs⟩]]
    rw [hs] at FI
    clear FC h1 hb hs
    go_enter Tryz.func28, Tryz.ntmps28
    go_wp2_with fail
    refine (FI _).mono ?_
    rintro e w' ⟨rfl, rfl⟩
    go_wp2_with fail
    go_ret2
    exact ⟨rfl, HB.out⟩
  rw [hs] at FI
  by_cases h2 : al = 2
  case neg =>
    have g2 : (al == 2) = false := beq_false_of_ne h2
    rw [show wholeB k al st en cb = (0, 0) by unfold wholeB; rw [if_neg (by rw [hs]; simp), if_neg (fun e => h2 e.2.1)]]
    clear FC h1 hb hs h2
    go_enter Tryz.func28, Tryz.ntmps28
    go_wp2_with fail
    refine (FI _).mono ?_
    rintro e w' ⟨rfl, rfl⟩
    go_wp2_with fail
    go_ret2
    exact ⟨rfl, HB.out⟩
  have g2 : (al == 2) = true := beq_iff_eq.2 h2
  cases hc : cb
  case false =>
    rw [show wholeB k al st en false = (5006, 30) by unfold wholeB; rw [if_neg (by rw [hs]; simp), if_pos ⟨h1, h2, rfl⟩]]
    rw [hc] at FC
    clear h1 hb hs h2 hc
    go_enter Tryz.func28, Tryz.ntmps28
    go_wp2_with fail
    refine (FI _).mono ?_
    rintro e w' ⟨rfl, rfl⟩
    go_wp2_with fail
    refine FC.mono ?_
    rintro e w' ⟨rfl, rfl⟩
    go_wp2_with fail
    go_ret2
    exact ⟨rfl, HB.out⟩
  rw [show wholeB k al st en true = (0, 0) by unfold wholeB; rw [if_neg (by rw [hs]; simp), if_neg (by simp)]]
  rw [hc] at FC
  clear h1 hb hs h2 hc
  go_enter Tryz.func28, Tryz.ntmps28
  go_wp2_with fail
  refine (FI _).mono ?_
  rintro e w' ⟨rfl, rfl⟩
  go_wp2_with fail
  refine FC.mono ?_
  rintro e w' ⟨rfl, rfl⟩
  go_wp2_with fail
  go_ret2
  exact ⟨rfl, HB.out⟩
end Go.Proofs.YtepkmbpadhfbmaaGreatDoor
