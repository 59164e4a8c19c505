/-
  The contract of the reference's Whole.
-/
import Derived.Test.YtdacfnodihannaaGreatAskSame
import Derived.Test.YtdacfnodihannaaGreatRef3Right
namespace Go.Proofs.YtdacfnodihannaaGreat
open Go.ChangeShapes Go.WideShapes Go.ChangeAt Go.RowKit Go.Lib

set_option maxHeartbeats 1000000 in
theorem refIn_any (n low high : Int) (w : World) :
    Calls Tryz.prog 41 #[.int .i64 n, .int .i64 low, .int .i64 high] w fun e w' => e = .returned (.bool (inB n low high)) ∧ w' = w := by
  by_cases h1 : low ≤ n
  · by_cases h2 : n ≤ high
    · rw [inB_true.2 ⟨h1, h2⟩]
      go_enter Tryz.func41, Tryz.ntmps41
      go_wp2
      go_ret
      exact ⟨rfl, rfl⟩
    · rw [inB_false.2 (.inr (by omega))]
      go_enter Tryz.func41, Tryz.ntmps41
      go_wp2
      go_ret
      exact ⟨rfl, rfl⟩
  · rw [inB_false.2 (.inl (by omega))]
    go_enter Tryz.func41, Tryz.ntmps41
    go_wp2
    go_ret
    exact ⟨rfl, rfl⟩
theorem boxR_below (w : World) (k : Int) (i t c s : ByteArray) (sd q p al st en ra sh : Int) (cv : Value) : Below w.heap.size w (boxR w k i t c s sd q p al st en ra sh cv) := (Below.refl _ w).alloc (Nat.le_refl _) _
theorem AskAt.boxR (w : World) (k : Int) (i t c s : ByteArray) (sd q p al st en ra sh : Int) (cv : Value) : AskAt (boxR w k i t c s sd q p al st en ra sh cv) w.heap.size k i t c s sd q p al st en ra sh cv := by
  refine ⟨?_, ?_, ?_, ?_, ?_, ?_, ?_, ?_, ?_, ?_, ?_, ?_, ?_, ?_⟩ <;> simp
/-- What fields are together: a tag, an error's number. -/
def wholeB (k al st en : Int) (cb : Bool) : Int × Int := if k = 1 ∧ inB (en - st) 1 1073741824 = false then (5003, 282) else if k = 1 ∧ al = 2 ∧ cb = false then (5006, 30) else (0, 0)
set_option maxHeartbeats 8000000 in
theorem refWhole_at (k : Int) (i t c s : ByteArray) (sd q p al st en ra sh : Int) (a : Option Addr) (n cap : Nat) (cb : Bool) (w : World) (hb : k = 1 → -9223372036854775808 ≤ en - st ∧ en - st ≤ 9223372036854775807)
    (FC0 : ∀ w1, Below w.heap.size w w1 → Calls Tryz.prog 50 #[.slice a n cap] w1 fun e w' => e = .returned (.bool cb) ∧ w' = w1) :
    Calls Tryz.prog 44 #[.agg #[.int .i64 k, .string i, .string t, .string c, .string s, .int .i64 sd, .int .i64 q, .int .i64 p, .int .i64 al, .int .i64 st, .int .i64 en, .int .i64 ra, .int .i64 sh, .slice a n cap]] w fun e w' => e = .returned (.tuple #[.int .i64 (wholeB k al st en cb).1, .int .i64 (wholeB k al st en cb).2]) ∧ Below w.heap.size w w' := by
  have B0 := boxR_below w k i t c s sd q p al st en ra sh (.slice a n cap)
  have FC := FC0 _ B0
  have HB : Hid (Below w.heap.size w (boxR w k i t c s sd q p al st en ra sh (.slice a n cap))) := B0
  clear B0 FC0
  by_cases h1 : k = 1
  case neg =>
    have g1 : (k == 1) = false := beq_false_of_ne h1
    rw [show wholeB k al st en cb = (0, 0) by unfold wholeB; rw [if_neg (fun e => h1 e.1), if_neg (fun e => h1 e.1)]]
    clear FC h1 hb
    go_enter Tryz.func44, Tryz.ntmps44
    go_wp2_with fail
    go_ret2
    exact ⟨rfl, HB.out⟩
  have g1 : (k == 1) = true := beq_iff_eq.2 h1
  have bd := hb h1
  have FI := fun w => refIn_any (en - st) 1 1073741824 w
  cases hs : inB (en - st) 1 1073741824
  case false =>
    rw [show wholeB k al st en cb = (5003, 282) by unfold wholeB; rw [if_pos ⟨h1, hs⟩]]
    rw [hs] at FI
    clear FC h1 hb hs
    go_enter Tryz.func44, Tryz.ntmps44
    go_wp2_with fail
    refine (FI _).mono ?_
    rintro e w' ⟨rfl, rfl⟩
    go_wp2_with fail
    go_ret2
    exact ⟨rfl, HB.out⟩
  rw [hs] at FI
  by_cases h2 : al = 2
  case neg =>
    have g2 : (al == 2) = false := beq_false_of_ne h2
    rw [show wholeB k al st en cb = (0, 0) by unfold wholeB; rw [if_neg (by rw [hs]; simp), if_neg (fun e => h2 e.2.1)]]
    clear FC h1 hb hs h2
    go_enter Tryz.func44, Tryz.ntmps44
    go_wp2_with fail
    refine (FI _).mono ?_
    rintro e w' ⟨rfl, rfl⟩
    go_wp2_with fail
    go_ret2
    exact ⟨rfl, HB.out⟩
  have g2 : (al == 2) = true := beq_iff_eq.2 h2
  cases hc : cb
  case false =>
    rw [show wholeB k al st en false = (5006, 30) by unfold wholeB; rw [if_neg (by rw [hs]; simp), if_pos ⟨h1, h2, rfl⟩]]
    rw [hc] at FC
    clear h1 hb hs h2 hc
    go_enter Tryz.func44, Tryz.ntmps44
    go_wp2_with fail
    refine (FI _).mono ?_
    rintro e w' ⟨rfl, rfl⟩
    go_wp2_with fail
    refine FC.mono ?_
    rintro e w' ⟨rfl, rfl⟩
    go_wp2_with fail
    go_ret2
    exact ⟨rfl, HB.out⟩
  rw [show wholeB k al st en true = (0, 0) by unfold wholeB; rw [if_neg (by rw [hs]; simp), if_neg (by simp)]]
  rw [hc] at FC
  clear h1 hb hs h2 hc
  go_enter Tryz.func44, Tryz.ntmps44
  go_wp2_with fail
  refine (FI _).mono ?_
  rintro e w' ⟨rfl, rfl⟩
  go_wp2_with fail
  refine FC.mono ?_
  rintro e w' ⟨rfl, rfl⟩
  go_wp2_with fail
  go_ret2
  exact ⟨rfl, HB.out⟩
end Go.Proofs.YtdacfnodihannaaGreat
