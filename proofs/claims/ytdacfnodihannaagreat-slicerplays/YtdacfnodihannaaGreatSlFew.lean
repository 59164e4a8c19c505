/-
  The contract of the law's few.
-/
import Derived.Test.YtdacfnodihannaaGreatAskSame
namespace Go.Proofs.YtdacfnodihannaaGreat
open Go.ChangeShapes Go.WideShapes Go.ChangeAt Go.RowKit Go.Lib

/-- An ask that a play goes through with. -/
def few27 (i t c s : ByteArray) (n : Nat) : Bool := decide ((i.size : Int) ≤ 100) && (decide ((c.size : Int) ≤ 100) && (decide ((s.size : Int) ≤ 100) && (decide ((n : Int) ≤ 100) && decide ((t.size : Int) ≤ 100))))
theorem few27_of {i t c s : ByteArray} {n : Nat} (h : few27 i t c s n = true) : i.size ≤ 100 ∧ t.size ≤ 100 ∧ c.size ≤ 100 ∧ s.size ≤ 100 ∧ n ≤ 100 := by
  unfold few27 at h
  simp only [Bool.and_eq_true, decide_eq_true_eq] at h
  omega
set_option maxHeartbeats 4000000 in
theorem few27_any (k : Int) (i t c s : ByteArray) (sd q p al st en ra sh : Int) (a : Option Addr) (n cap : Nat) (w : World) :
    Calls Tryz.prog 5 #[.agg #[.int .i64 k, .string i, .string t, .string c, .string s, .int .i64 sd, .int .i64 q, .int .i64 p, .int .i64 al, .int .i64 st, .int .i64 en, .int .i64 ra, .int .i64 sh, .slice a n cap]] w fun e w' => e = .returned (.bool (few27 i t c s n)) ∧ Below w.heap.size w w' := by
  have B := boxA_below w k i t c s sd q p al st en ra sh (.slice a n cap)
  cases h0 : decide ((i.size : Int) ≤ 100)
  case false =>
    rw [show few27 i t c s n = false by unfold few27; rw [h0]; rfl]
    go_enter Tryz.func5, Tryz.ntmps5
    go_wp2_with fail
    go_ret
    exact ⟨rfl, B⟩
  cases h1 : decide ((c.size : Int) ≤ 100)
  case false =>
    rw [show few27 i t c s n = false by unfold few27; rw [h0, h1]; rfl]
    go_enter Tryz.func5, Tryz.ntmps5
    go_wp2_with fail
    go_ret
    exact ⟨rfl, B⟩
  cases h2 : decide ((s.size : Int) ≤ 100)
  case false =>
    rw [show few27 i t c s n = false by unfold few27; rw [h0, h1, h2]; rfl]
    go_enter Tryz.func5, Tryz.ntmps5
    go_wp2_with fail
    go_ret
    exact ⟨rfl, B⟩
  cases h3 : decide ((n : Int) ≤ 100)
  case false =>
    rw [show few27 i t c s n = false by unfold few27; rw [h0, h1, h2, h3]; rfl]
    go_enter Tryz.func5, Tryz.ntmps5
    go_wp2_with fail
    go_ret
    exact ⟨rfl, B⟩
  cases h4 : decide ((t.size : Int) ≤ 100)
  case false =>
    rw [show few27 i t c s n = false by unfold few27; rw [h0, h1, h2, h3, h4]; rfl]
    go_enter Tryz.func5, Tryz.ntmps5
    go_wp2_with fail
    go_ret
    exact ⟨rfl, B⟩
  rw [show few27 i t c s n = true by unfold few27; rw [h0, h1, h2, h3, h4]; rfl]
  go_enter Tryz.func5, Tryz.ntmps5
  go_wp2_with fail
  go_ret
  exact ⟨rfl, B⟩
end Go.Proofs.YtdacfnodihannaaGreat
