/-
  Contract of the eighteenth reference's May; what its Move refuses outright.
-/
import Derived.Test.YtbmmokdccfajmaaPoRow
import Derived.Test.YtbmmokdccfajmaaPoSumWalk
namespace Go.Proofs.Ytbmmokdccfajmaa.PO
open Go.ChangeShapes Go.WideShapes Go.ChangeAt Go.RowKit Go.Lib RU

def mayB (z : Int) : Bool := decide (0 ≤ z) && decide (z ≤ 9223372036854775807)
set_option maxRecDepth 100000 in
set_option maxHeartbeats 8000000 in
theorem may_any {B : Nat} {w : World} {r : Bool} {u : Value} {z : Int} {m : Nat} (h : IsNum B w r u z m) : Calls Try.prog 19 #[.agg #[.bool r, u]] w fun e w' => e = .returned (.bool (mayB z)) ∧ Below w.heap.size w w' := by
  obtain ⟨a, n, c, rfl⟩ := num_slice h
  have b0 : Below w.heap.size w (w.alloc (.cells #[.bool r, .slice a n c] 51)) := (Below.refl _ _).alloc (Nat.le_refl _) _
  have F := intR_any r _ z m _ (h.below b0)
  have HB : Hid _ := b0
  clear b0 h
  by_cases hz : -9223372036854775808 ≤ z ∧ z ≤ 9223372036854775807
  · rw [decide_eq_true hz] at F
    rw [show mayB z = decide (0 ≤ z) by unfold mayB; rw [decide_eq_true hz.2, Bool.and_true]]
    go_enter Try.func19, Try.ntmps19
    go_wp2_with fail
    refine F.mono ?_
    rintro e w1 ⟨x, rfl, hb, hx⟩
    obtain rfl := hx hz
    have HB1 : Hid (Below w.heap.size w w1) := HB.out.trans (hb.mono HB.out.size)
    clear hb hz
    go_wp2_with fail
    go_ret
    exact ⟨rfl, HB1.out⟩
  · rw [decide_eq_false hz] at F
    rw [show mayB z = false by unfold mayB; by_cases h0 : 0 ≤ z <;> simp [h0]; omega]
    go_enter Try.func19, Try.ntmps19
    go_wp2_with fail
    refine F.mono ?_
    rintro e w1 ⟨x, rfl, hb, _⟩
    have HB1 : Hid (Below w.heap.size w w1) := HB.out.trans (hb.mono HB.out.size)
    clear hb
    go_wp2_with fail
    go_ret
    exact ⟨rfl, HB1.out⟩
set_option maxRecDepth 100000 in
set_option maxHeartbeats 8000000 in
theorem refMove_bad {w : World} {al : Option Addr} {ln lc : Nat} {nA nS : Int} (xa xs xd xq xp : Int) (xk : Bool) (h : ¬ ((0 ≤ xa ∧ xa < nA ∧ 0 ≤ xs ∧ xs < nS) ∧ (1 ≤ xd ∧ xd ≤ 2) ∧ (1 ≤ xq ∧ xq ≤ 1099511627776) ∧ 1 ≤ xp ∧ xp ≤ 1099511627776)) :
    Calls Try.prog 8 #[.slice al ln lc, .int .i64 nA, .int .i64 nS, .agg #[.int .i64 xa, .int .i64 xs, .int .i64 xd, .int .i64 xq, .int .i64 xp, .bool xk]] w fun e w' => e = .returned (.tuple #[.slice al ln lc, .int .i64 2]) ∧ Below w.heap.size w w' := by
  have HB : Hid (Below w.heap.size w (w.alloc (.cells #[.int .i64 xa, .int .i64 xs, .int .i64 xd, .int .i64 xq, .int .i64 xp, .bool xk] 33))) := (Below.refl _ _).alloc (Nat.le_refl _) _
  by_cases t0 : xa < 0
  · clear h
    go_enter Try.func8, Try.ntmps8
    go_wp2_with fail
    go_ret2
    exact ⟨rfl, HB.out⟩
  by_cases t1 : nA ≤ xa
  · clear h
    go_enter Try.func8, Try.ntmps8
    go_wp2_with fail
    go_ret2
    exact ⟨rfl, HB.out⟩
  by_cases t2 : xs < 0
  · clear h
    go_enter Try.func8, Try.ntmps8
    go_wp2_with fail
    go_ret2
    exact ⟨rfl, HB.out⟩
  by_cases t3 : nS ≤ xs
  · clear h
    go_enter Try.func8, Try.ntmps8
    go_wp2_with fail
    go_ret2
    exact ⟨rfl, HB.out⟩
  by_cases t4 : xd < 1
  · clear h
    go_enter Try.func8, Try.ntmps8
    go_wp2_with fail
    go_ret2
    exact ⟨rfl, HB.out⟩
  by_cases t5 : 2 < xd
  · clear h
    go_enter Try.func8, Try.ntmps8
    go_wp2_with fail
    go_ret2
    exact ⟨rfl, HB.out⟩
  by_cases t6 : xq < 1
  · clear h
    go_enter Try.func8, Try.ntmps8
    go_wp2_with fail
    go_ret2
    exact ⟨rfl, HB.out⟩
  by_cases t7 : (1099511627776 : Int) < xq
  · clear h
    go_enter Try.func8, Try.ntmps8
    go_wp2_with fail
    go_ret2
    exact ⟨rfl, HB.out⟩
  by_cases t8 : xp < 1
  · clear h
    go_enter Try.func8, Try.ntmps8
    go_wp2_with fail
    go_ret2
    exact ⟨rfl, HB.out⟩
  have t9 : (1099511627776 : Int) < xp := by omega
  clear h
  go_enter Try.func8, Try.ntmps8
  go_wp2_with fail
  go_ret2
  exact ⟨rfl, HB.out⟩
end Go.Proofs.Ytbmmokdccfajmaa.PO
