/-
  Contracts of package grain's steps: brought, Floor, Ceil and On, for every input.
-/
import Derived.Test.YtdacfnodihannaaGreatKA
namespace Go.Proofs.YtdacfnodihannaaGreat
open Go.ChangeShapes Go.WideShapes Go.ChangeAt Go.RowKit

theorem ceil1_any (r s q : Int) (hq : Hid ((s - r) % s = q)) (B : Nat) (w : World) (hc : w.cell? ⟨B, 0, none⟩ = some (.int .i64 s)) (r1 : 0 ≤ r) (r2 : r < s) (s2 : s ≤ 9223372036854775807) :
    Calls Tryz.prog 83 #[.int .i64 r, .pointer (some ⟨B, 0, none⟩)] w fun e w' => e = .returned (.int .i64 q) ∧ w' = w := by
  go_enter Tryz.func83, Tryz.ntmps83
  go_wp2
  go_ret
  exact ⟨by rw [← hq.out]; rfl, rfl⟩
/-- What Floor and Ceil answer. -/
abbrev stepBad (n s : Int) : Prop := s < 1 ∨ n < 0
def flN (n s : Int) : Int := if stepBad n s then 0 else n - n % s
def flE (n s : Int) : Int := if stepBad n s then 2 else 0
def ceV (n s : Int) : Int := n + (s - n % s) % s
def ceN (n s : Int) : Int := if stepBad n s then 0 else ansN (ceV n s)
def ceE (n s : Int) : Int := if stepBad n s then 2 else ansE (ceV n s)

theorem ans_is (z : Int) (k : -9223372036854775808 ≤ z ∧ z ≤ 9223372036854775807) : ansN z = z ∧ ansE z = 0 := by
  unfold ansN ansE; exact ⟨if_pos k, if_pos k⟩
theorem brought_bad (n s : Int) (f : Value) (w : World) (h : stepBad n s) :
    Calls Tryz.prog 82 #[.int .i64 n, .int .i64 s, f] w fun e w' => e = .returned (.tuple #[.int .i64 0, .int .i64 2]) ∧ w' = w := by
  unfold stepBad at h
  by_cases k : s < 1
  all_goals
    go_enter Tryz.func82, Tryz.ntmps82
    go_wp2
    go_ret2
    exact ⟨rfl, rfl⟩
set_option maxHeartbeats 800000 in
theorem brought_ceil (n s : Int) (B : Nat) (w : World) (hc : w.cell? ⟨B, 0, none⟩ = some (.int .i64 s)) (h : ¬ stepBad n s) (n2 : n ≤ 9223372036854775807) (s2 : s ≤ 9223372036854775807) :
    Calls Tryz.prog 82 #[.int .i64 n, .int .i64 s, .func (.func 83) #[] #[.pointer (some ⟨B, 0, none⟩)]] w fun e w' => e = .returned (.tuple #[.int .i64 (ansN (ceV n s)), .int .i64 (ansE (ceV n s))]) ∧ Below w.heap.size w w' := by
  unfold stepBad at h
  have m0 : 0 ≤ n % s := Int.emod_nonneg _ (by omega)
  have m1 : n % s < s := Int.emod_lt_of_pos _ (by omega)
  obtain ⟨q, hq⟩ : ∃ q, (s - n % s) % s = q := ⟨_, rfl⟩
  have m3 : 0 ≤ q := by rw [← hq]; exact Int.emod_nonneg _ (by omega)
  have m4 : q < s := by rw [← hq]; exact Int.emod_lt_of_pos _ (by omega)
  have e1 : ceV n s = n + q := by unfold ceV; rw [hq]
  rw [e1]
  replace hq : Hid ((s - n % s) % s = q) := hq
  clear e1
  go_enter Tryz.func82, Tryz.ntmps82
  go_wp2_with fail
  refine (ceil1_any (n % s) s q hq B _ hc m0 m1 s2).mono ?_
  rintro e w1 ⟨rfl, rfl⟩
  go_wp2_with fail
  refine (add_any n q _ (by omega) (by omega) (by omega) (by omega)).mono ?_
  rintro e w2 ⟨rfl, hb⟩
  go_wp2
  go_ret2
  exact ⟨rfl, hb⟩
theorem ceil_any (n s : Int) (w : World) (n2 : n ≤ 9223372036854775807) (s2 : s ≤ 9223372036854775807) :
    Calls Tryz.prog 56 #[.int .i64 n, .int .i64 s] w fun e w' => e = .returned (.tuple #[.int .i64 (ceN n s), .int .i64 (ceE n s)]) ∧ Below w.heap.size w w' := by
  unfold ceN ceE
  have hc : (w.alloc (.cells #[.int .i64 s] 3)).cell? ⟨w.heap.size, 0, none⟩ = some (.int .i64 s) := by simp
  by_cases h : stepBad n s
  · rw [if_pos h, if_pos h]
    go_enter Tryz.func56, Tryz.ntmps56
    go_wp2_with (go_at_call 82; refine (brought_bad n s _ _ h).mono ?_; rintro e w1 ⟨rfl, rfl⟩)
    go_ret2
    exact ⟨rfl, Below.alloc (Below.refl _ _) (Nat.le_refl _) _⟩
  · rw [if_neg h, if_neg h]
    go_enter Tryz.func56, Tryz.ntmps56
    go_wp2_with (go_at_call 82; refine (brought_ceil n s _ _ hc h n2 s2).mono ?_; rintro e w1 ⟨rfl, hb⟩)
    go_ret2
    exact ⟨rfl, (Below.alloc (Below.refl _ _) (Nat.le_refl _) _).trans (hb.mono (by simp))⟩
end Go.Proofs.YtdacfnodihannaaGreat
