/-
  Contracts of package curve's within, noWeight, sums and its function value, and of the library's IndexFunc and ContainsFunc with noWeight, for every input.
-/
import Derived.Test.YtdacfnodihannaaLists
import Derived.RangeFuncNested
import Derived.RangeFuncBound
import Derived.RangeFuncCalls
import Derived.RangeFuncLeaves
import Derived.Shelf.Abstract
import Derived.Shelf.RegionOpen
import Derived.WalkKit
import Derived.OwnWalkIn
import Derived.TacticsInMore
import Derived.LoopNIn
import Derived.LoopIn
import Derived.ProofKit
import Derived.Outline
import Derived.WalkLawsBesides
namespace Go.Proofs.Ytdacfnodihannaa
open Go.ChangeShapes Go.WideShapes Go.ChangeAt Go.RowKit Go.Shelf

attribute [local go_sem] Oper.semAt_some

theorem within_yes (n a b : Int) (w : World) (h1 : a ≤ n) (h2 : n ≤ b) :
    Calls Try.prog 59 #[.int .i64 n, .int .i64 a, .int .i64 b] w fun e w' => e = .returned (.bool true) ∧ w' = w := by
  go_enter Try.func59, Try.ntmps59
  go_wp2
  go_ret
  exact ⟨by simp, rfl⟩
theorem within_no (n a b : Int) (w : World) (h : n < a ∨ b < n) :
    Calls Try.prog 59 #[.int .i64 n, .int .i64 a, .int .i64 b] w fun e w' => e = .returned (.bool false) ∧ w' = w := by
  by_cases k : a ≤ n
  · have h2 : b < n := by omega
    go_enter Try.func59, Try.ntmps59
    go_wp2
    go_ret
    exact ⟨by simp; omega, rfl⟩
  · have h2 : n < a := by omega
    go_enter Try.func59, Try.ntmps59
    go_wp2
    go_ret
    exact ⟨rfl, rfl⟩
theorem noWeight_no (n : Int) (w : World) (h1 : 0 ≤ n) (h2 : n ≤ 1048576) :
    Calls Try.prog 74 #[.int .i64 n] w fun e w' => e = .returned (.bool false) ∧ w' = w := by
  go_enter Try.func74, Try.ntmps74
  go_wp2_with fail
  refine (within_yes n 0 1048576 _ h1 h2).mono ?_
  rintro e w1 ⟨rfl, rfl⟩
  go_wp2
  go_ret
  exact ⟨rfl, rfl⟩
theorem noWeight_yes (n : Int) (w : World) (h : n < 0 ∨ 1048576 < n) :
    Calls Try.prog 74 #[.int .i64 n] w fun e w' => e = .returned (.bool true) ∧ w' = w := by
  go_enter Try.func74, Try.ntmps74
  go_wp2_with fail
  refine (within_no n 0 1048576 _ h).mono ?_
  rintro e w1 ⟨rfl, rfl⟩
  go_wp2
  go_ret
  exact ⟨rfl, rfl⟩
/-- A number that may be no weight. -/
def bad (n : Int) : Prop := n < 0 ∨ 1048576 < n

set_option maxHeartbeats 1000000 in
theorem curveIndex_any (zs : Nat → Int) (n : Nat) (v : Value) (w : World) (h : Row w v n fun i => .int .i64 (zs i)) :
    Calls Try.prog 79 #[v, .func (.func 74) #[] #[]] w fun e w' => w' = w ∧
      ((e = .returned (.int .i64 (-1)) ∧ ∀ i, i < n → ¬ bad (zs i)) ∨ (∃ k : Nat, k < n ∧ e = .returned (.int .i64 (k : Int)) ∧ bad (zs k))) := by
  obtain ⟨a, cap, rfl, h1, h2, h3⟩ := id h
  unfold maxLen at h2
  go_enter Try.func79, Try.ntmps79
  go_wp2_with fail
  go_loopw [8] (fun c wr => ∃ k : Nat, c = .int .i64 (k : Int) ∧ k ≤ n ∧ (∀ i, i < k → ¬ bad (zs i)) ∧ wr = w) (fun c _ => n - (intOf c).toNat)
  case atStart => exact ⟨0, rfl, Nat.zero_le _, fun i hi => absurd hi (by omega), rfl⟩
  case round =>
    obtain ⟨k, rfl, hk, hg, rfl⟩ := hrel
    by_cases hlt : k < n
    · have t : (k : Int) < (n : Int) := by omega
      obtain ⟨b, off, rfl, hc⟩ := h3 k hlt
      have HG : Hid (∀ i, i < k → ¬ bad (zs i)) := hg
      clear h3 hg
      by_cases hb : bad (zs k)
      · have F := fun w => noWeight_yes (zs k) w hb
        go_wp2_with fail
        refine (F _).mono ?_
        rintro e w1 ⟨rfl, rfl⟩
        go_wp2_with fail
        go_ret
        exact ⟨rfl, .inr ⟨k, hlt, rfl, hb⟩⟩
      · have hb' := hb
        unfold bad at hb'
        have F := fun w => noWeight_no (zs k) w (by omega) (by omega)
        have HB : Hid (¬ bad (zs k)) := hb
        clear hb hb'
        go_wp2_with fail
        refine (F _).mono ?_
        rintro e w1 ⟨rfl, rfl⟩
        go_wp2_with fail
        go_roundw
        case rel => exact ⟨k + 1, by simp, by omega, fun i hi => if e : i = k then e ▸ HB.out else HG.out i (by omega), trivial⟩
        case measure => simp [intOf]; omega
    · have hkn : k = n := by omega
      subst hkn
      have t : ¬ (k : Int) < (k : Int) := by omega
      go_wp2_with fail
      go_ret
      exact ⟨rfl, .inl ⟨rfl, hg⟩⟩
theorem contains_any (zs : Nat → Int) (n : Nat) (v : Value) (w : World) (h : Row w v n fun i => .int .i64 (zs i)) :
    Calls Try.prog 73 #[v, .func (.func 74) #[] #[]] w fun e w' => w' = w ∧
      ((e = .returned (.bool false) ∧ ∀ i, i < n → ¬ bad (zs i)) ∨ (∃ k : Nat, k < n ∧ e = .returned (.bool true) ∧ bad (zs k))) := by
  go_enter Try.func73, Try.ntmps73
  go_wp2_with fail
  refine (curveIndex_any zs n v _ h).mono ?_
  rintro e w1 ⟨rfl, ⟨rfl, hg⟩ | ⟨k, hk, rfl, hb⟩⟩
  · go_wp2_with fail
    go_ret
    exact ⟨rfl, .inl ⟨rfl, hg⟩⟩
  · go_wp2_with fail
    go_ret
    exact ⟨rfl, .inr ⟨k, hk, by simp, hb⟩⟩
theorem sums_any (a : Option Addr) (n cap : Nat) (w : World) :
    Calls Try.prog 75 #[.slice a n cap] w fun e w' => e = .returned (.func (.func 80) #[] #[.pointer (some ⟨w.heap.size, 0, none⟩)]) ∧ w' = w.alloc (.cells #[.slice a n cap] 26) := by
  go_enter Try.func75, Try.ntmps75
  go_wp2
  go_ret
  exact ⟨rfl, rfl⟩

set_option maxRecDepth 100000 in
set_option maxHeartbeats 2000000 in
/-- The function value that sums hands back, for every loop body that keeps what lay below n₀: it tells the sums one by one, to the end or until it is told to stop. -/
theorem sums1_in (F : Fence) (m : Nat) (hf : F.fn 80) (hro : F.round = none) (hm : 1 ≤ m) (l Bs n₀ n cap : Nat) (a : Option Addr) (zs : Nat → Int) (hn : n ≤ 1000000) (hcap : n ≤ cap) (hs : ∀ k, k ≤ n → -9223372036854775808 ≤ sumTo zs k ∧ sumTo zs k ≤ 9223372036854775807) (J Jx : List Nat → World → Prop)
    (hY : ∀ pre x W, J pre W → pre.length < n → YieldAt F (m - 1) Try.prog l #[.int .i64 (sumTo zs x), .int .i64 (sumTo zs (x + 1))] W fun e W' =>
      (e = .returned (.bool true) ∧ J (pre ++ [x]) W' ∧ Below n₀ W W') ∨ (e = .returned (.bool false) ∧ Jx (pre ++ [x]) W'))
    (W : World) (hBs : W.cell? ⟨Bs, 0, none⟩ = some (.slice a n cap)) (h3 : ∀ i, i < n → ∃ b off, a = some ⟨b, off, none⟩ ∧ b < n₀ ∧ W.cell? ⟨b, off + i, none⟩ = some (.int .i64 (zs i))) (h0 : J [] W) :
    CallsIn F m Try.prog 80 #[.func (.yield l) #[] #[], .pointer (some ⟨Bs, 0, none⟩)] W fun e W' => (∃ v, e = .returned v) ∧
      ((∃ ys, ys = List.range n ∧ J ys W') ∨ (∃ pre, (∃ k, k ≤ n ∧ pre = List.range k) ∧ Jx pre W')) := by
  refine callsIn_of_wp Try.func80 rfl hf ?_ hro
  simp only [Try.ntmps80, List.size_toArray, List.length_cons, List.length_nil, Nat.reduceAdd, Nat.reduceSub, Array.replicate_succ, Array.replicate_zero, List.push_toArray, List.append_toArray, List.nil_append, List.cons_append]
  gi_wp2
  gi_loopw [3, 9] (fun s i wr => ∃ k : Nat, k ≤ n ∧ s = .int .i64 (sumTo zs k) ∧ i = .int .i64 (k : Int) ∧ J (List.range k) wr ∧ Below n₀ W wr)
    (fun _ i _ => n - (intOf i).toNat)
  case atStart => exact ⟨0, Nat.zero_le _, rfl, rfl, h0, Below.refl _ _⟩
  case round =>
    obtain ⟨k, hk, rfl, rfl, hJs, hnx⟩ := hrel
    by_cases hlt : k < n
    · obtain ⟨b, off, rfl, hb, hc⟩ := h3 k hlt
      have hcx' : wr.cell? ⟨b, off + k, none⟩ = some (.int .i64 (zs k)) := (hnx.cell (p := ⟨b, off + k, none⟩) hb).trans hc
      obtain ⟨fn, tmps, assign, body, hy, hR⟩ := hY _ k wr hJs (by rw [List.length_range]; exact hlt)
      have hw : sumTo zs (k + 1) = wrap64 (sumTo zs k + zs k) := by
        have := hs (k + 1) (by omega)
        have e : sumTo zs (k + 1) = sumTo zs k + zs k := rfl
        rw [e] at this ⊢
        unfold wrap64; omega
      have HW : Hid (wrap64 (sumTo zs k + zs k) = sumTo zs (k + 1)) := hw.symm
      rw [hw] at hy
      clear hw h3 hc
      gi_wp2
      refine hR.mono ?_
      rintro e W3 (⟨rfl, hJ3, hk3⟩ | ⟨rfl, hJx3⟩)
      · gi_wp2
        go_roundw
        case rel => exact ⟨k + 1, by omega, by rw [HW.out], by simp, by rw [List.range_succ]; exact hJ3, hnx.trans hk3⟩
        case measure => simp [intOf]; omega
      · gi_wp2
        refine bodyPost_ret (results_none rfl _ _ _) rfl ?_
        exact ⟨⟨_, rfl⟩, .inr ⟨_, ⟨k + 1, by omega, List.range_succ.symm⟩, hJx3⟩⟩
    · obtain rfl : k = n := by omega
      gi_wp2
      go_end0
      exact ⟨⟨_, rfl⟩, .inl ⟨_, rfl, hJs⟩⟩
end Go.Proofs.Ytdacfnodihannaa
