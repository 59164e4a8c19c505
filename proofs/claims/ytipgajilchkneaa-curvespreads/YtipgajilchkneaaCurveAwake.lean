/-
  Contracts of the reference's Same (of two lists that are the same) and of the statements' awake: the chapter's examples hold.
-/
import Derived.Test.YtipgajilchkneaaCurveSpread
import Derived.BigQuiet
namespace Go.Proofs.Ytipgajilchkneaa
open Go.ChangeShapes Go.WideShapes Go.ChangeAt Go.RowKit

set_option maxHeartbeats 1000000 in
theorem same_yes (zs : Nat → Int) (n : Nat) (u v : Value) (w : World) (hn : n ≤ 1000) (hu : Row w u n fun i => .int .i64 (zs i)) (hv : Row w v n fun i => .int .i64 (zs i)) :
    Calls Try.prog 19 #[u, v] w fun e w' => e = .returned (.bool true) ∧ Below w.heap.size w w' := by
  obtain ⟨a, cap, rfl, h1, h2, h3⟩ := id hu
  obtain ⟨b, cap', rfl, k1, k2, k3⟩ := id hv
  unfold maxLen at h2 k2
  go_enter Try.func19, Try.ntmps19
  go_wp2_with fail
  go_loopw [5] (fun c wr => ∃ k : Nat, c = .int .i64 (k : Int) ∧ k ≤ n ∧ Below w.heap.size w wr) (fun c _ => n - (intOf c).toNat)
  case atStart => exact ⟨0, rfl, Nat.zero_le _, Below.refl _ _⟩
  case round =>
    obtain ⟨k, rfl, hk, hB⟩ := hrel
    by_cases hlt : k < n
    · have t : (k : Int) < (n : Int) := by omega
      obtain ⟨b1, off1, rfl, c1⟩ := h3 k hlt
      obtain ⟨b2, off2, rfl, c2⟩ := k3 k hlt
      have d1 := (hB.cell (World.block_lt_of_cell? _ _ c1)).trans c1
      have d2 := (hB.cell (World.block_lt_of_cell? _ _ c2)).trans c2
      clear h3 k3 c1 c2
      go_wp2_with fail
      go_quiet (fail)
      go_wp2_with fail
      go_roundw
      case rel => exact ⟨k + 1, by simp, by omega, ⟨hB.os, hB.tape, hB.output, hB.size, hB.block⟩⟩
      case measure => simp [intOf]; omega
    · have hkn : k = n := by omega
      subst hkn
      have t : ¬ (k : Int) < (k : Int) := by omega
      go_wp2_with fail
      go_ret
      exact ⟨rfl, hB⟩

/-- A list of two. -/
def two (x y : Int) (i : Nat) : Int := if i = 0 then x else if i = 1 then y else 0
theorem two_row (w : World) (x y : Int) : Row (w.alloc (.cells #[.int .i64 x, .int .i64 y] 3)) (.slice (some ⟨w.heap.size, 0, none⟩) 2 2) 2 fun i => .int .i64 (two x y i) := by
  refine ⟨_, 2, rfl, Nat.le_refl _, by unfold maxLen; omega, fun i hi => ⟨w.heap.size, 0, rfl, ?_⟩⟩
  have : i = 0 ∨ i = 1 := by omega
  rcases this with rfl | rfl
  · simp [two, World.cell?_alloc_at]
  · simp [two, World.cell?_alloc_at]
theorem two_curve : Curve (two 1 3) 2 where
  len := by omega
  each := fun i => by unfold two; split <;> (try split) <;> omega
  beyond := fun i hi => by unfold two; rw [if_neg (by omega), if_neg (by omega)]
  some := by decide

set_option maxHeartbeats 1000000 in
theorem awake3_any (w : World) : Calls Try.prog 8 #[] w fun e w' => e = .returned (.bool true) ∧ Below w.heap.size w w' := by
  have T := fun v w h => target_right 10 (two 1 3) 2 v w h two_curve 6 8 (by unfold Asked; omega) (by omega) (by omega) 6 (by show _ = _; decide)
  have P := fun v w h => spread_right 10 (two 1 3) 2 v w h two_curve (by omega) (by omega)
  have A : ∀ (w : World) (o : Obj), Below w.heap.size w (w.alloc o) := fun w o => (Below.refl _ w).alloc (Nat.le_refl _) _
  go_enter Try.func8, Try.ntmps8
  go_wp2_with fail
  refine (T _ _ (two_row w 1 3)).mono ?_
  rintro e w1 ⟨rfl, hb1⟩
  have B1 := (A w _).trans (hb1.mono (by simp))
  have s1 := B1.size
  clear hb1
  go_wp2_with fail
  refine (P _ _ (two_row w1 1 3)).mono ?_
  rintro e w2 ⟨v2, rfl, hb2, r2⟩
  have B2 := B1.trans (((A w1 _).trans (hb2.mono (by simp))).mono s1)
  have s2 := B2.size
  clear hb2
  have r3 : Row w2 v2 2 fun i => .int .i64 (two 2 8 i) := r2.same (fun i hi => by
    have : i = 0 ∨ i = 1 := by omega
    rcases this with rfl | rfl <;> exact congrArg _ (by decide))
  obtain ⟨a2, cap2, rfl, _⟩ := id r3
  clear r2
  go_wp2_with fail
  refine (same_yes (two 2 8) 2 _ _ _ (by omega) (r3.below (A w2 _)) (two_row w2 2 8)).mono ?_
  rintro e w3 ⟨rfl, hb3⟩
  go_wp2_with fail
  go_ret
  exact ⟨rfl, B2.trans (((A w2 _).trans (hb3.mono (by simp))).mono s2)⟩
end Go.Proofs.Ytipgajilchkneaa
