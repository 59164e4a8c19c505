/-
  Contracts of router's common and Step: the greatest common number, and the least number on two steps.
-/
import Derived.Test.YtbjibmfehphffaaBut
import Derived.Test.YtbjibmfehphffaaArith
namespace Go.Proofs.Ytbjibmfehphffaa.RO
open Go.ChangeShapes Go.WideShapes Go.ChangeAt Go.RowKit

theorem gcd_turn (x y : Nat) : Nat.gcd y (x % y) = Nat.gcd x y := by
  rw [Nat.gcd_comm x y, Nat.gcd_rec y x, Nat.gcd_comm]
set_option maxHeartbeats 1000000 in
theorem common_any (a b : Nat) (w : World) (ha : a ≤ 9223372036854775807) (hb : b ≤ 9223372036854775807) :
    Calls Try.prog 19 #[.int .i64 (a : Int), .int .i64 (b : Int)] w fun e w' => e = .returned (.int .i64 (Nat.gcd a b : Int)) ∧ ∃ m, w' = w.drewN m := by
  go_enter Try.func19, Try.ntmps19
  go_wp2_with fail
  go_loopw [0, 1] (fun i j wr => ∃ x y m : Nat, i = .int .i64 (x : Int) ∧ j = .int .i64 (y : Int) ∧ x ≤ 9223372036854775807 ∧ y ≤ 9223372036854775807 ∧ Hid (Nat.gcd x y = Nat.gcd a b) ∧ wr = w.drewN m) (fun _ j _ => (intOf j).toNat)
  case atStart => exact ⟨a, b, 0, rfl, rfl, ha, hb, rfl, rfl⟩
  case round =>
    obtain ⟨x, y, m, rfl, rfl, hx, hy, hg, rfl⟩ := hrel
    by_cases h0 : y = 0
    · have hg' : Hid ((Nat.gcd a b : Nat) = x) := by have := hg.out; rw [h0, Nat.gcd_zero_right] at this; exact this.symm
      have h1 : (y : Int) = 0 := by omega
      clear h0
      go_wp2_with fail
      go_ret
      exact ⟨by rw [hg'.out]; rfl, m, rfl⟩
    · have h1 : ¬ (y : Int) = 0 := by omega
      have hr : Hid ((x : Int).tmod (y : Int) = ((x % y : Nat) : Int)) := by show _ = _; rw [Int.tmod_eq_emod_of_nonneg (by omega)]; omega
      have hlt : x % y < y := Nat.mod_lt _ (by omega)
      have HG : Hid (Nat.gcd y (x % y) = Nat.gcd a b) := by show _ = _; rw [gcd_turn]; exact hg.out
      go_wp2_with fail
      go_quiet (fail)
      go_wp2_with fail
      go_roundw
      case rel => exact ⟨y, x % y, m + nq, rfl, congrArg (Value.int .i64) hr.out, hy, by omega, HG, by rw [World.drewN_drewN]⟩
      case measure => simp [intOf]; omega

/-- What Step answers. -/
abbrev stBad (a b : Int) : Prop := a < 1 ∨ b < 1
def stL (a b : Int) : Int := (Nat.lcm a.toNat b.toNat : Nat)
def stN (a b : Int) : Int := if stBad a b then 0 else ansN (stL a b)
def stE (a b : Int) : Int := if stBad a b then 2 else ansE (stL a b)
theorem lcm_left (A B : Nat) : A / Nat.gcd A B * B = Nat.lcm A B := by
  unfold Nat.lcm
  obtain ⟨k, hk⟩ := Nat.gcd_dvd_left A B
  rcases Nat.eq_zero_or_pos (Nat.gcd A B) with h | h
  · rw [h, Nat.div_zero, Nat.div_zero, Nat.zero_mul]
  · have e : A / Nat.gcd A B = k := by
      conv => lhs; lhs; rw [hk]
      exact Nat.mul_div_cancel_left k h
    rw [e]
    have e2 : A * B = Nat.gcd A B * (k * B) := by
      conv => lhs; lhs; rw [hk]
      rw [Nat.mul_assoc]
    rw [e2, Nat.mul_div_cancel_left _ h]
theorem lcm_right (A B : Nat) : A * (B / Nat.gcd A B) = Nat.lcm A B := by
  rw [Nat.mul_comm, Nat.gcd_comm, Nat.lcm_comm]
  exact lcm_left B A
theorem step_any (a b : Int) (w : World) (a1 : -9223372036854775808 ≤ a) (a2 : a ≤ 9223372036854775807) (b1 : -9223372036854775808 ≤ b) (b2 : b ≤ 9223372036854775807) :
    Calls Try.prog 9 #[.int .i64 a, .int .i64 b] w fun e w' => e = .returned (.tuple #[.int .i64 (stN a b), .int .i64 (stE a b)]) ∧ Below w.heap.size w w' := by
  by_cases h : stBad a b
  · rw [show stN a b = 0 from if_pos h, show stE a b = 2 from if_pos h]
    unfold stBad at h
    by_cases k : a < 1
    · go_enter Try.func9, Try.ntmps9
      go_wp2
      go_ret2
      exact ⟨rfl, Below.refl _ _⟩
    · have k2 : b < 1 := by omega
      clear h
      go_enter Try.func9, Try.ntmps9
      go_wp2
      go_ret2
      exact ⟨rfl, Below.refl _ _⟩
  · rw [show stN a b = ansN (stL a b) from if_neg h, show stE a b = ansE (stL a b) from if_neg h]
    unfold stBad at h
    have k1 : ¬ a < 1 := by omega
    have k2 : ¬ b < 1 := by omega
    clear h
    obtain ⟨A, rfl⟩ : ∃ A : Nat, a = (A : Int) := ⟨a.toNat, by omega⟩
    obtain ⟨B, rfl⟩ : ∃ B : Nat, b = (B : Int) := ⟨b.toNat, by omega⟩
    have F := fun w => common_any A B w (by omega) (by omega)
    have g0 : 0 < Nat.gcd A B := Nat.gcd_pos_of_pos_left _ (by omega)
    have HL : Hid (stL (A : Int) (B : Int) = ((A / Nat.gcd A B : Nat) : Int) * (B : Int)) := by
      show _ = _
      unfold stL
      rw [Int.toNat_natCast, Int.toNat_natCast, ← lcm_left, Int.natCast_mul]
    rw [HL.out]
    have hq : A / Nat.gcd A B ≤ A := Nat.div_le_self _ _
    obtain ⟨g, hg⟩ : ∃ g, g = Nat.gcd A B := ⟨_, rfl⟩
    rw [← hg] at F g0 hq ⊢
    clear HL hg
    obtain ⟨q, hqe⟩ : ∃ q, Hid (A / g = q) := ⟨_, rfl⟩
    rw [hqe.out] at hq ⊢
    have HQ : Hid (wrap64 ((A : Int) / (g : Int)) = (q : Int)) := by
      show _ = _
      have e : (A : Int) / (g : Int) = (q : Int) := by rw [← hqe.out]; exact (Int.natCast_ediv A g).symm
      rw [e]
      unfold wrap64
      omega
    have G := fun w => mul_any (q : Int) (B : Int) w (by omega) (by omega) (by omega) (by omega)
    have k3 : ¬ (g : Int) = 0 := by omega
    clear g0 hqe hq
    go_enter Try.func9, Try.ntmps9
    go_wp2_with fail
    refine (F _).mono ?_
    rintro e w1 ⟨rfl, m, rfl⟩
    go_wp2_with fail
    rw [HQ.out]
    refine (G _).mono ?_
    rintro e w2 ⟨rfl, hb⟩
    go_wp2
    go_ret2
    exact ⟨rfl, (below_drewN _ _ _).trans (hb.mono (Nat.le_refl _))⟩

set_option maxHeartbeats 1000000 in
theorem commonR_any (a b : Nat) (w : World) (ha : a ≤ 9223372036854775807) (hb : b ≤ 9223372036854775807) :
    Calls Try.prog 23 #[.int .i64 (a : Int), .int .i64 (b : Int)] w fun e w' => e = .returned (.int .i64 (Nat.gcd a b : Int)) ∧ w' = w := by
  go_enter Try.func23, Try.ntmps23
  go_wp2_with fail
  go_loopw [0, 1] (fun i j wr => ∃ x y : Nat, i = .int .i64 (x : Int) ∧ j = .int .i64 (y : Int) ∧ x ≤ 9223372036854775807 ∧ y ≤ 9223372036854775807 ∧ Hid (Nat.gcd x y = Nat.gcd a b) ∧ wr = w) (fun _ j _ => (intOf j).toNat)
  case atStart => exact ⟨a, b, rfl, rfl, ha, hb, rfl, rfl⟩
  case round =>
    obtain ⟨x, y, rfl, rfl, hx, hy, hg, rfl⟩ := hrel
    by_cases h0 : y = 0
    · have hg' : Hid ((Nat.gcd a b : Nat) = x) := by have := hg.out; rw [h0, Nat.gcd_zero_right] at this; exact this.symm
      have h1 : (y : Int) = 0 := by omega
      clear h0
      go_wp2_with fail
      go_ret
      exact ⟨by rw [hg'.out]; rfl, rfl⟩
    · have h1 : ¬ (y : Int) = 0 := by omega
      have hr : Hid ((x : Int).tmod (y : Int) = ((x % y : Nat) : Int)) := by show _ = _; rw [Int.tmod_eq_emod_of_nonneg (by omega)]; omega
      have hlt : x % y < y := Nat.mod_lt _ (by omega)
      have HG : Hid (Nat.gcd y (x % y) = Nat.gcd a b) := by show _ = _; rw [gcd_turn]; exact hg.out
      go_wp2_with fail
      go_roundw
      case rel => exact ⟨y, x % y, rfl, congrArg (Value.int .i64) hr.out, hy, by omega, HG, trivial⟩
      case measure => simp [intOf]; omega
end Go.Proofs.Ytbjibmfehphffaa.RO
