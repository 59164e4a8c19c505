/-
  Contract of the reference's Step.
-/
import Derived.Test.YtbjibmfehphffaaRoStep
import Derived.Test.YtbjibmfehphffaaRefTold
import Derived.Test.YtbjibmfehphffaaRefMul
namespace Go.Proofs.Ytbjibmfehphffaa.RO
open Go.ChangeShapes Go.WideShapes Go.ChangeAt Go.RowKit

set_option maxHeartbeats 1000000 in
theorem stepR_any (a b : Int) (w : World) (a1 : -9223372036854775808 ≤ a) (a2 : a ≤ 9223372036854775807) (b1 : -9223372036854775808 ≤ b) (b2 : b ≤ 9223372036854775807) :
    Calls Try.prog 10 #[.int .i64 a, .int .i64 b] w fun e w' => e = .returned (.tuple #[.int .i64 (stN a b), .int .i64 (stE a b)]) ∧ Below w.heap.size w w' := by
  by_cases h : stBad a b
  · rw [show stN a b = 0 from if_pos h, show stE a b = 2 from if_pos h]
    unfold stBad at h
    by_cases k : a < 1
    · go_enter Try.func10, Try.ntmps10
      go_wp2
      go_ret2
      exact ⟨rfl, Below.refl _ _⟩
    · have k2 : b < 1 := by omega
      clear h
      go_enter Try.func10, Try.ntmps10
      go_wp2
      go_ret2
      exact ⟨rfl, Below.refl _ _⟩
  · rw [show stN a b = ansN (stL a b) from if_neg h, show stE a b = ansE (stL a b) from if_neg h]
    unfold stBad at h
    have k1 : ¬ a < 1 := by omega
    have k2 : ¬ b < 1 := by omega
    clear h
    obtain ⟨A, rfl⟩ : ∃ A : Nat, a = (A : Int) := ⟨a.toNat, by omega⟩
    obtain ⟨B, rfl⟩ : ∃ B : Nat, b = (B : Int) := ⟨b.toNat, by omega⟩
    have F := fun w => commonR_any A B w (by omega) (by omega)
    have g0 : 0 < Nat.gcd A B := Nat.gcd_pos_of_pos_left _ (by omega)
    have HL : Hid (stL (A : Int) (B : Int) = (A : Int) * ((B / Nat.gcd A B : Nat) : Int)) := by
      show _ = _
      unfold stL
      rw [Int.toNat_natCast, Int.toNat_natCast, ← lcm_right, Int.natCast_mul]
    rw [HL.out]
    have hq : B / Nat.gcd A B ≤ B := Nat.div_le_self _ _
    obtain ⟨g, hg⟩ : ∃ g, g = Nat.gcd A B := ⟨_, rfl⟩
    rw [← hg] at F g0 hq ⊢
    clear HL hg
    obtain ⟨q, hqe⟩ : ∃ q, Hid (B / g = q) := ⟨_, rfl⟩
    rw [hqe.out] at hq ⊢
    have HQ : Hid (wrap64 ((B : Int) / (g : Int)) = (q : Int)) := by
      show _ = _
      have e : (B : Int) / (g : Int) = (q : Int) := by rw [← hqe.out]; exact (Int.natCast_ediv B g).symm
      rw [e]
      unfold wrap64
      omega
    have k3 : ¬ (g : Int) = 0 := by omega
    clear g0 hqe
    go_enter Try.func10, Try.ntmps10
    go_wp2_with fail
    refine (of_any (A : Int) _ (by omega) (by omega)).mono ?_
    rintro e w3 ⟨va, rfl, hb3, la, r1, r2, r3, r4⟩
    go_wp2_with fail
    refine (F _).mono ?_
    rintro e w4 ⟨rfl, h4⟩
    obtain rfl : w4 = w3 := h4
    go_wp2_with fail
    rw [HQ.out]
    refine (of_any (q : Int) _ (by omega) (by omega)).mono ?_
    rintro e w5 ⟨vb, rfl, hb5, lb, p1, p2, p3, p4⟩
    have B4 := hb3.trans (hb5.mono hb3.size)
    have nx : IsNum w.heap.size w5 (decide ((A : Int) < 0)) va (A : Int) 64 := ⟨rfl, la, r1.below hb5, r2, r3, r4⟩
    have ny : IsNum w4.heap.size w5 (decide ((q : Int) < 0)) vb (q : Int) 64 := ⟨rfl, lb, p1, p2, p3, p4⟩
    generalize decide ((A : Int) < 0) = sa at *
    generalize decide ((q : Int) < 0) = sb at *
    clear hb3 hb5 r1 r2 r3 r4 p1 p2 p3 p4
    go_wp2_with fail
    refine (mulR_any sa sb _ _ (A : Int) (q : Int) 64 64 _ nx ny (by decide) (by decide)).mono ?_
    rintro e w6 ⟨r6, v6, rfl, hb6, n6⟩
    have B6 := B4.trans (hb6.mono B4.size)
    go_wp2_with fail
    refine (toldR_any r6 v6 ((A : Int) * (q : Int)) _ _ n6).mono ?_
    rintro e w7 ⟨rfl, hb7⟩
    have B7 := B6.trans (hb7.mono B6.size)
    clear nx ny n6
    go_wp2
    go_ret2
    exact ⟨rfl, B7⟩
end Go.Proofs.Ytbjibmfehphffaa.RO
