/-
  Contract of the reference's cmp: two lists of bits are held against each other as numbers.
-/
import Derived.Test.YtkphchldoionjaaRefOf
namespace Go.Proofs.Ytkphchldoionjaa
open Go.ChangeShapes Go.WideShapes Go.ChangeAt Go.RowKit

def cmpI (a b : Nat) : Int := if a < b then -1 else if a = b then 0 else 1
set_option maxHeartbeats 1000000 in
theorem cmp_any {B C : Nat} (x y : List Bool) (v u : Value) (w : World) (hv : Reads B w v x) (hu : Reads C w u y) :
    Calls Try.prog 44 #[v, u] w fun e w' => e = .returned (.int .i64 (cmpI (val x) (val y))) ∧ w' = w := by
  obtain ⟨a, ca, rfl, h1, h2, _⟩ := id hv
  obtain ⟨b, cb, rfl, k1, k2, _⟩ := id hu
  unfold maxLen at h2 k2
  go_enter Try.func44, Try.ntmps44
  go_upto_region 1 with fail
  go_cut [5] from 6 to 25 (fun i wx => i = .int .i64 ((max x.length y.length : Nat) - 1 : Int) ∧ wx = w)
  case first =>
    rcases Nat.lt_or_ge x.length y.length with h | h
    · go_wp2_with fail
      all_goals
        go_meet
        case rel => exact ⟨congrArg (Value.int .i64) (by omega), rfl⟩
    · go_wp2_with fail
      all_goals
        go_meet
        case rel => exact ⟨congrArg (Value.int .i64) (by omega), rfl⟩
  case rest =>
    obtain ⟨rfl, rfl⟩ := hcut
    have hK : ∀ j, max x.length y.length ≤ j → x.getD j false = y.getD j false := fun j hj => by
      rw [show x.getD j false = false by simp [List.getElem?_eq_none (show x.length ≤ j by omega)], show y.getD j false = false by simp [List.getElem?_eq_none (show y.length ≤ j by omega)]]
    have hM : max x.length y.length ≤ 9223372036854775807 := by omega
    generalize max x.length y.length = K at *
    have HK : Hid (∀ j, K ≤ j → x.getD j false = y.getD j false) := hK
    clear hK
    go_wp2_with fail
    go_loop [5] (fun i => ∃ k : Nat, i = .int .i64 ((k : Int) - 1) ∧ k ≤ 9223372036854775807 ∧ Hid (∀ j, k ≤ j → x.getD j false = y.getD j false)) (fun i => (intOf i + 1).toNat)
    case atStart => exact ⟨K, rfl, hM, HK⟩
    case round =>
      obtain ⟨k, rfl, hk, hz⟩ := hrel
      rcases Nat.eq_zero_or_pos k with rfl | hp
      · have hend : Hid (cmpI (val x) (val y) = 0) := by
          show cmpI _ _ = 0
          rw [val_same x y (fun j => hz.out j (Nat.zero_le _))]
          unfold cmpI; simp
        go_wp2_with fail
        go_ret
        exact ⟨by rw [hend.out]; rfl, rfl⟩
      · obtain ⟨j, rfl⟩ : ∃ j, k = j + 1 := ⟨k - 1, by omega⟩
        have ej : ((j + 1 : Nat) : Int) - 1 = (j : Int) := by omega
        rw [ej]
        clear ej
        have t : (0 : Int) ≤ (j : Int) := by omega
        cases hx : x.getD j false <;> cases hy : y.getD j false
        · have HX : Hid (x.getD j false = false) := hx
          have HY : Hid (y.getD j false = false) := hy
          clear hx hy
          go_wp2_with fail
          refine (at_any x _ j _ hv).mono ?_
          rintro e w1 ⟨rfl, rfl⟩
          rw [HX.out]
          go_wp2_with fail
          refine (at_any y _ j _ hu).mono ?_
          rintro e w1 ⟨rfl, rfl⟩
          rw [HY.out]
          go_wp2_with fail
          go_round
          case rel => exact ⟨j, rfl, by omega, fun i hi => by
            rcases Nat.eq_or_lt_of_le hi with rfl | h
            · rw [HX.out, HY.out]
            · exact hz.out i h⟩
          case measure => simp [intOf]
        · have HX : Hid (x.getD j false = false) := hx
          have HY : Hid (y.getD j false = true) := hy
          clear hx hy
          have hend : Hid (cmpI (val x) (val y) = -1) := by
            show cmpI _ _ = -1
            have h := val_part y x j (fun i hi => (hz.out i hi).symm) HY.out HX.out
            unfold cmpI
            rw [if_pos h]
          go_wp2_with fail
          refine (at_any x _ j _ hv).mono ?_
          rintro e w1 ⟨rfl, rfl⟩
          rw [HX.out]
          go_wp2_with fail
          refine (at_any y _ j _ hu).mono ?_
          rintro e w1 ⟨rfl, rfl⟩
          rw [HY.out]
          go_wp2_with fail
          refine (at_any x _ j _ hv).mono ?_
          rintro e w1 ⟨rfl, rfl⟩
          rw [HX.out]
          go_wp2_with fail
          go_ret
          exact ⟨by rw [hend.out]; rfl, rfl⟩
        · have HX : Hid (x.getD j false = true) := hx
          have HY : Hid (y.getD j false = false) := hy
          clear hx hy
          have hend : Hid (cmpI (val x) (val y) = 1) := by
            show cmpI _ _ = 1
            have h := val_part x y j (fun i hi => hz.out i hi) HX.out HY.out
            unfold cmpI
            rw [if_neg (by omega), if_neg (by omega)]
          go_wp2_with fail
          refine (at_any x _ j _ hv).mono ?_
          rintro e w1 ⟨rfl, rfl⟩
          rw [HX.out]
          go_wp2_with fail
          refine (at_any y _ j _ hu).mono ?_
          rintro e w1 ⟨rfl, rfl⟩
          rw [HY.out]
          go_wp2_with fail
          refine (at_any x _ j _ hv).mono ?_
          rintro e w1 ⟨rfl, rfl⟩
          rw [HX.out]
          go_wp2_with fail
          go_ret
          exact ⟨by rw [hend.out]; rfl, rfl⟩
        · have HX : Hid (x.getD j false = true) := hx
          have HY : Hid (y.getD j false = true) := hy
          clear hx hy
          go_wp2_with fail
          refine (at_any x _ j _ hv).mono ?_
          rintro e w1 ⟨rfl, rfl⟩
          rw [HX.out]
          go_wp2_with fail
          refine (at_any y _ j _ hu).mono ?_
          rintro e w1 ⟨rfl, rfl⟩
          rw [HY.out]
          go_wp2_with fail
          go_round
          case rel => exact ⟨j, rfl, by omega, fun i hi => by
            rcases Nat.eq_or_lt_of_le hi with rfl | h
            · rw [HX.out, HY.out]
            · exact hz.out i h⟩
          case measure => simp [intOf]
end Go.Proofs.Ytkphchldoionjaa
