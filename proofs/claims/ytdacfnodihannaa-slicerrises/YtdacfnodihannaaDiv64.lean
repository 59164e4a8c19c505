/-
  Contract of math/bits Div64 for every divisor above the high word: the quotient and the rest of the number of 128 bits, proved of the library text itself (two trial digits, each made right by its loop).
-/
import Derived.Test.YtdacfnodihannaaDiv
import Derived.Test.YtdacfnodihannaaKnuth
namespace Go.Proofs.Ytdacfnodihannaa
open Go.ChangeShapes Go.WideShapes Go.ChangeAt Go.RowKit
theorem wrap_nat (n : Nat) (h : n < 18446744073709551616) : IntKind.u64.wrap (n : Int) = (n : Int) := by rw [IntKind.wrap_u64]; omega
theorem wrap_mod (n : Nat) : IntKind.u64.wrap (n : Int) = ((n % 18446744073709551616 : Nat) : Int) := by rw [IntKind.wrap_u64]; omega
theorem low_half (n : Nat) (h : n < 18446744073709551616) : bits .and .u64 (n : Int) 4294967295 = ((n % 4294967296 : Nat) : Int) := by
  rw [and_low32 _ (by omega) (by omega)]; omega
theorem shl_nat (a S : Nat) : (a : Int) * 2 ^ S = ((a * 2 ^ S : Nat) : Int) := by simp
theorem shr_nat (a S : Nat) : (a : Int) / 2 ^ S = ((a / 2 ^ S : Nat) : Int) := by simp
theorem int_eq {k : IntKind} {a b : Int} (h : a = b) : Value.int k a = .int k b := by rw [h]
theorem sub_rest (U D Y q : Nat) (hY : Y < 18446744073709551616) (h0 : 0 < Y) (hq : (U * 4294967296 + D) / Y = q) :
    IntKind.u64.wrap (IntKind.u64.wrap (IntKind.u64.wrap ((U : Int) * 4294967296) + (D : Int)) - IntKind.u64.wrap ((q : Int) * (Y : Int))) = (((U * 4294967296 + D) % Y : Nat) : Int) := by
  have e := Nat.div_add_mod (U * 4294967296 + D) Y
  have hm := Nat.mod_lt (U * 4294967296 + D) h0
  rw [hq, Nat.mul_comm Y q] at e
  rw [← Int.natCast_mul]
  generalize (U * 4294967296 + D) % Y = n at *
  generalize q * Y = m at *
  simp only [IntKind.wrap_u64]
  omega
theorem tup_eq {a b c d : Int} (h1 : a = c) (h2 : b = d) : Ending.returned (.tuple #[.int .u64 a, .int .u64 b]) = .returned (.tuple #[.int .u64 c, .int .u64 d]) := by rw [h1, h2]
set_option maxRecDepth 100000 in
set_option maxHeartbeats 4000000 in
theorem div64_big (h l c : Nat) (hl : l < 18446744073709551616) (hc : c < 18446744073709551616) (h0 : 0 < h) (hlt : h < c) (w : World) :
    Calls Try.prog 77 #[.int .u64 (h : Int), .int .u64 (l : Int), .int .u64 (c : Int)] w fun e w' =>
  e = .returned (.tuple #[.int .u64 (((h * 18446744073709551616 + l) / c : Nat) : Int), .int .u64 (((h * 18446744073709551616 + l) % c : Nat) : Int)]) ∧ Below w.heap.size w w' := by
  have t1 : ((c : Int) == 0) = false := by simp; omega
  have t2 : ((h : Int) == 0) = false := by simp; omega
  have t3 : decide ((c : Int) ≤ (h : Int)) = false := by simp; omega
  obtain ⟨S, hS⟩ : ∃ S : Nat, (64 : Int) - (Lib.bitLen c : Int) = (S : Int) := ⟨64 - Lib.bitLen c, by have := Lib.bitLen_le c 64 (by decide) hc; omega⟩
  obtain ⟨s1, s2, s3, s4⟩ := shift_of c S (by omega) hc hS
  obtain ⟨p1, p2, p3⟩ := shifted h l c (2 ^ S) (2 ^ (64 - S)) hl hlt s4
  have HS : Hid ((64 : Int) - (Lib.bitLen c : Int) = (S : Int)) := hS
  obtain ⟨Y, hY⟩ : ∃ Y : Nat, Hid (c * 2 ^ S = Y) := ⟨_, rfl⟩
  obtain ⟨U, hU⟩ : ∃ U : Nat, Hid (h * 2 ^ S + l / 2 ^ (64 - S) = U) := ⟨_, rfl⟩
  obtain ⟨L, hL⟩ : ∃ L : Nat, Hid (l * 2 ^ S % 18446744073709551616 = L) := ⟨_, rfl⟩
  rw [hY.out] at s2 s3 p2
  rw [hU.out] at p2 p3
  rw [hL.out] at p3
  have hLb : L < 18446744073709551616 := by rw [← hL.out]; exact Nat.mod_lt _ (by decide)
  have P3 : Hid (U * 18446744073709551616 + L = (h * 18446744073709551616 + l) * 2 ^ S) := p3
  obtain ⟨V1, hV1⟩ : ∃ V1 : Nat, Hid (Y / 4294967296 = V1) := ⟨_, rfl⟩
  obtain ⟨V0, hV0⟩ : ∃ V0 : Nat, Hid (Y % 4294967296 = V0) := ⟨_, rfl⟩
  obtain ⟨D1, hD1⟩ : ∃ D1 : Nat, Hid (L / 4294967296 = D1) := ⟨_, rfl⟩
  obtain ⟨D0, hD0⟩ : ∃ D0 : Nat, Hid (L % 4294967296 = D0) := ⟨_, rfl⟩
  have v1 : 2147483648 ≤ V1 ∧ V1 < 4294967296 := by have := hV1.out; omega
  have v0 : V0 < 4294967296 := by have := hV0.out; omega
  have d1 : D1 < 4294967296 := by have := hD1.out; omega
  have d0 : D0 < 4294967296 := by have := hD0.out; omega
  have HY : Hid (Y = V1 * 4294967296 + V0) := by have a := hV1.out; have b := hV0.out; show Y = _; omega
  have HL : Hid (L = D1 * 4294967296 + D0) := by have a := hD1.out; have b := hD0.out; show L = _; omega
  have hor : Hid (bits .or .u64 (IntKind.u64.wrap ((h : Int) * 2 ^ S)) ((l : Int) / 2 ^ (64 - S)) = (U : Int)) := by
    have hb : h * 2 ^ S < 18446744073709551616 := Nat.lt_of_le_of_lt (Nat.le_trans (Nat.le_add_right _ _) (Nat.le_of_eq hU.out)) (Nat.lt_trans p2 s2)
    show _ = _
    rw [shl_nat, shr_nat, wrap_nat _ hb, u64_or_nat _ _ hb (Nat.lt_of_le_of_lt (Nat.div_le_self _ _) hl), or_low S h _ p1, hU.out]
  clear hS p3 s4 p1
  go_enter Try.func77, Try.ntmps77
  go_wp2_with fail
  refine (lead_any _ _ (by omega) (by omega)).mono ?_
  rintro e w1 ⟨rfl, rfl⟩
  rw [show (c : Int).toNat = c from by omega, HS.out]
  go_upto_region 14 with fail
  go_cut [2, 9, 10, 11, 12, 13, 14] (fun y v1 v0 u t d1 d0 wx => y = .int .u64 (Y : Int) ∧ v1 = .int .u64 (V1 : Int) ∧ v0 = .int .u64 (V0 : Int) ∧ u = .int .u64 (U : Int) ∧ d1 = .int .u64 (D1 : Int) ∧ d0 = .int .u64 (D0 : Int) ∧ wx = w1)
  case first =>
    go_wp2_with fail
    go_meet
    case rel =>
      have eY : IntKind.u64.wrap ((c : Int) * 2 ^ S) = (Y : Int) := by rw [shl_nat, hY.out, wrap_nat _ s2]
      have eL : IntKind.u64.wrap ((l : Int) * 2 ^ S) = (L : Int) := by rw [shl_nat, wrap_mod, hL.out]
      rw [eY, eL, hor.out]
      have a1 := hV1.out
      have a2 := hD1.out
      exact ⟨rfl, int_eq (by omega), int_eq (by rw [low_half Y s2, hV0.out]), rfl, int_eq (by omega), int_eq (by rw [low_half L hLb, hD0.out]), rfl⟩
  case rest =>
    obtain ⟨rfl, rfl, rfl, rfl, rfl, rfl, rfl⟩ := hcut
    go_upto_block 0 with fail
    go_cut [15, 16] from 19 to 134 (fun q r wx => ∃ Q : Nat, q = .int .u64 (Q : Int) ∧ Hid ((U * 4294967296 + D1) / Y = Q) ∧ wx = wc)
    case first =>
      go_wp2_with fail
      obtain ⟨g1, g2⟩ := trial_start U D1 V1 V0 Y HY.out v1.1 v0 p2 d1
      have g3 := Nat.div_add_mod U V1
      have g4 := Nat.mod_lt U (show 0 < V1 by omega)
      have e1 : IntKind.u64.wrap ((U : Int) / (V1 : Int)) = ((U / V1 : Nat) : Int) := by
        rw [← Int.natCast_ediv]; exact wrap_nat _ (by omega)
      have e2 : IntKind.u64.wrap ((U : Int) - IntKind.u64.wrap (((U / V1 : Nat) : Int) * (V1 : Int))) = ((U % V1 : Nat) : Int) := by
        rw [← Int.natCast_mul, Nat.mul_comm (U / V1) V1]
        generalize V1 * (U / V1) = m at *
        generalize U % V1 = n at *
        rw [wrap_nat m (by omega), IntKind.wrap_u64]
        omega
      rw [e1, e2]
      clear e1 e2
      have G : Hid (U / V1 * V1 + U % V1 = U) := by rw [Nat.mul_comm]; exact g3
      have G1 : Hid ((U * 4294967296 + D1) / Y ≤ U / V1) := g1
      have g5 : U % V1 < 4294967296 := by omega
      clear g1 g3 g4
      generalize U / V1 = Q0 at *
      generalize U % V1 = R0 at *
      go_loop [15, 16] (fun q r => ∃ Q R : Nat, q = .int .u64 (Q : Int) ∧ r = .int .u64 (R : Int) ∧ Hid (Q * V1 + R = U) ∧ Hid ((U * 4294967296 + D1) / Y ≤ Q) ∧ Q ≤ 4294967297 ∧ R < 4294967296) (fun q _ => (intOf q).toNat)
      case atStart => exact ⟨Q0, R0, rfl, rfl, G, G1, g2, g5⟩
      case round =>
        clear G G1 g2 g5
        obtain ⟨Q, R, rfl, rfl, k1, k2, k3, k4⟩ := hrel
        by_cases hq : 4294967296 ≤ Q
        · have b1 : decide ((4294967296 : Int) ≤ (Q : Int)) = true := by simp; omega
          have HQ : Hid (4294967296 ≤ Q) := hq
          clear hq
          obtain ⟨j1, j2, j3⟩ := trial_step U D1 V1 V0 Y Q R HY.out p2 d1 k1.out k2.out (.inl HQ.out)
          have J2 : Hid ((U * 4294967296 + D1) / Y ≤ Q - 1) := j2
          have J3 : Hid ((Q - 1) * V1 + (R + V1) = U) := j3
          clear j2 j3
          have K3 : Hid (Q ≤ 4294967297) := k3
          have k5 : (Q : Int) ≤ 18446744073709551615 := by omega
          have k6 : (R : Int) ≤ 4294967295 := by omega
          have k7 : (V1 : Int) ≤ 4294967295 := by omega
          have k8 : (1 : Int) ≤ (Q : Int) := by omega
          clear k3 k4
          by_cases hr : 4294967296 ≤ R + V1
          · have b2 : decide ((4294967296 : Int) ≤ (R : Int) + (V1 : Int)) = true := by simp; omega
            have HR : Hid (4294967296 ≤ R + V1) := hr
            clear hr
            go_wp2_with fail
            go_meet
            case rel => exact ⟨Q - 1, int_eq (by omega), trial_end U D1 V1 V0 Y (Q - 1) (R + V1) HY.out p2 J3.out J2.out (trial_break V0 (Q - 1) (R + V1) D1 v0 (by have := K3.out; omega) HR.out), rfl⟩
          · have b2 : decide ((4294967296 : Int) ≤ (R : Int) + (V1 : Int)) = false := by simp; omega
            have HR : Hid (¬ 4294967296 ≤ R + V1) := hr
            clear hr
            go_wp2_with fail
            go_round
            case rel => exact ⟨Q - 1, R + V1, int_eq (by omega), int_eq (by omega), J3, J2, by have := K3.out; omega, by have := HR.out; omega⟩
            case measure => simp [intOf]; omega
        · obtain ⟨P, hP⟩ : ∃ P : Nat, Hid (Q * V0 = P) := ⟨_, rfl⟩
          have hPi : (Q : Int) * (V0 : Int) = (P : Int) := by rw [← hP.out]; simp
          have hPb : P ≤ 18446744065119617025 := by rw [← hP.out]; exact Nat.mul_le_mul (show Q ≤ 4294967295 by omega) (show V0 ≤ 4294967295 by omega)
          have b1 : decide ((4294967296 : Int) ≤ (Q : Int)) = false := by simp; omega
          by_cases ht : 4294967296 * R + D1 < P
          · have b3 : decide ((4294967296 : Int) * (R : Int) + (D1 : Int) < (P : Int)) = true := by simp; omega
            have HT : Hid (4294967296 * R + D1 < Q * V0) := by rw [hP.out]; exact ht
            clear ht hq
            obtain ⟨j1, j2, j3⟩ := trial_step U D1 V1 V0 Y Q R HY.out p2 d1 k1.out k2.out (.inr HT.out)
            have J2 : Hid ((U * 4294967296 + D1) / Y ≤ Q - 1) := j2
            have J3 : Hid ((Q - 1) * V1 + (R + V1) = U) := j3
            clear j2 j3
            have K3 : Hid (Q ≤ 4294967297) := k3
            have k5 : (Q : Int) ≤ 18446744073709551615 := by omega
            have k6 : (R : Int) ≤ 4294967295 := by omega
            have k7 : (V1 : Int) ≤ 4294967295 := by omega
            have k8 : (1 : Int) ≤ (Q : Int) := by omega
            clear k3 k4
            by_cases hr : 4294967296 ≤ R + V1
            · have b2 : decide ((4294967296 : Int) ≤ (R : Int) + (V1 : Int)) = true := by simp; omega
              have HR : Hid (4294967296 ≤ R + V1) := hr
              clear hr
              go_wp2_with fail
              go_meet
              case rel => exact ⟨Q - 1, int_eq (by omega), trial_end U D1 V1 V0 Y (Q - 1) (R + V1) HY.out p2 J3.out J2.out (trial_break V0 (Q - 1) (R + V1) D1 v0 (by have := K3.out; omega) HR.out), rfl⟩
            · have b2 : decide ((4294967296 : Int) ≤ (R : Int) + (V1 : Int)) = false := by simp; omega
              have HR : Hid (¬ 4294967296 ≤ R + V1) := hr
              clear hr
              go_wp2_with fail
              go_round
              case rel => exact ⟨Q - 1, R + V1, int_eq (by omega), int_eq (by omega), J3, J2, by have := K3.out; omega, by have := HR.out; omega⟩
              case measure => simp [intOf]; omega
          · have b3 : decide ((4294967296 : Int) * (R : Int) + (D1 : Int) < (P : Int)) = false := by simp; omega
            have HT : Hid (Q * V0 ≤ 4294967296 * R + D1) := by show Q * V0 ≤ _; rw [hP.out]; exact Nat.le_of_not_lt ht
            clear ht
            go_wp2_with fail
            go_meet
            case rel => exact ⟨Q, rfl, trial_end U D1 V1 V0 Y Q R HY.out p2 k1.out k2.out HT.out, rfl⟩
    case rest =>
      obtain ⟨Q1, rfl, hQ1, rfl⟩ := hcut
      have q1b : Q1 < 4294967296 := by rw [← hQ1.out]; exact digit_small U D1 Y p2 d1
      obtain ⟨W, hW⟩ : ∃ W : Nat, Hid ((U * 4294967296 + D1) % Y = W) := ⟨_, rfl⟩
      have hWlt : W < Y := by rw [← hW.out]; exact Nat.mod_lt _ (by omega)
      go_upto_region 21 with fail
      go_cut [17] from 19 to 134 (fun t wx => t = .int .u64 (W : Int) ∧ wx = wc)
      case first =>
        go_wp2_with fail
        go_meet
        case rel => exact ⟨int_eq ((sub_rest U D1 Y Q1 s2 (by omega) hQ1.out).trans (congrArg _ hW.out)), rfl⟩
      case rest =>
        obtain ⟨rfl, rfl⟩ := hcut
        go_upto_block 2 with fail
        go_cut [18, 16] from 19 to 134 (fun q r wx => ∃ Q : Nat, q = .int .u64 (Q : Int) ∧ Hid ((W * 4294967296 + D0) / Y = Q) ∧ wx = wc)
        case first =>
          go_wp2_with fail
          obtain ⟨g1, g2⟩ := trial_start W D0 V1 V0 Y HY.out v1.1 v0 hWlt d0
          have g3 := Nat.div_add_mod W V1
          have g4 := Nat.mod_lt W (show 0 < V1 by omega)
          have e1 : IntKind.u64.wrap ((W : Int) / (V1 : Int)) = ((W / V1 : Nat) : Int) := by
            rw [← Int.natCast_ediv]; exact wrap_nat _ (by omega)
          have e2 : IntKind.u64.wrap ((W : Int) - IntKind.u64.wrap (((W / V1 : Nat) : Int) * (V1 : Int))) = ((W % V1 : Nat) : Int) := by
            rw [← Int.natCast_mul, Nat.mul_comm (W / V1) V1]
            generalize V1 * (W / V1) = m at *
            generalize W % V1 = n at *
            rw [wrap_nat m (by omega), IntKind.wrap_u64]
            omega
          rw [e1, e2]
          clear e1 e2
          have G : Hid (W / V1 * V1 + W % V1 = W) := by rw [Nat.mul_comm]; exact g3
          have G1 : Hid ((W * 4294967296 + D0) / Y ≤ W / V1) := g1
          have g5 : W % V1 < 4294967296 := by omega
          clear g1 g3 g4
          generalize W / V1 = Q0 at *
          generalize W % V1 = R0 at *
          go_loop [18, 16] (fun q r => ∃ Q R : Nat, q = .int .u64 (Q : Int) ∧ r = .int .u64 (R : Int) ∧ Hid (Q * V1 + R = W) ∧ Hid ((W * 4294967296 + D0) / Y ≤ Q) ∧ Q ≤ 4294967297 ∧ R < 4294967296) (fun q _ => (intOf q).toNat)
          case atStart => exact ⟨Q0, R0, rfl, rfl, G, G1, g2, g5⟩
          case round =>
            clear G G1 g2 g5
            obtain ⟨Q, R, rfl, rfl, k1, k2, k3, k4⟩ := hrel
            by_cases hq : 4294967296 ≤ Q
            · have b1 : decide ((4294967296 : Int) ≤ (Q : Int)) = true := by simp; omega
              have HQ : Hid (4294967296 ≤ Q) := hq
              clear hq
              obtain ⟨j1, j2, j3⟩ := trial_step W D0 V1 V0 Y Q R HY.out hWlt d0 k1.out k2.out (.inl HQ.out)
              have J2 : Hid ((W * 4294967296 + D0) / Y ≤ Q - 1) := j2
              have J3 : Hid ((Q - 1) * V1 + (R + V1) = W) := j3
              clear j2 j3
              have K3 : Hid (Q ≤ 4294967297) := k3
              have k5 : (Q : Int) ≤ 18446744073709551615 := by omega
              have k6 : (R : Int) ≤ 4294967295 := by omega
              have k7 : (V1 : Int) ≤ 4294967295 := by omega
              have k8 : (1 : Int) ≤ (Q : Int) := by omega
              clear k3 k4
              by_cases hr : 4294967296 ≤ R + V1
              · have b2 : decide ((4294967296 : Int) ≤ (R : Int) + (V1 : Int)) = true := by simp; omega
                have HR : Hid (4294967296 ≤ R + V1) := hr
                clear hr
                go_wp2_with fail
                go_meet
                case rel => exact ⟨Q - 1, int_eq (by omega), trial_end W D0 V1 V0 Y (Q - 1) (R + V1) HY.out hWlt J3.out J2.out (trial_break V0 (Q - 1) (R + V1) D0 v0 (by have := K3.out; omega) HR.out), rfl⟩
              · have b2 : decide ((4294967296 : Int) ≤ (R : Int) + (V1 : Int)) = false := by simp; omega
                have HR : Hid (¬ 4294967296 ≤ R + V1) := hr
                clear hr
                go_wp2_with fail
                go_round
                case rel => exact ⟨Q - 1, R + V1, int_eq (by omega), int_eq (by omega), J3, J2, by have := K3.out; omega, by have := HR.out; omega⟩
                case measure => simp [intOf]; omega
            · obtain ⟨P, hP⟩ : ∃ P : Nat, Hid (Q * V0 = P) := ⟨_, rfl⟩
              have hPi : (Q : Int) * (V0 : Int) = (P : Int) := by rw [← hP.out]; simp
              have hPb : P ≤ 18446744065119617025 := by rw [← hP.out]; exact Nat.mul_le_mul (show Q ≤ 4294967295 by omega) (show V0 ≤ 4294967295 by omega)
              have b1 : decide ((4294967296 : Int) ≤ (Q : Int)) = false := by simp; omega
              by_cases ht : 4294967296 * R + D0 < P
              · have b3 : decide ((4294967296 : Int) * (R : Int) + (D0 : Int) < (P : Int)) = true := by simp; omega
                have HT : Hid (4294967296 * R + D0 < Q * V0) := by rw [hP.out]; exact ht
                clear ht hq
                obtain ⟨j1, j2, j3⟩ := trial_step W D0 V1 V0 Y Q R HY.out hWlt d0 k1.out k2.out (.inr HT.out)
                have J2 : Hid ((W * 4294967296 + D0) / Y ≤ Q - 1) := j2
                have J3 : Hid ((Q - 1) * V1 + (R + V1) = W) := j3
                clear j2 j3
                have K3 : Hid (Q ≤ 4294967297) := k3
                have k5 : (Q : Int) ≤ 18446744073709551615 := by omega
                have k6 : (R : Int) ≤ 4294967295 := by omega
                have k7 : (V1 : Int) ≤ 4294967295 := by omega
                have k8 : (1 : Int) ≤ (Q : Int) := by omega
                clear k3 k4
                by_cases hr : 4294967296 ≤ R + V1
                · have b2 : decide ((4294967296 : Int) ≤ (R : Int) + (V1 : Int)) = true := by simp; omega
                  have HR : Hid (4294967296 ≤ R + V1) := hr
                  clear hr
                  go_wp2_with fail
                  go_meet
                  case rel => exact ⟨Q - 1, int_eq (by omega), trial_end W D0 V1 V0 Y (Q - 1) (R + V1) HY.out hWlt J3.out J2.out (trial_break V0 (Q - 1) (R + V1) D0 v0 (by have := K3.out; omega) HR.out), rfl⟩
                · have b2 : decide ((4294967296 : Int) ≤ (R : Int) + (V1 : Int)) = false := by simp; omega
                  have HR : Hid (¬ 4294967296 ≤ R + V1) := hr
                  clear hr
                  go_wp2_with fail
                  go_round
                  case rel => exact ⟨Q - 1, R + V1, int_eq (by omega), int_eq (by omega), J3, J2, by have := K3.out; omega, by have := HR.out; omega⟩
                  case measure => simp [intOf]; omega
              · have b3 : decide ((4294967296 : Int) * (R : Int) + (D0 : Int) < (P : Int)) = false := by simp; omega
                have HT : Hid (Q * V0 ≤ 4294967296 * R + D0) := by show Q * V0 ≤ _; rw [hP.out]; exact Nat.le_of_not_lt ht
                clear ht
                go_wp2_with fail
                go_meet
                case rel => exact ⟨Q, rfl, trial_end W D0 V1 V0 Y Q R HY.out hWlt k1.out k2.out HT.out, rfl⟩
        case rest =>
          obtain ⟨Q2, rfl, hQ2, rfl⟩ := hcut
          have q2b : Q2 < 4294967296 := by rw [← hQ2.out]; exact digit_small W D0 Y hWlt d0
          have fin1 : Hid (Q1 * 4294967296 + Q2 = (h * 18446744073709551616 + l) / c) := by
            show _ = _
            have t := (two_digits U D1 D0 Y p2).1
            rw [← HL.out, P3.out, hW.out, hQ1.out, hQ2.out, ← hY.out, (unshift _ c _ (Nat.two_pow_pos S)).1] at t
            exact t.symm
          have fin2 : Hid ((W * 4294967296 + D0) % Y / 2 ^ S = (h * 18446744073709551616 + l) % c) := by
            show _ = _
            have t := (two_digits U D1 D0 Y p2).2
            rw [← HL.out, P3.out, hW.out] at t
            rw [← t, ← hY.out, (unshift _ c _ (Nat.two_pow_pos S)).2]
          go_wp2_with fail
          go_ret2
          refine ⟨tup_eq ?_ ?_, Below.refl _ _⟩
          · rw [← fin1.out]; omega
          · rw [← fin2.out, sub_rest W D0 Y Q2 s2 (by omega) hQ2.out]; exact shr_nat _ S
theorem div64_any (h l c : Nat) (hl : l < 18446744073709551616) (hc : c < 18446744073709551616) (hlt : h < c) : DivOk h l c := by
  rcases Nat.eq_zero_or_pos h with rfl | h0
  · exact div64_small l c hl (by omega) hc
  · exact fun w => div64_big h l c hl hc h0 hlt w
end Go.Proofs.Ytdacfnodihannaa
