/-
  Plain numbers, no program: division of a number of two words by one word, as the school has it on halves of a word: what the trial digit is, when it is right, and how two digits make the quotient.
-/
import Derived.Lib.BitFns
namespace Go.Proofs.Ytdacfnodihannaa

/-- The trial digit q with its rest r, against the dividend's words u, d and the divisor y of halves v1, v0. -/
theorem trial_start (u d v1 v0 y : Nat) (hy : y = v1 * 4294967296 + v0) (h1 : 2147483648 ≤ v1) (h0 : v0 < 4294967296) (hu : u < y) (hd : d < 4294967296) :
    (u * 4294967296 + d) / y ≤ u / v1 ∧ u / v1 ≤ 4294967297 := by
  have e := Nat.div_add_mod u v1
  have hm := Nat.mod_lt u (show 0 < v1 by omega)
  generalize u / v1 = q at *
  generalize u % v1 = r at *
  constructor
  · apply Nat.le_of_lt_succ
    rw [Nat.div_lt_iff_lt_mul (by omega)]
    have e1 : (q + 1) * y = (v1 * q + v1) * 4294967296 + (q + 1) * v0 := by
      rw [hy, Nat.mul_add, ← Nat.mul_assoc, Nat.mul_comm (q + 1) v1, Nat.mul_add, Nat.mul_one]
    rw [show q.succ = q + 1 from rfl, e1]
    generalize v1 * q = m at *
    generalize (q + 1) * v0 = n at *
    omega
  · apply Nat.le_of_lt_succ
    apply Nat.lt_of_mul_lt_mul_left (a := v1)
    rw [show v1 * Nat.succ 4294967297 = v1 * 4294967296 + v1 + v1 by omega]
    generalize v1 * q = m at *
    omega
theorem digit_small (u d y : Nat) (hu : u < y) (hd : d < 4294967296) : (u * 4294967296 + d) / y < 4294967296 := by
  rw [Nat.div_lt_iff_lt_mul (by omega)]
  have : (u + 1) * 4294967296 ≤ y * 4294967296 := Nat.mul_le_mul_right _ hu
  rw [Nat.mul_comm 4294967296 y]
  omega
theorem trial_prod (u v1 v0 y q r : Nat) (hy : y = v1 * 4294967296 + v0) (hq : q * v1 + r = u) : q * y = (u - r) * 4294967296 + q * v0 ∧ r ≤ u := by
  have : u - r = q * v1 := by omega
  rw [this, hy, Nat.mul_add, ← Nat.mul_assoc]
  exact ⟨rfl, by omega⟩
theorem trial_step (u d v1 v0 y q r : Nat) (hy : y = v1 * 4294967296 + v0) (hu : u < y) (hd : d < 4294967296) (hq : q * v1 + r = u) (hle : (u * 4294967296 + d) / y ≤ q)
    (ht : 4294967296 ≤ q ∨ 4294967296 * r + d < q * v0) : 1 ≤ q ∧ (u * 4294967296 + d) / y ≤ q - 1 ∧ (q - 1) * v1 + (r + v1) = u := by
  have hs := digit_small u d y hu hd
  have hlt : (u * 4294967296 + d) / y < q := by
    rcases ht with ht | ht
    · omega
    · obtain ⟨e, hr⟩ := trial_prod u v1 v0 y q r hy hq
      rw [Nat.div_lt_iff_lt_mul (by omega), e]
      generalize q * v0 = m at *
      omega
  have h1 : 1 ≤ q := Nat.lt_of_le_of_lt (Nat.zero_le _) hlt
  refine ⟨h1, Nat.le_sub_one_of_lt hlt, ?_⟩
  obtain ⟨k, rfl⟩ : ∃ k, q = k + 1 := ⟨q - 1, by omega⟩
  rw [Nat.add_mul] at hq
  rw [Nat.add_sub_cancel]
  omega
theorem trial_end (u d v1 v0 y q r : Nat) (hy : y = v1 * 4294967296 + v0) (hu : u < y) (hq : q * v1 + r = u) (hle : (u * 4294967296 + d) / y ≤ q)
    (ht : q * v0 ≤ 4294967296 * r + d) : (u * 4294967296 + d) / y = q := by
  obtain ⟨e, hr⟩ := trial_prod u v1 v0 y q r hy hq
  have : q ≤ (u * 4294967296 + d) / y := by
    rw [Nat.le_div_iff_mul_le (by omega), e]
    generalize q * v0 = m at *
    omega
  omega
theorem trial_break (v0 q r d : Nat) (h0 : v0 < 4294967296) (hq : q ≤ 4294967296) (hr : 4294967296 ≤ r) : q * v0 ≤ 4294967296 * r + d := by
  have := Nat.mul_le_mul hq (show v0 ≤ 4294967295 by omega)
  omega
/-- Two digits make the quotient. -/
theorem two_digits (u d1 d0 y : Nat) (hu : u < y) : (u * 18446744073709551616 + (d1 * 4294967296 + d0)) / y = (u * 4294967296 + d1) / y * 4294967296 + ((u * 4294967296 + d1) % y * 4294967296 + d0) / y ∧
    (u * 18446744073709551616 + (d1 * 4294967296 + d0)) % y = ((u * 4294967296 + d1) % y * 4294967296 + d0) % y := by
  have e := Nat.div_add_mod (u * 4294967296 + d1) y
  have e2 : u * 18446744073709551616 + (d1 * 4294967296 + d0) = y * ((u * 4294967296 + d1) / y * 4294967296) + ((u * 4294967296 + d1) % y * 4294967296 + d0) := by
    rw [← Nat.mul_assoc]
    generalize y * ((u * 4294967296 + d1) / y) = m at *
    generalize (u * 4294967296 + d1) % y = n at *
    omega
  rw [e2]
  exact ⟨Nat.mul_add_div (by omega) _ _, Nat.mul_add_mod _ _ _⟩

/-! ### How far to shift -/
theorem len_lt (x : Nat) (hx : x < 18446744073709551616) : x < 2 ^ Lib.bitLen x := by
  apply Nat.lt_of_not_le
  intro h
  have s := Lib.bitLen_shift (Lib.bitLen x) x h hx
  have h1 : x / 2 ^ Lib.bitLen x ≠ 0 := by
    have := (Nat.le_div_iff_mul_le (Nat.two_pow_pos (Lib.bitLen x))).2 (show 1 * 2 ^ Lib.bitLen x ≤ x by omega)
    omega
  have h2 := Lib.bitLen_half (x / 2 ^ Lib.bitLen x) h1 (Nat.lt_of_le_of_lt (Nat.div_le_self _ _) hx)
  omega
theorem len_ge (x : Nat) (h0 : 0 < x) (hx : x < 18446744073709551616) : 1 ≤ Lib.bitLen x ∧ 2 ^ (Lib.bitLen x - 1) ≤ x := by
  have h2 := Lib.bitLen_half x (by omega) hx
  have h64 := Lib.bitLen_le x 64 (by decide) hx
  refine ⟨by omega, ?_⟩
  apply Nat.le_of_not_lt
  intro h
  have := Lib.bitLen_le x (Lib.bitLen x - 1) (by omega) h
  omega
theorem shift_of (c S : Nat) (h0 : 0 < c) (hc : c < 18446744073709551616) (hS : (64 : Int) - (Lib.bitLen c : Int) = (S : Int)) :
    S ≤ 63 ∧ c * 2 ^ S < 18446744073709551616 ∧ 9223372036854775808 ≤ c * 2 ^ S ∧ 2 ^ S * 2 ^ (64 - S) = 18446744073709551616 := by
  have h64 := Lib.bitLen_le c 64 (by decide) hc
  obtain ⟨h1, h2⟩ := len_ge c h0 hc
  have h3 := len_lt c hc
  have hp := Nat.two_pow_pos S
  refine ⟨by omega, ?_, ?_, ?_⟩
  · have := (Nat.mul_lt_mul_right hp).2 h3
    rw [← Nat.pow_add, show Lib.bitLen c + S = 64 by omega] at this
    exact this
  · have := Nat.mul_le_mul_right (2 ^ S) h2
    rw [← Nat.pow_add, show Lib.bitLen c - 1 + S = 63 by omega] at this
    exact this
  · rw [← Nat.pow_add, show S + (64 - S) = 64 by omega]
/-- The shifted dividend. -/
theorem shifted (h l c K J : Nat) (hl : l < 18446744073709551616) (hlt : h < c) (hKJ : K * J = 18446744073709551616) :
    l / J < K ∧ h * K + l / J < c * K ∧ (h * K + l / J) * 18446744073709551616 + l * K % 18446744073709551616 = (h * 18446744073709551616 + l) * K := by
  have hJ : 0 < J := by
    rcases Nat.eq_zero_or_pos J with h | h
    · rw [h] at hKJ; omega
    · exact h
  have hK : 0 < K := by
    rcases Nat.eq_zero_or_pos K with h | h
    · rw [h] at hKJ; omega
    · exact h
  have h1 : l / J < K := by rw [Nat.div_lt_iff_lt_mul hJ, hKJ]; exact hl
  have h2 : (h + 1) * K ≤ c * K := Nat.mul_le_mul_right _ hlt
  rw [Nat.add_mul, Nat.one_mul] at h2
  have h3 : l * K / 18446744073709551616 = l / J := by
    rw [← hKJ, Nat.mul_comm l K, Nat.mul_div_mul_left _ _ hK]
  have h4 := Nat.div_add_mod (l * K) 18446744073709551616
  rw [h3] at h4
  refine ⟨h1, by omega, ?_⟩
  rw [Nat.add_mul (h * 18446744073709551616) l K, Nat.mul_right_comm h 18446744073709551616 K]
  generalize h * K = m at *
  omega
theorem unshift (M c K : Nat) (hK : 0 < K) : M * K / (c * K) = M / c ∧ M * K % (c * K) / K = M % c := by
  rw [Nat.mul_div_mul_right _ _ hK, Nat.mul_mod_mul_right, Nat.mul_div_cancel _ hK]
  exact ⟨rfl, rfl⟩
theorem or_low (S h r : Nat) (hr : r < 2 ^ S) : h * 2 ^ S ||| r = h * 2 ^ S + r := by
  rw [Nat.mul_comm, Nat.two_pow_add_eq_or_of_lt hr]
end Go.Proofs.Ytdacfnodihannaa
