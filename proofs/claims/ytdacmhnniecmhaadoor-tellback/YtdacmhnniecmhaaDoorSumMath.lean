/-
  Sums of bytes, three digits, lengths: plain mathematics, of no program.
-/
import Derived.Test.YtdacmhnniecmhaaDoorBytes
namespace Go.Proofs.YtdacmhnniecmhaaDoor
open Go.Lib

/-- All bytes of a text together. -/
def tot : List UInt8 → Nat
  | [] => 0
  | c :: l => c.toNat + tot l
theorem tot_append : ∀ (a b : List UInt8), tot (a ++ b) = tot a + tot b
  | [], b => by simp [tot]
  | c :: a, b => by simp only [List.cons_append, tot, tot_append a b]; omega
/-- A text's sum. -/
def sumL (l : List UInt8) : Nat := tot l % 256
theorem sumL_lt (l : List UInt8) : sumL l < 256 := Nat.mod_lt _ (by decide)
theorem sum_join (a b : List UInt8) : (sumL a + sumL b) % 256 = sumL (a ++ b) := by
  unfold sumL
  rw [tot_append]
  omega
theorem sum_tells (a b : List UInt8) (x y : UInt8) (h : x ≠ y) : sumL (a ++ x :: b) ≠ sumL (a ++ y :: b) := by
  have hx := UInt8.toNat_lt x
  have hy := UInt8.toNat_lt y
  have hn : x.toNat ≠ y.toNat := fun e => h (UInt8.toNat_inj.1 e)
  unfold sumL
  rw [tot_append, tot_append, tot, tot]
  omega

/-- The digit of n behind which j digits stand. -/
def dig (n j : Nat) : Nat := n / 10 ^ j % 10
theorem dig_lt (n j : Nat) : dig n j < 10 := Nat.mod_lt _ (by decide)
/-- Three digits. -/
def three (n : Nat) : List UInt8 := [UInt8.ofNat (48 + n / 100 % 10), UInt8.ofNat (48 + n / 10 % 10), UInt8.ofNat (48 + n % 10)]
/-- The number, at most so great, that a text's digits say behind those that were read, an error's number. -/
def readA (most : Nat) : List UInt8 → Nat → Nat × Nat
  | [], num => (num, 0)
  | c :: l, num => if c.toNat < 48 ∨ 57 < c.toNat then (0, 112) else if most < 10 * num + (c.toNat - 48) then (0, 112) else readA most l (10 * num + (c.toNat - 48))
theorem readA_le (most : Nat) : ∀ (l : List UInt8) (num : Nat), num ≤ most → (readA most l num).1 ≤ most
  | [], num, h => h
  | c :: l, num, h => by
    rw [readA]
    split
    · exact Nat.zero_le _
    · split
      · exact Nat.zero_le _
      · exact readA_le most l _ (by omega)
theorem readA_err (most : Nat) : ∀ (l : List UInt8) (num : Nat), (readA most l num).2 = 0 ∨ readA most l num = (0, 112)
  | [], num => .inl rfl
  | c :: l, num => by
    rw [readA]
    split
    · exact .inr rfl
    · split
      · exact .inr rfl
      · exact readA_err most l _
theorem byte_back {c : UInt8} (h1 : 48 ≤ c.toNat) (h2 : c.toNat ≤ 57) {d : Nat} (h : d = c.toNat - 48) : UInt8.ofNat (48 + d) = c := by
  apply UInt8.toNat_inj.1
  rw [byte_ofNat (by omega)]
  omega
/-- Three digits are read as the number. -/
theorem three_read {n : Nat} (h : n < 256) : readA 255 (three n) 0 = (n, 0) := by
  have e2 : (UInt8.ofNat (48 + n / 100 % 10)).toNat = 48 + n / 100 % 10 := byte_ofNat (by omega)
  have e1 : (UInt8.ofNat (48 + n / 10 % 10)).toNat = 48 + n / 10 % 10 := byte_ofNat (by omega)
  have e0 : (UInt8.ofNat (48 + n % 10)).toNat = 48 + n % 10 := byte_ofNat (by omega)
  unfold three
  rw [readA, e2, if_neg (by omega), if_neg (by omega), readA, e1, if_neg (by omega), if_neg (by omega), readA, e0, if_neg (by omega), if_neg (by omega), readA]
  congr 1
  omega
/-- What is read of three bytes has them as its digits. -/
theorem read_three {l : List UInt8} {n : Nat} (hl : l.length = 3) (h : readA 255 l 0 = (n, 0)) : n < 256 ∧ three n = l := by
  match l, hl with
  | [a, b, c], _ =>
    rw [readA] at h
    split at h
    · simp at h
    split at h
    · simp at h
    rw [readA] at h
    split at h
    · simp at h
    split at h
    · simp at h
    rw [readA] at h
    split at h
    · simp at h
    split at h
    · simp at h
    rw [readA, Prod.mk.injEq] at h
    obtain ⟨h, _⟩ := h
    refine ⟨by omega, ?_⟩
    unfold three
    rw [byte_back (c := a) (by omega) (by omega) (by omega), byte_back (c := b) (by omega) (by omega) (by omega), byte_back (c := c) (by omega) (by omega) (by omega)]
theorem three_len (n : Nat) : (three n).length = 3 := rfl
theorem three_inj {m n : Nat} (hm : m < 256) (hn : n < 256) (h : three m = three n) : m = n := by
  have := three_read hm
  rw [h, three_read hn] at this
  exact ((Prod.mk.injEq .. ▸ this).1).symm
theorem dec_step {n : Nat} (h : ¬ n < 10) : decDigits n = decDigits (n / 10) ++ [UInt8.ofNat (48 + n % 10)] := by rw [decDigits, dif_neg h]
/-- A number's digits, at most four of them. -/
theorem dec_four {n : Nat} (h : n ≤ 9999) : decDigits n =
    if n < 10 then [UInt8.ofNat (48 + n % 10)] else if n < 100 then [UInt8.ofNat (48 + n / 10 % 10), UInt8.ofNat (48 + n % 10)]
    else if n < 1000 then three n else UInt8.ofNat (48 + n / 1000 % 10) :: three n := by
  by_cases h1 : n < 10
  · rw [if_pos h1, decDigits_one h1, Nat.mod_eq_of_lt h1]
  rw [if_neg h1]
  by_cases h2 : n < 100
  · rw [if_pos h2, decDigits_two h1 h2, Nat.mod_eq_of_lt (show n / 10 < 10 by omega)]
  rw [if_neg h2]
  by_cases h3 : n < 1000
  · rw [if_pos h3, dec_step h1, decDigits_two (by omega) (by omega), Nat.div_div_eq_div_mul]
    unfold three
    rw [Nat.mod_eq_of_lt (show n / 100 < 10 by omega)]
    rfl
  · rw [if_neg h3, dec_step h1, dec_step (by omega), decDigits_two (by omega) (by omega), show n / 10 / 10 / 10 = n / 1000 by omega, show n / 10 / 10 = n / 100 by omega]
    unfold three
    rw [Nat.mod_eq_of_lt (show n / 1000 < 10 by omega)]
    rfl
theorem dec_len {n : Nat} (h : n ≤ 9999) : (decDigits n).length ≤ 4 := by
  rw [dec_four h]
  split
  · simp
  · split
    · simp
    · split
      · simp [three]
      · simp [three]
/-- The reference's three digits. -/
theorem three_dec {n : Nat} (h : n < 256) : (48 :: 48 :: decDigits n).drop ((decDigits n).length + 2 - 3) = three n := by
  rw [dec_four (by omega)]
  have e48 : (48 : UInt8) = UInt8.ofNat (48 + 0) := rfl
  split
  · simp only [List.length_cons, List.length_nil]
    unfold three
    rw [show n / 100 % 10 = 0 by omega, show n / 10 % 10 = 0 by omega]
    rfl
  · split
    · simp only [List.length_cons, List.length_nil]
      unfold three
      rw [show n / 100 % 10 = 0 by omega]
      rfl
    · rw [if_pos (by omega), three_len]
      rfl
/-- A length's digits are read as the length. -/
theorem dec_read (most : Nat) : ∀ (n : Nat) (rest : List UInt8), n ≤ most → readA most (decDigits n ++ rest) 0 = readA most rest n := by
  intro n
  induction n using Nat.strongRecOn with
  | ind n ih =>
    intro rest h2
    by_cases h : n < 10
    · rw [decDigits_one h]
      have e : (UInt8.ofNat (48 + n)).toNat = 48 + n := byte_ofNat (by omega)
      simp only [List.cons_append, List.nil_append]
      rw [readA, e, if_neg (by omega), if_neg (by omega), show 10 * 0 + (48 + n - 48) = n by omega]
    · have e : (UInt8.ofNat (48 + n % 10)).toNat = 48 + n % 10 := byte_ofNat (by omega)
      rw [dec_step h, List.append_assoc, ih (n / 10) (by omega) _ (by omega)]
      simp only [List.cons_append, List.nil_append]
      rw [readA, e, if_neg (by omega), if_neg (by omega), show 10 * (n / 10) + (48 + n % 10 - 48) = n by omega]
theorem dec_read_all {most n : Nat} (h : n ≤ most) : readA most (decDigits n) 0 = (n, 0) := by
  have := dec_read most n [] h
  rw [List.append_nil] at this
  rw [this, readA]
theorem read_dec_from (most : Nat) : ∀ (l : List UInt8) (num n : Nat), 1 ≤ num → num ≤ most → readA most l num = (n, 0) → decDigits n = decDigits num ++ l ∧ 1 ≤ n ∧ n ≤ most
  | [], num, n, h1, h2, h => by
    rw [readA, Prod.mk.injEq] at h
    obtain ⟨rfl, _⟩ := h
    exact ⟨by simp, h1, h2⟩
  | c :: l, num, n, h1, h2, h => by
    rw [readA] at h
    split at h
    · simp at h
    rename_i g1
    split at h
    · simp at h
    rename_i g2
    obtain ⟨a, b⟩ := read_dec_from most l _ n (by omega) (by omega) h
    refine ⟨?_, b⟩
    rw [a, dec_step (by omega), show (10 * num + (c.toNat - 48)) / 10 = num by omega, byte_back (c := c) (by omega) (by omega) (by omega)]
    simp
/-- What is read as a length are its digits. -/
theorem read_dec {most : Nat} {c : UInt8} {l : List UInt8} {n : Nat} (hc : c.toNat ≠ 48) (h : readA most (c :: l) 0 = (n, 0)) : decDigits n = c :: l ∧ 1 ≤ n ∧ n ≤ most := by
  rw [readA] at h
  split at h
  · simp at h
  split at h
  · simp at h
  obtain ⟨a, b⟩ := read_dec_from most l _ n (by omega) (by omega) h
  refine ⟨?_, b⟩
  rw [a, decDigits_one (by omega), byte_back (c := c) (by omega) (by omega) (by omega)]
  simp
theorem dec_inj {m n : Nat} (h : decDigits m = decDigits n) : m = n := by
  have h1 := dec_read_all (most := m + n) (n := m) (by omega)
  have h2 := dec_read_all (most := m + n) (n := n) (by omega)
  rw [h, h2] at h1
  exact ((Prod.mk.injEq .. ▸ h1).1).symm
theorem dec_head {n : Nat} (h : 1 ≤ n) : ∃ c l, decDigits n = c :: l ∧ c.toNat ≠ 48 := by
  induction n using Nat.strongRecOn with
  | ind n ih =>
    by_cases h1 : n < 10
    · refine ⟨_, [], decDigits_one h1, ?_⟩
      rw [byte_ofNat (by omega)]
      omega
    · obtain ⟨c, l, e, hc⟩ := ih (n / 10) (by omega) (by omega)
      refine ⟨c, l ++ [UInt8.ofNat (48 + n % 10)], ?_, hc⟩
      rw [dec_step h1, e]
      rfl
/-- The length that a text says, an error's number. -/
def lengthE (l : List UInt8) : Nat × Nat := if l.getD 0 48 = 48 then (0, 112) else readA 4096 l 0
/-- The sum that a text says, an error's number. -/
def sumE (l : List UInt8) : Nat × Nat := if l.length = 3 then readA 255 l 0 else (0, 112)
/-- Of a text and a way to write numbers: the answer is the number that is written so, or none. -/
def Found (f : Nat → List UInt8) (lo hi : Nat) (l : List UInt8) (y : Int) : Prop :=
  (y = -1 ∧ ∀ n, lo ≤ n → n < hi → f n ≠ l) ∨ ∃ n : Nat, lo ≤ n ∧ n < hi ∧ f n = l ∧ y = (n : Int)
theorem found_sum {l : List UInt8} {y : Int} (h : Found three 0 256 l y) : ((sumE l).2 = 0 ∧ y = ((sumE l).1 : Int)) ∨ (sumE l = (0, 112) ∧ y = -1) := by
  rcases h with ⟨rfl, h⟩ | ⟨n, _, hn, rfl, rfl⟩
  · right
    refine ⟨?_, rfl⟩
    unfold sumE
    by_cases hl : l.length = 3
    · rw [if_pos hl]
      rcases readA_err 255 l 0 with e | e
      · obtain ⟨h1, h2⟩ := read_three hl (n := (readA 255 l 0).1) (Prod.ext rfl e)
        exact absurd h2 (h _ (Nat.zero_le _) h1)
      · exact e
    · rw [if_neg hl]
  · left
    unfold sumE
    rw [if_pos (three_len n), three_read hn]
    exact ⟨rfl, rfl⟩
theorem found_len {l : List UInt8} {y : Int} (h : Found decDigits 1 4097 l y) : ((lengthE l).2 = 0 ∧ y = ((lengthE l).1 : Int)) ∨ (lengthE l = (0, 112) ∧ y = -1) := by
  rcases h with ⟨rfl, h⟩ | ⟨n, h1, hn, rfl, rfl⟩
  · right
    refine ⟨?_, rfl⟩
    unfold lengthE
    cases l with
    | nil => rfl
    | cons c l =>
      rw [List.getD_cons_zero]
      by_cases hc : c = 48
      · rw [if_pos hc]
      · rw [if_neg hc]
        rcases readA_err 4096 (c :: l) 0 with e | e
        · obtain ⟨a1, a2, a3⟩ := read_dec (n := (readA 4096 (c :: l) 0).1) (fun e => hc (UInt8.toNat_inj.1 e)) (Prod.ext rfl e)
          exact absurd a1 (h _ a2 (by omega))
        · exact e
  · left
    unfold lengthE
    obtain ⟨c, r, e, hc⟩ := dec_head h1
    have : ¬ (decDigits n).getD 0 48 = 48 := by
      rw [e, List.getD_cons_zero]
      intro k
      exact hc (by rw [k]; rfl)
    rw [if_neg this, dec_read_all (by omega)]
    exact ⟨rfl, rfl⟩
end Go.Proofs.YtdacmhnniecmhaaDoor
