/-
  Numbers in a text, and lists of them parted by commas: plain mathematics, of no program.
-/
import Derived.Test.YtdacmhnniecmhaaDoorSumMath
namespace Go.Proofs.YtdacmhnniecmhaaDoor
open Go.Lib

/-- The number of a text, an error's number. -/
def numE (l : List UInt8) : Nat × Nat := if l = [] ∨ (l.getD 0 0 = 48 ∧ 1 < l.length) then (0, 112) else readA 9223372036854775807 l 0
theorem numE_err (l : List UInt8) : (numE l).2 = 0 ∨ numE l = (0, 112) := by
  unfold numE
  split
  · exact .inr rfl
  · exact readA_err _ _ _
theorem numE_le (l : List UInt8) : (numE l).1 ≤ 9223372036854775807 := by
  unfold numE
  split
  · exact Nat.zero_le _
  · exact readA_le _ _ _ (Nat.zero_le _)
/-- What a text's digits say behind those that were read, however many. -/
def valA : List UInt8 → Nat → Option Nat
  | [], n => some n
  | c :: l, n => if c.toNat < 48 ∨ 57 < c.toNat then none else valA l (10 * n + (c.toNat - 48))
theorem valA_ge : ∀ (l : List UInt8) (n v : Nat), valA l n = some v → n * 10 ^ l.length ≤ v
  | [], n, v, h => by
    simp only [valA, Option.some.injEq] at h
    simp [h]
  | c :: l, n, v, h => by
    rw [valA] at h
    split at h
    · simp at h
    have := valA_ge l _ v h
    rw [List.length_cons, Nat.pow_succ]
    refine Nat.le_trans ?_ this
    have e : n * (10 ^ l.length * 10) = (10 * n) * 10 ^ l.length := by
      rw [Nat.mul_comm (10 ^ l.length) 10, ← Nat.mul_assoc, Nat.mul_comm n 10]
    rw [e]
    exact Nat.mul_le_mul_right _ (by omega)
theorem valA_from (l : List UInt8) (n v : Nat) (h : valA l n = some v) : n ≤ v := by
  have := valA_ge l n v h
  exact Nat.le_trans (Nat.le_mul_of_pos_right _ (Nat.pow_pos (by decide))) this
/-- What is told of all digits: within the bound, or nothing. -/
def capped (most : Nat) (o : Option Nat) : Nat × Nat := match o with
  | some v => if v ≤ most then (v, 0) else (0, 112)
  | none => (0, 112)
theorem readA_val (most : Nat) : ∀ (l : List UInt8) (n : Nat), n ≤ most → readA most l n = capped most (valA l n)
  | [], n, h => by simp [readA, valA, capped, h]
  | c :: l, n, h => by
    rw [readA, valA]
    split
    · rfl
    · split
      · rename_i g
        obtain ⟨v, hv⟩ | hv : (∃ v, valA l (10 * n + (c.toNat - 48)) = some v) ∨ valA l (10 * n + (c.toNat - 48)) = none := by
          cases valA l (10 * n + (c.toNat - 48)) with
          | some v => exact .inl ⟨v, rfl⟩
          | none => exact .inr rfl
        · have := valA_from l _ v hv
          rw [hv, capped, if_neg (by omega)]
        · rw [hv, capped]
      · exact readA_val most l _ (by omega)
/-- The number of a text, or -1. -/
def numZ (l : List UInt8) : Int := if (numE l).2 = 0 then ((numE l).1 : Int) else -1
theorem numZ_bad {l : List UInt8} (h : l.length < 1 ∨ 19 < l.length ∨ (1 < l.length ∧ l.getD 0 0 = 48)) : numZ l = -1 := by
  unfold numZ numE
  by_cases h0 : l = [] ∨ (l.getD 0 0 = 48 ∧ 1 < l.length)
  · rw [if_pos h0, if_neg (by simp)]
  rw [if_neg h0]
  have hl : 19 < l.length := by
    rcases h with h | h | h
    · exact absurd (.inl (List.length_eq_zero_iff.1 (by omega))) h0
    · exact h
    · exact absurd (.inr ⟨h.2, h.1⟩) h0
  cases l with
  | nil => simp at hl
  | cons c l =>
    rw [readA_val _ _ _ (Nat.zero_le _), valA]
    rw [List.length_cons] at hl
    split
    · rfl
    · rename_i g
      have hc : c ≠ 48 := fun e => h0 (.inr ⟨by rw [e]; rfl, by rw [List.length_cons]; omega⟩)
      have hc' : c.toNat ≠ 48 := fun e => hc (UInt8.toNat_inj.1 e)
      cases hv : valA l (10 * 0 + (c.toNat - 48)) with
      | none => rfl
      | some v =>
        have h1 := valA_ge l _ v hv
        have h2 : 10 ^ 19 ≤ 10 ^ l.length := Nat.pow_le_pow_right (by decide) (by omega)
        have h3 : 10 ^ l.length ≤ (10 * 0 + (c.toNat - 48)) * 10 ^ l.length := Nat.le_mul_of_pos_left _ (by omega)
        have h4 : ¬ v ≤ 9223372036854775807 := by omega
        simp only [capped, if_neg h4]
        rfl
theorem numZ_good {l : List UInt8} (h : ¬ (l.length < 1 ∨ 19 < l.length ∨ (1 < l.length ∧ l.getD 0 0 = 48))) :
    numZ l = match valA l 0 with
      | some v => if v ≤ 9223372036854775807 then (v : Int) else -1
      | none => -1 := by
  have e0 : numE l = capped 9223372036854775807 (valA l 0) := by
    unfold numE
    rw [if_neg (by
      rintro (e | e)
      · subst e
        exact h (.inl (by simp))
      · exact h (.inr (.inr ⟨e.2, e.1⟩))), readA_val _ _ _ (Nat.zero_le _)]
  unfold numZ
  rw [e0]
  cases valA l 0 with
  | none => rfl
  | some v =>
    rw [capped]
    by_cases hv : v ≤ 9223372036854775807
    · simp only [if_pos hv]
      rfl
    · simp only [if_neg hv]
      rfl
theorem numZ_ok {l : List UInt8} (h : (numE l).2 = 0) : numZ l = ((numE l).1 : Int) := if_pos h
theorem numZ_no {l : List UInt8} (h : numE l = (0, 112)) : numZ l = -1 := by unfold numZ; rw [h]; rfl

/-- What lies between the commas. -/
def segs : List UInt8 → List (List UInt8)
  | [] => [[]]
  | c :: l => if c = 44 then [] :: segs l else match segs l with
    | s :: r => (c :: s) :: r
    | [] => [[c]]
theorem segs_none : ∀ (l : List UInt8), (∀ c ∈ l, c ≠ 44) → segs l = [l]
  | [], _ => rfl
  | c :: l, h => by
    rw [segs, if_neg (h c (by simp)), segs_none l (fun d hd => h d (by simp [hd]))]
theorem segs_at : ∀ (l : List UInt8) (k : Nat), l[k]? = some 44 → (∀ j, j < k → l[j]? ≠ some 44) → segs l = l.take k :: segs (l.drop (k + 1))
  | [], k, h, _ => by simp at h
  | c :: l, 0, h, _ => by
    simp only [List.getElem?_cons_zero, Option.some.injEq] at h
    rw [segs, if_pos h]
    rfl
  | c :: l, k + 1, h, hno => by
    have hc : c ≠ 44 := fun e => hno 0 (by omega) (by rw [e]; rfl)
    rw [List.getElem?_cons_succ] at h
    have := segs_at l k h (fun j hj => by have := hno (j + 1) (by omega); rwa [List.getElem?_cons_succ] at this)
    rw [segs, if_neg hc, this]
    rfl
theorem segs_len : ∀ l, (segs l).length ≤ l.length + 1
  | [] => by simp [segs]
  | c :: l => by
    rw [segs]
    have := segs_len l
    split
    · simp only [List.length_cons]
      omega
    · split
      · rename_i s r e
        rw [e] at this
        simp only [List.length_cons] at this ⊢
        omega
      · simp
/-- The numbers of texts behind those that were read, or none. -/
def numsA : List (List UInt8) → List Nat → Option (List Nat)
  | [], acc => some acc
  | x :: r, acc => if (numE x).2 = 0 then numsA r (acc ++ [(numE x).1]) else none
theorem numsA_len : ∀ (L : List (List UInt8)) (acc out : List Nat), numsA L acc = some out → out.length = acc.length + L.length
  | [], acc, out, h => by
    simp only [numsA, Option.some.injEq] at h
    simp [h]
  | x :: r, acc, out, h => by
    rw [numsA] at h
    split at h
    · have := numsA_len r _ out h
      rw [this]
      simp
      omega
    · simp at h
/-- The numbers of a text, or none. -/
def numsO (l : List UInt8) : Option (List Nat) := numsA (segs l) []
theorem numsO_len {l : List UInt8} {out : List Nat} (h : numsO l = some out) : out.length ≤ l.length + 1 := by
  have := numsA_len _ _ _ h
  have := segs_len l
  simp at *
  omega

/-- A number's digits are digits. -/
theorem dec_digits : ∀ (n : Nat), ∀ c ∈ decDigits n, 48 ≤ c.toNat ∧ c.toNat ≤ 57 := by
  intro n
  induction n using Nat.strongRecOn with
  | ind n ih =>
    intro c hc
    by_cases h : n < 10
    · rw [decDigits_one h, List.mem_singleton] at hc
      rw [hc, byte_ofNat (by omega)]
      omega
    · rw [dec_step h, List.mem_append, List.mem_singleton] at hc
      rcases hc with hc | hc
      · exact ih (n / 10) (by omega) c hc
      · rw [hc, byte_ofNat (by omega)]
        omega
theorem dec_ne (n : Nat) : decDigits n ≠ [] := fun e => by
  have := digits_pos n
  rw [e] at this
  simp at this
theorem num_dec {n : Nat} (h : n ≤ 9223372036854775807) : numE (decDigits n) = (n, 0) := by
  unfold numE
  rw [if_neg, dec_read_all h]
  rintro (e | ⟨e, hl⟩)
  · exact dec_ne n e
  · by_cases h1 : 1 ≤ n
    · obtain ⟨c, l, ec, hc⟩ := dec_head h1
      rw [ec, List.getD_cons_zero] at e
      exact hc (by rw [e]; rfl)
    · obtain rfl : n = 0 := by omega
      rw [decDigits_one (by omega)] at hl
      simp at hl
theorem num_nought (n : Nat) : numE (48 :: decDigits n) = (0, 112) := by
  have := digits_pos n
  unfold numE
  rw [if_pos (.inr ⟨rfl, by rw [List.length_cons]; omega⟩)]
theorem num_plus (l : List UInt8) : numE (43 :: l) = (0, 112) := by
  unfold numE
  split
  · rfl
  · rw [readA, if_pos (.inl (by decide))]
theorem readA_blank (most : Nat) (l : List UInt8) : ∀ (a : List UInt8) (n : Nat), readA most (a ++ 32 :: l) n = (0, 112)
  | [], n => by rw [List.nil_append, readA, if_pos (.inl (by decide))]
  | c :: a, n => by
    rw [List.cons_append, readA]
    split
    · rfl
    · split
      · rfl
      · exact readA_blank most l a _
theorem num_blank (l : List UInt8) : numE (l ++ [32]) = (0, 112) := by
  unfold numE
  split
  · rfl
  · exact readA_blank _ _ _ _
theorem nums_two {n : Nat} (h : n ≤ 9223372036854775807) : numsO (decDigits n ++ 44 :: decDigits n) = some [n, n] := by
  have hno : ∀ c ∈ decDigits n, c ≠ 44 := fun c hc e => by
    have := dec_digits n c hc
    rw [e] at this
    simp at this
  unfold numsO
  rw [segs_at _ (decDigits n).length (by simp) (fun j hj => by
    rw [List.getElem?_append_left hj]
    intro e
    exact hno _ (List.mem_of_getElem? e) rfl)]
  rw [List.take_left, show (decDigits n ++ 44 :: decDigits n).drop ((decDigits n).length + 1) = decDigits n by
    rw [List.drop_append, List.drop_eq_nil_of_le (by omega)]
    simp, segs_none _ hno]
  simp only [numsA, num_dec h]
  rfl
end Go.Proofs.YtdacmhnniecmhaaDoor
