/-
  Fields: how a tag's digits are read, what a field's form is, how fields are read: plain mathematics, of no program.
-/
import Derived.Test.YtdacmhnniecmhaaDoorTagText
import Derived.Lib.ItoaNum
namespace Go.Proofs.YtdacmhnniecmhaaDoor
open Go.Lib

/-- A text out of its bytes. -/
def mk (l : List UInt8) : ByteArray := ⟨l.toArray⟩
theorem mk_list (l : List UInt8) : (mk l).data.toList = l := rfl
theorem list_mk (s : ByteArray) : mk s.data.toList = s := by
  obtain ⟨⟨a⟩⟩ := s
  rfl
theorem mk_size (l : List UInt8) : (mk l).size = l.length := by simp [mk, ByteArray.size]
/-- The tag at the beginning of a text, behind k digits that say num: the number, where the value begins, an error's number. -/
def tagR : List UInt8 → Nat → Nat → Nat × Nat × Nat
  | [], _, _ => (0, 0, 82)
  | c :: l, k, num =>
    if 0 < k ∧ c.toNat = 61 then (num, k + 1, 0)
    else if c.toNat < 48 ∨ 57 < c.toNat ∨ (k = 0 ∧ c.toNat = 48) then (0, 0, 80)
    else if 99999 < 10 * num + (c.toNat - 48) then (0, 0, 80)
    else tagR l (k + 1) (10 * num + (c.toNat - 48))
theorem byte_ofNat {n : Nat} (h : n < 256) : (UInt8.ofNat n).toNat = n := by simp; omega
theorem digits_pos (n : Nat) : 1 ≤ (decDigits n).length := by
  rw [decDigits]
  split
  · simp
  · simp
/-- A number's digits are read as the number. -/
theorem tag_digits : ∀ (n : Nat) (rest : List UInt8), 1 ≤ n → n ≤ 99999 → tagR (decDigits n ++ rest) 0 0 = tagR rest (decDigits n).length n := by
  intro n
  induction n using Nat.strongRecOn with
  | ind n ih =>
    intro rest h1 h2
    by_cases h : n < 10
    · rw [decDigits_one h]
      have e : (UInt8.ofNat (48 + n)).toNat = 48 + n := byte_ofNat (by omega)
      simp only [List.cons_append, List.nil_append, List.length_cons, List.length_nil]
      rw [tagR, e, if_neg (by omega), if_neg (by omega), if_neg (by omega), show 10 * 0 + (48 + n - 48) = n by omega]
    · have hd : decDigits n = decDigits (n / 10) ++ [UInt8.ofNat (48 + n % 10)] := by rw [decDigits, dif_neg h]
      have e : (UInt8.ofNat (48 + n % 10)).toNat = 48 + n % 10 := byte_ofNat (by omega)
      have hp := digits_pos (n / 10)
      rw [hd, List.append_assoc, ih (n / 10) (by omega) _ (by omega) (by omega)]
      simp only [List.cons_append, List.nil_append, List.length_append, List.length_cons, List.length_nil]
      rw [tagR, e, if_neg (by omega), if_neg (by omega), if_neg (by omega), show 10 * (n / 10) + (48 + n % 10 - 48) = n by omega]
/-- The digits that were read so far. -/
def soFar (k num : Nat) : List UInt8 := if k = 0 then [] else decDigits num
/-- What is read as a number are its digits. -/
theorem tag_read : ∀ (l : List UInt8) (k num N b : Nat), (k = 0 → num = 0) → (0 < k → 1 ≤ num ∧ num ≤ 99999 ∧ (decDigits num).length = k) → tagR l k num = (N, b, 0) →
    ∃ m, b = k + m + 1 ∧ m < l.length ∧ soFar k num ++ l.take m = decDigits N ∧ l.getD m 0 = 61 ∧ 1 ≤ N ∧ N ≤ 99999
  | [], k, num, N, b, _, _, h => by simp [tagR] at h
  | c :: l, k, num, N, b, h0, h1, h => by
    rw [tagR] at h
    by_cases g1 : 0 < k ∧ c.toNat = 61
    · rw [if_pos g1] at h
      simp only [Prod.mk.injEq, and_true] at h
      obtain ⟨rfl, rfl⟩ := h
      obtain ⟨a1, a2, a3⟩ := h1 g1.1
      refine ⟨0, by omega, by simp, ?_, ?_, a1, a2⟩
      · simp [soFar, show ¬ k = 0 by omega]
      · simp only [List.getD_cons_zero]
        exact UInt8.toNat_inj.1 g1.2
    · rw [if_neg g1] at h
      by_cases g2 : c.toNat < 48 ∨ 57 < c.toNat ∨ (k = 0 ∧ c.toNat = 48)
      · rw [if_pos g2] at h
        simp at h
      · rw [if_neg g2] at h
        by_cases g3 : 99999 < 10 * num + (c.toNat - 48)
        · rw [if_pos g3] at h
          simp at h
        · rw [if_neg g3] at h
          have ec : c = UInt8.ofNat (48 + (c.toNat - 48)) := by
            apply UInt8.toNat_inj.1
            rw [byte_ofNat (by omega)]
            omega
          have hs : decDigits (10 * num + (c.toNat - 48)) = soFar k num ++ [c] := by
            by_cases k0 : k = 0
            · rw [h0 k0, soFar, if_pos k0, decDigits_one (by omega)]
              simp only [List.nil_append, Nat.mul_zero, Nat.zero_add]
              rw [← ec]
            · obtain ⟨a1, _, _⟩ := h1 (by omega)
              rw [decDigits, dif_neg (by omega), soFar, if_neg k0, show (10 * num + (c.toNat - 48)) / 10 = num by omega, show (10 * num + (c.toNat - 48)) % 10 = c.toNat - 48 by omega, ← ec]
          obtain ⟨m, r1, r2, r3, r4, r5⟩ := tag_read l (k + 1) (10 * num + (c.toNat - 48)) N b (by omega) (fun _ => ⟨by
            by_cases k0 : k = 0
            · omega
            · have := (h1 (by omega)).1
              omega, by omega, by
            rw [hs, List.length_append]
            by_cases k0 : k = 0
            · simp [soFar, k0]
            · rw [soFar, if_neg k0, (h1 (by omega)).2.2]
              rfl⟩) h
          refine ⟨m + 1, by omega, by simp; omega, ?_, ?_, r5⟩
          · have e : soFar (k + 1) (10 * num + (c.toNat - 48)) = soFar k num ++ [c] := by
              rw [← hs]
              unfold soFar
              rw [if_neg (by omega)]
            rw [List.take_succ_cons, ← r3, e]
            simp
          · rw [List.getD_cons_succ]
            exact r4

/-- A field: a tag and a value. -/
abbrev Fd := Int × ByteArray
def none8 : Fd := (0, mk [])
/-- A text is a value. -/
def valB (v : List UInt8) : Bool := decide (1 ≤ v.length ∧ runM 512 v = v.length)
theorem valB_true {v : List UInt8} : valB v = true ↔ ValOk v := by
  unfold valB ValOk
  rw [decide_eq_true_eq]
  have h1 := runM_le 512 v
  constructor
  · rintro ⟨a, b⟩
    exact ⟨a, by omega, (val_run (by omega)).1 b⟩
  · rintro ⟨a, b, c⟩
    exact ⟨a, (val_run b).2 c⟩
/-- A field's form, an error's number. -/
def formE (f : Fd) : List UInt8 × Nat :=
  if f.1 < 1 ∨ 99999 < f.1 then ([], 80) else if valB f.2.data.toList = false then ([], 81) else (decDigits f.1.toNat ++ 61 :: (f.2.data.toList ++ [1]), 0)
/-- The forms of fields, behind what was formed so far. -/
def formsA : List Fd → List UInt8 → List UInt8 × Nat
  | [], acc => (acc, 0)
  | f :: r, acc => if (formE f).2 = 0 then formsA r (acc ++ (formE f).1) else ([], (formE f).2)
def formsE (L : List Fd) : List UInt8 × Nat := if 64 < L.length then ([], 3) else formsA L []
/-- The field at the beginning of a text, its bytes, an error's number. -/
def nextL (l : List UInt8) : Fd × Nat × Nat :=
  if (tagR l 0 0).2.2 = 0 then
    (if runM 512 (l.drop (tagR l 0 0).2.1) = (l.drop (tagR l 0 0).2.1).length then (none8, 0, 82)
     else if runM 512 (l.drop (tagR l 0 0).2.1) = 0 ∨ (l.drop (tagR l 0 0).2.1).getD (runM 512 (l.drop (tagR l 0 0).2.1)) 0 ≠ 1 then (none8, 0, 81)
     else (((tagR l 0 0).1, mk ((l.drop (tagR l 0 0).2.1).take (runM 512 (l.drop (tagR l 0 0).2.1)))), (tagR l 0 0).2.1 + runM 512 (l.drop (tagR l 0 0).2.1) + 1, 0))
  else (none8, 0, (tagR l 0 0).2.2)
/-- All fields of a text, k more of them at most, behind those that were read so far. -/
def fieldsA : Nat → List UInt8 → List Fd → Nat → List Fd × Nat × Nat
  | 0, l, acc, at_ => if l = [] then (acc, at_, 0) else (acc, at_, 3)
  | k + 1, l, acc, at_ => if l = [] then (acc, at_, 0) else if (nextL l).2.2 = 0 then fieldsA k (l.drop (nextL l).2.1) (acc ++ [(nextL l).1]) (at_ + (nextL l).2.1) else (acc, at_, (nextL l).2.2)
def fieldsL (l : List UInt8) : List Fd × Nat × Nat := fieldsA 64 l [] 0

theorem formE_ok {f : Fd} {x : List UInt8} (h : formE f = (x, 0)) : 1 ≤ f.1 ∧ f.1 ≤ 99999 ∧ ValOk f.2.data.toList ∧ x = decDigits f.1.toNat ++ 61 :: (f.2.data.toList ++ [1]) := by
  unfold formE at h
  by_cases h1 : f.1 < 1 ∨ 99999 < f.1
  · rw [if_pos h1] at h
    simp at h
  · rw [if_neg h1] at h
    cases hv : valB f.2.data.toList
    · rw [if_pos hv] at h
      simp at h
    · rw [if_neg (by rw [hv]; simp)] at h
      simp only [Prod.mk.injEq, and_true] at h
      exact ⟨by omega, by omega, valB_true.1 hv, h.symm⟩
/-- What is read is formed again as the same bytes. -/
theorem next_form {l : List UInt8} (h : (nextL l).2.2 = 0) : formE (nextL l).1 = (l.take (nextL l).2.1, 0) ∧ 1 ≤ (nextL l).2.1 ∧ (nextL l).2.1 ≤ l.length := by
  unfold nextL at h ⊢
  by_cases h1 : (tagR l 0 0).2.2 = 0
  · rw [if_pos h1] at h ⊢
    obtain ⟨N, b, e0⟩ : ∃ N b, tagR l 0 0 = (N, b, 0) := ⟨(tagR l 0 0).1, (tagR l 0 0).2.1, Prod.ext rfl (Prod.ext rfl h1)⟩
    rw [e0] at h ⊢
    dsimp only at h ⊢
    obtain ⟨m, rfl, hm, hd, hc, n1, n2⟩ := tag_read l 0 0 N b (fun _ => rfl) (fun h => by omega) e0
    have hle := runM_le 512 (l.drop (0 + m + 1))
    generalize hp : runM 512 (l.drop (0 + m + 1)) = p at *
    by_cases h2 : p = (l.drop (0 + m + 1)).length
    · rw [if_pos h2] at h
      simp at h
    · rw [if_neg h2] at h ⊢
      by_cases h3 : p = 0 ∨ (l.drop (0 + m + 1)).getD p 0 ≠ 1
      · rw [if_pos h3] at h
        simp at h
      · rw [if_neg h3]
        dsimp only
        have hp0 : p ≠ 0 := fun e => h3 (.inl e)
        have hp1 : (l.drop (0 + m + 1)).getD p 0 = 1 := Classical.byContradiction fun e => h3 (.inr e)
        rw [List.length_drop] at hle h2
        have hv : ValOk ((l.drop (0 + m + 1)).take p) := by
          refine ⟨by rw [List.length_take, List.length_drop]; omega, by rw [List.length_take]; omega, ?_⟩
          have := run_may 512 (l.drop (0 + m + 1))
          rw [hp] at this
          exact this
        refine ⟨?_, by omega, by omega⟩
        unfold formE
        dsimp only
        rw [if_neg (by omega), mk_list, if_neg (by rw [valB_true.2 hv]; simp), Int.toNat_natCast]
        have hsf : soFar 0 0 = [] := rfl
        rw [hsf, List.nil_append] at hd
        rw [← hd]
        have e1 : l.take (0 + m + 1 + p + 1) = l.take (0 + m + 1) ++ (l.drop (0 + m + 1)).take (p + 1) := by
          rw [show 0 + m + 1 + p + 1 = (0 + m + 1) + (p + 1) by omega, List.take_add]
        have e2 : (l.drop (0 + m + 1)).take (p + 1) = (l.drop (0 + m + 1)).take p ++ [1] := by
          rw [List.take_add_one]
          congr 1
          have hlt : p < (l.drop (0 + m + 1)).length := by rw [List.length_drop]; omega
          rw [List.getD_eq_getElem?_getD, List.getElem?_eq_getElem hlt] at hp1
          rw [List.getElem?_eq_getElem hlt]
          simp at hp1
          simp [hp1]
        have e3 : l.take (0 + m + 1) = l.take m ++ [61] := by
          rw [show 0 + m + 1 = m + 1 by omega, List.take_add_one]
          congr 1
          rw [List.getD_eq_getElem?_getD, List.getElem?_eq_getElem hm] at hc
          rw [List.getElem?_eq_getElem hm]
          simp at hc
          simp [hc]
        rw [e1, e2, e3]
        simp
  · rw [if_neg h1] at h
    exact absurd h h1
/-- What is formed is read as it was, whatever follows. -/
theorem form_next {f : Fd} {x : List UInt8} (rest : List UInt8) (h : formE f = (x, 0)) : nextL (x ++ rest) = (f, x.length, 0) ∧ x ≠ [] := by
  obtain ⟨h1, h2, h3, rfl⟩ := formE_ok h
  obtain ⟨t, v⟩ := f
  dsimp only at *
  obtain ⟨n, rfl⟩ : ∃ n : Nat, t = (n : Int) := ⟨t.toNat, by omega⟩
  rw [Int.toNat_natCast]
  have hp := digits_pos n
  obtain ⟨a1, a2, a3⟩ := h3
  have ev := list_mk v
  generalize hV : v.data.toList = V at *
  have et : tagR (decDigits n ++ 61 :: (V ++ [1]) ++ rest) 0 0 = (n, (decDigits n).length + 1, 0) := by
    rw [List.append_assoc, tag_digits n _ (by omega) (by omega)]
    simp only [List.cons_append]
    rw [tagR, if_pos ⟨by omega, rfl⟩]
  have ed : (decDigits n ++ 61 :: (V ++ [1]) ++ rest).drop ((decDigits n).length + 1) = V ++ (1 :: rest) := by
    rw [List.append_assoc, ← List.drop_drop, List.drop_left']
    · simp
    · rfl
  have er : runM 512 (V ++ (1 :: rest)) = V.length := by
    rw [run_through V _ 512 a3 a2, runM_step _ (by simp), decode_one 1 rest (by decide), if_neg (fun e => absurd e.1 (by decide))]
    omega
  constructor
  · unfold nextL
    rw [et]
    dsimp only
    rw [if_pos rfl, ed, er, if_neg (by simp), if_neg (by
      rintro (e | e)
      · omega
      · apply e
        rw [List.getD_eq_getElem?_getD, List.getElem?_append_right (Nat.le_refl _)]
        simp), List.take_left' rfl, ev]
    simp
    omega
  · simp
end Go.Proofs.YtdacmhnniecmhaaDoor
