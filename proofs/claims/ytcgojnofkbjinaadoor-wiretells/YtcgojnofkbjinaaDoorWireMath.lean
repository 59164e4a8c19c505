/-
  Messages: what is ahead of the trailer, the trailer, how a message is sealed and opened: plain mathematics, of no program.
-/
import Derived.Test.YtcgojnofkbjinaaDoorSumMath
namespace Go.Proofs.YtcgojnofkbjinaaDoor
open Go.Lib

/-- What every message begins with. -/
def beginL : List UInt8 := [56, 61, 70, 73, 88, 46, 52, 46, 52, 1, 57, 61]
/-- All of a message that stands ahead of its trailer. -/
def aheadL (b : List UInt8) : List UInt8 := beginL ++ decDigits b.length ++ [1] ++ b
/-- The trailer of what stands ahead of it. -/
def trailL (a : List UInt8) : List UInt8 := [49, 48, 61] ++ three (sumL a) ++ [1]
/-- A body's message. -/
def formL (b : List UInt8) : List UInt8 := aheadL b ++ trailL (aheadL b)
theorem trail_len (a : List UInt8) : (trailL a).length = 7 := by simp [trailL, three]
/-- A body as a message, an error's number. -/
def sealE (b : List UInt8) : List UInt8 × Nat :=
  if b.length < 1 ∨ 4096 < b.length then ([], 102) else if (fieldsL b).2.2 = 0 then (formL b, 0) else ([], (fieldsL b).2.2)
/-- Does a text begin so? 0, or an error's number. -/
def begR : List UInt8 → List UInt8 → Nat
  | [], _ => 0
  | _ :: _, [] => 100
  | b :: bs, c :: l => if c = b then begR bs l else 101
/-- The length at the beginning of a text, behind k digits that say num: the number, where the body begins, an error's number. -/
def lenR : List UInt8 → Nat → Nat → Nat × Nat × Nat
  | [], _, _ => (0, 0, 100)
  | c :: l, k, num =>
    if 0 < k ∧ c.toNat = 1 then (num, k + 1, 0)
    else if c.toNat < 48 ∨ 57 < c.toNat ∨ (k = 0 ∧ c.toNat = 48) then (0, 0, 102)
    else if 4096 < 10 * num + (c.toNat - 48) then (0, 0, 102)
    else lenR l (k + 1) (10 * num + (c.toNat - 48))
/-- The body of the message at the beginning of a text, behind its length: n bytes, from at_ on. -/
def restE (l : List UInt8) (n at_ : Nat) : List UInt8 × Nat × Nat :=
  if l.length < at_ + n + 7 then ([], 0, 100)
  else if (l.drop (at_ + n)).take 7 = trailL (l.take (at_ + n)) then
    (if (fieldsL ((l.drop at_).take n)).2.2 = 0 then ((l.drop at_).take n, at_ + n + 7, 0) else ([], 0, (fieldsL ((l.drop at_).take n)).2.2))
  else ([], 0, 103)
/-- The body of the message at the beginning of a text, its bytes, an error's number. -/
def openE (l : List UInt8) : List UInt8 × Nat × Nat :=
  if begR beginL l = 0 then
    (if (lenR (l.drop 12) 0 0).2.2 = 0 then restE l (lenR (l.drop 12) 0 0).1 (12 + (lenR (l.drop 12) 0 0).2.1) else ([], 0, (lenR (l.drop 12) 0 0).2.2))
  else ([], 0, begR beginL l)
/-- All messages of a text, k of them at most, behind those that were read so far: the bodies, the place, an error's number. -/
def cutA : Nat → List UInt8 → List (List UInt8) → Nat → List (List UInt8) × Nat × Nat
  | 0, _, acc, at_ => (acc, at_, 0)
  | k + 1, l, acc, at_ =>
    if l = [] then (acc, at_, 0)
    else if (openE l).2.2 = 0 then cutA k (l.drop (openE l).2.1) (acc ++ [(openE l).1]) (at_ + (openE l).2.1)
    else (acc, at_, (openE l).2.2)
def cutE (l : List UInt8) : List (List UInt8) × Nat × Nat := cutA l.length l [] 0

theorem begR_zero : ∀ (bs l : List UInt8), begR bs l = 0 → l.take bs.length = bs
  | [], l, _ => by simp
  | b :: bs, [], h => by simp [begR] at h
  | b :: bs, c :: l, h => by
    rw [begR] at h
    by_cases e : c = b
    · rw [if_pos e] at h
      rw [List.length_cons, List.take_succ_cons, begR_zero bs l h, e]
    · rw [if_neg e] at h
      simp at h
theorem begR_pre : ∀ (bs rest : List UInt8), begR bs (bs ++ rest) = 0
  | [], _ => rfl
  | b :: bs, rest => by rw [List.cons_append, begR, if_pos rfl, begR_pre bs rest]
/-- Cut off within the beginning. -/
theorem begR_cut : ∀ (bs : List UInt8) (k : Nat), k < bs.length → begR bs (bs.take k) = 100
  | [], k, h => by simp at h
  | b :: bs, 0, _ => rfl
  | b :: bs, k + 1, h => by rw [List.take_succ_cons, begR, if_pos rfl, begR_cut bs k (by simpa using h)]
theorem begR_bad : ∀ (bs l : List UInt8), begR bs l = 0 ∨ begR bs l = 100 ∨ begR bs l = 101
  | [], _ => .inl rfl
  | _ :: _, [] => .inr (.inl rfl)
  | b :: bs, c :: l => by
    rw [begR]
    by_cases e : c = b
    · rw [if_pos e]; exact begR_bad bs l
    · rw [if_neg e]; exact .inr (.inr rfl)
/-- A length's digits are read as the length. -/
theorem len_digits : ∀ (n : Nat) (rest : List UInt8), 1 ≤ n → n ≤ 4096 → lenR (decDigits n ++ rest) 0 0 = lenR rest (decDigits n).length n := by
  intro n
  induction n using Nat.strongRecOn with
  | ind n ih =>
    intro rest h1 h2
    by_cases h : n < 10
    · rw [decDigits_one h]
      have e : (UInt8.ofNat (48 + n)).toNat = 48 + n := byte_ofNat (by omega)
      simp only [List.cons_append, List.nil_append, List.length_cons, List.length_nil]
      rw [lenR, e, if_neg (by omega), if_neg (by omega), if_neg (by omega), show 10 * 0 + (48 + n - 48) = n by omega]
    · have hd : decDigits n = decDigits (n / 10) ++ [UInt8.ofNat (48 + n % 10)] := by rw [decDigits, dif_neg h]
      have e : (UInt8.ofNat (48 + n % 10)).toNat = 48 + n % 10 := byte_ofNat (by omega)
      have hp := digits_pos (n / 10)
      rw [hd, List.append_assoc, ih (n / 10) (by omega) _ (by omega) (by omega)]
      simp only [List.cons_append, List.nil_append, List.length_append, List.length_cons, List.length_nil]
      rw [lenR, e, if_neg (by omega), if_neg (by omega), if_neg (by omega), show 10 * (n / 10) + (48 + n % 10 - 48) = n by omega]
theorem len_whole (n : Nat) (rest : List UInt8) (h1 : 1 ≤ n) (h2 : n ≤ 4096) : lenR (decDigits n ++ 1 :: rest) 0 0 = (n, (decDigits n).length + 1, 0) := by
  have hp := digits_pos n
  rw [len_digits n _ h1 h2, lenR, if_pos ⟨by omega, rfl⟩]
theorem lenR_bad : ∀ (l : List UInt8) (k num : Nat), (lenR l k num).2.2 = 0 ∨ (lenR l k num).2.2 = 100 ∨ (lenR l k num).2.2 = 102
  | [], _, _ => .inr (.inl rfl)
  | c :: l, k, num => by
    rw [lenR]
    split
    · exact .inl rfl
    · split
      · exact .inr (.inr rfl)
      · split
        · exact .inr (.inr rfl)
        · exact lenR_bad l _ _
/-- What is read as a length are its digits and the byte 1. -/
theorem len_read : ∀ (l : List UInt8) (k num N b : Nat), (k = 0 → num = 0) → (0 < k → 1 ≤ num ∧ num ≤ 4096 ∧ (decDigits num).length = k) → lenR l k num = (N, b, 0) →
    ∃ m, b = k + m + 1 ∧ m < l.length ∧ soFar k num ++ l.take m = decDigits N ∧ l.getD m 0 = 1 ∧ 1 ≤ N ∧ N ≤ 4096
  | [], k, num, N, b, _, _, h => by simp [lenR] at h
  | c :: l, k, num, N, b, h0, h1, h => by
    rw [lenR] at h
    by_cases g1 : 0 < k ∧ c.toNat = 1
    · rw [if_pos g1] at h
      simp only [Prod.mk.injEq, and_true] at h
      obtain ⟨rfl, rfl⟩ := h
      obtain ⟨a1, a2, a3⟩ := h1 g1.1
      refine ⟨0, by omega, by simp, ?_, ?_, a1, a2⟩
      · simp [soFar, show ¬ k = 0 by omega]
      · simp only [List.getD_cons_zero]
        exact UInt8.toNat_inj.1 g1.2
    · rw [if_neg g1] at h
      by_cases g2 : c.toNat < 48 ∨ 57 < c.toNat ∨ (k = 0 ∧ c.toNat = 48)
      · rw [if_pos g2] at h
        simp at h
      · rw [if_neg g2] at h
        by_cases g3 : 4096 < 10 * num + (c.toNat - 48)
        · rw [if_pos g3] at h
          simp at h
        · rw [if_neg g3] at h
          have ec : c = UInt8.ofNat (48 + (c.toNat - 48)) := by
            apply UInt8.toNat_inj.1
            rw [byte_ofNat (by omega)]
            omega
          have hs : decDigits (10 * num + (c.toNat - 48)) = soFar k num ++ [c] := by
            by_cases k0 : k = 0
            · rw [h0 k0, soFar, if_pos k0, decDigits_one (by omega)]
              simp only [List.nil_append, Nat.mul_zero, Nat.zero_add]
              rw [← ec]
            · obtain ⟨a1, _, _⟩ := h1 (by omega)
              rw [decDigits, dif_neg (by omega), soFar, if_neg k0, show (10 * num + (c.toNat - 48)) / 10 = num by omega, show (10 * num + (c.toNat - 48)) % 10 = c.toNat - 48 by omega, ← ec]
          obtain ⟨m, r1, r2, r3, r4, r5⟩ := len_read l (k + 1) (10 * num + (c.toNat - 48)) N b (by omega) (fun _ => ⟨by
            by_cases k0 : k = 0
            · omega
            · have := (h1 (by omega)).1
              omega, by omega, by
            rw [hs, List.length_append]
            by_cases k0 : k = 0
            · simp [soFar, k0]
            · rw [soFar, if_neg k0, (h1 (by omega)).2.2]
              rfl⟩) h
          refine ⟨m + 1, by omega, by simp; omega, ?_, ?_, r5⟩
          · have e : soFar (k + 1) (10 * num + (c.toNat - 48)) = soFar k num ++ [c] := by
              rw [← hs]
              unfold soFar
              rw [if_neg (by omega)]
            rw [List.take_succ_cons, ← r3, e]
            simp
          · rw [List.getD_cons_succ]
            exact r4
/-- The length of a text: what stands there. -/
theorem len_head {l : List UInt8} {N b : Nat} (h : lenR l 0 0 = (N, b, 0)) : b = (decDigits N).length + 1 ∧ b ≤ l.length ∧ l.take b = decDigits N ++ [1] ∧ 1 ≤ N ∧ N ≤ 4096 := by
  obtain ⟨m, rfl, hm, hd, hc, h1, h2⟩ := len_read l 0 0 N b (fun _ => rfl) (fun h => by omega) h
  have hsf : soFar 0 0 = [] := rfl
  rw [hsf, List.nil_append] at hd
  have hlen : (decDigits N).length = m := by rw [← hd, List.length_take]; omega
  refine ⟨by omega, by omega, ?_, h1, h2⟩
  rw [show 0 + m + 1 = m + 1 by omega, List.take_add_one, hd]
  congr 1
  rw [List.getD_eq_getElem?_getD, List.getElem?_eq_getElem hm] at hc
  rw [List.getElem?_eq_getElem hm]
  simp at hc
  simp [hc]
/-- What stands ahead of the trailer, where beginning and length are right. -/
theorem head_ahead {l : List UInt8} {N b : Nat} (hb : begR beginL l = 0) (hl : lenR (l.drop 12) 0 0 = (N, b, 0)) (hn : 12 + b + N ≤ l.length) :
    l.take (12 + b + N) = aheadL ((l.drop (12 + b)).take N) ∧ ((l.drop (12 + b)).take N).length = N := by
  obtain ⟨e1, e2, e3, e4, e5⟩ := len_head hl
  have hB : ((l.drop (12 + b)).take N).length = N := by rw [List.length_take, List.length_drop]; omega
  refine ⟨?_, hB⟩
  have h12 : l.take 12 = beginL := begR_zero beginL l hb
  unfold aheadL
  rw [hB, List.take_add, List.take_add, h12, e3]
  simp
/-- Opened the one way is opened the other way. -/
theorem open_whole {l : List UInt8} {N b : Nat} (hb : begR beginL l = 0) (hl : lenR (l.drop 12) 0 0 = (N, b, 0)) (hn : ¬ l.length < 12 + b + N + 7) :
    ((l.drop (12 + b + N)).take 7 = trailL (l.take (12 + b + N))) ↔ l.take (12 + b + N + 7) = formL ((l.drop (12 + b)).take N) := by
  obtain ⟨h1, h2⟩ := head_ahead hb hl (by omega)
  unfold formL
  have e : l.take (12 + b + N + 7) = l.take (12 + b + N) ++ (l.drop (12 + b + N)).take 7 := List.take_add
  rw [e, h1]
  constructor
  · intro h
    rw [h]
  · intro h
    exact List.append_cancel_left h
theorem ahead_len (b : List UInt8) : (aheadL b).length = 12 + (decDigits b.length).length + 1 + b.length := by
  simp [aheadL, beginL]
  omega
theorem form_len (b : List UInt8) : (formL b).length = 12 + ((decDigits b.length).length + 1) + b.length + 7 := by
  rw [formL, List.length_append, ahead_len, trail_len]
  omega
theorem form_begin (b rest : List UInt8) : begR beginL (formL b ++ rest) = 0 := by
  unfold formL aheadL
  simp only [List.append_assoc]
  exact begR_pre _ _
theorem form_length (b rest : List UInt8) (h1 : 1 ≤ b.length) (h2 : b.length ≤ 4096) : lenR ((formL b ++ rest).drop 12) 0 0 = (b.length, (decDigits b.length).length + 1, 0) := by
  have : (formL b ++ rest).drop 12 = decDigits b.length ++ 1 :: (b ++ (trailL (aheadL b) ++ rest)) := by
    unfold formL aheadL
    simp only [List.append_assoc]
    rw [List.drop_left' (by rfl)]
    simp
  rw [this, len_whole _ _ h1 h2]
theorem ahead_eq (b : List UInt8) : aheadL b = (beginL ++ decDigits b.length ++ [1]) ++ b := rfl
theorem ahead_body (b rest : List UInt8) : ((aheadL b ++ rest).drop (12 + ((decDigits b.length).length + 1))).take b.length = b := by
  rw [ahead_eq, List.append_assoc, List.drop_left' (by simp [beginL]; omega), List.take_left']
  rfl
/-- What was sealed is opened, with anything behind it. -/
theorem open_seal {b : List UInt8} {m : List UInt8} (rest : List UInt8) (h : sealE b = (m, 0)) : openE (m ++ rest) = (b, m.length, 0) ∧ m = formL b ∧ 1 ≤ b.length ∧ b.length ≤ 4096 ∧ (fieldsL b).2.2 = 0 := by
  unfold sealE at h
  by_cases h1 : b.length < 1 ∨ 4096 < b.length
  · rw [if_pos h1] at h
    simp at h
  rw [if_neg h1] at h
  by_cases h2 : (fieldsL b).2.2 = 0
  · rw [if_pos h2] at h
    simp only [Prod.mk.injEq, and_true] at h
    subst h
    refine ⟨?_, rfl, by omega, by omega, h2⟩
    have hL := form_length b rest (by omega) (by omega)
    have hlen := form_len b
    have hal := ahead_len b
    unfold openE
    rw [if_pos (form_begin b rest), hL]
    dsimp only
    rw [if_pos rfl]
    unfold restE
    have e1 : (formL b ++ rest).take (12 + ((decDigits b.length).length + 1) + b.length) = aheadL b := by
      unfold formL
      rw [List.append_assoc, List.take_left' (by omega)]
    have e2 : ((formL b ++ rest).drop (12 + ((decDigits b.length).length + 1) + b.length)).take 7 = trailL (aheadL b) := by
      unfold formL
      rw [List.append_assoc, List.drop_left' (by omega), List.take_left' (trail_len _)]
    have e3 : ((formL b ++ rest).drop (12 + ((decDigits b.length).length + 1))).take b.length = b := by
      unfold formL
      rw [List.append_assoc]
      exact ahead_body b _
    rw [if_neg (by rw [List.length_append]; omega), e1, e2, e3, if_pos rfl, if_pos h2, hlen]
  · rw [if_neg h2] at h
    simp at h
    omega
/-- What is opened is sealed as the same bytes. -/
theorem seal_open {l : List UInt8} (h : (openE l).2.2 = 0) : sealE (openE l).1 = (l.take (openE l).2.1, 0) ∧ (openE l).2.1 ≤ l.length ∧ 1 ≤ (openE l).2.1 ∧ (openE l).1.length + 19 ≤ (openE l).2.1 := by
  unfold openE at h ⊢
  by_cases hb : begR beginL l = 0
  · rw [if_pos hb] at h ⊢
    by_cases hl : (lenR (l.drop 12) 0 0).2.2 = 0
    · rw [if_pos hl] at h ⊢
      obtain ⟨N, b, hN⟩ : ∃ N b, lenR (l.drop 12) 0 0 = (N, b, 0) := ⟨_, _, Prod.ext rfl (Prod.ext rfl hl)⟩
      rw [hN] at h ⊢
      dsimp only at h ⊢
      obtain ⟨_, _, _, n1, n2⟩ := len_head hN
      unfold restE at h ⊢
      by_cases h3 : l.length < 12 + b + N + 7
      · rw [if_pos h3] at h
        simp at h
      · rw [if_neg h3] at h ⊢
        obtain ⟨a1, a2⟩ := head_ahead hb hN (by omega)
        by_cases h4 : (l.drop (12 + b + N)).take 7 = trailL (l.take (12 + b + N))
        · have hw := (open_whole hb hN h3).1 h4
          rw [if_pos h4] at h ⊢
          by_cases h5 : (fieldsL ((l.drop (12 + b)).take N)).2.2 = 0
          · rw [if_pos h5]
            dsimp only
            refine ⟨?_, by omega, by omega, by rw [a2]; omega⟩
            unfold sealE
            rw [a2, if_neg (by omega), if_pos h5, hw]
          · rw [if_neg h5] at h
            exact absurd h h5
        · rw [if_neg h4] at h
          simp at h
    · rw [if_neg hl] at h
      exact absurd h hl
  · rw [if_neg hb] at h
    exact absurd h hb
/-- Where it is no message nothing is told but the error. -/
theorem open_none {l : List UInt8} (h : (openE l).2.2 ≠ 0) : (openE l).1 = [] ∧ (openE l).2.1 = 0 := by
  unfold openE at h ⊢
  by_cases hb : begR beginL l = 0
  · rw [if_pos hb] at h ⊢
    by_cases hl : (lenR (l.drop 12) 0 0).2.2 = 0
    · rw [if_pos hl] at h ⊢
      unfold restE at h ⊢
      split at h
      · rename_i g; rw [if_pos g]; exact ⟨rfl, rfl⟩
      · rename_i g
        rw [if_neg g]
        split at h
        · rename_i g2
          rw [if_pos g2]
          split at h
          · exact absurd rfl h
          · rename_i g3; rw [if_neg g3]; exact ⟨rfl, rfl⟩
        · rename_i g2; rw [if_neg g2]; exact ⟨rfl, rfl⟩
    · rw [if_neg hl]
      exact ⟨rfl, rfl⟩
  · rw [if_neg hb]
    exact ⟨rfl, rfl⟩
end Go.Proofs.YtcgojnofkbjinaaDoor
