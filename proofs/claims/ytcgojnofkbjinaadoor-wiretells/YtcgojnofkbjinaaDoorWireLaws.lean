/-
  Messages: the ones that are cut out of a text are what stands there; a message that is cut off is short; one with another byte in its body is refused: plain mathematics, of no program.
-/
import Derived.Test.YtcgojnofkbjinaaDoorWireMath
namespace Go.Proofs.YtcgojnofkbjinaaDoor
open Go.Lib

/-- The messages of some bodies, one behind the other. -/
def flat : List (List UInt8) → List UInt8
  | [] => []
  | b :: r => (sealE b).1 ++ flat r
theorem flat_append : ∀ (x y : List (List UInt8)), flat (x ++ y) = flat x ++ flat y
  | [], y => rfl
  | b :: r, y => by rw [List.cons_append, flat, flat, flat_append r y, List.append_assoc]
/-- What is cut out is what stands there. -/
theorem cut_joins : ∀ (k : Nat) (l : List UInt8) (acc : List (List UInt8)) (a : Nat) (L : List (List UInt8)) (A E : Nat), cutA k l acc a = (L, A, E) →
    ∃ more, L = acc ++ more ∧ a ≤ A ∧ A ≤ a + l.length ∧ (∀ b, b ∈ more → (sealE b).2 = 0 ∧ b.length ≤ 4096) ∧ flat more = l.take (A - a)
  | 0, l, acc, a, L, A, E, h => by
    rw [cutA] at h
    simp only [Prod.mk.injEq] at h
    obtain ⟨rfl, rfl, _⟩ := h
    exact ⟨[], by simp, by omega, by omega, fun b hb => by simp at hb, by simp [flat]⟩
  | k + 1, l, acc, a, L, A, E, h => by
    rw [cutA] at h
    by_cases e : l = []
    · rw [if_pos e] at h
      simp only [Prod.mk.injEq] at h
      obtain ⟨rfl, rfl, _⟩ := h
      exact ⟨[], by simp, by omega, by omega, fun b hb => by simp at hb, by simp [flat]⟩
    · rw [if_neg e] at h
      by_cases o : (openE l).2.2 = 0
      · rw [if_pos o] at h
        obtain ⟨h1, h2, h3, _⟩ := seal_open o
        obtain ⟨more, e1, e2, e3, e4, e5⟩ := cut_joins k _ _ _ _ _ _ h
        rw [List.length_drop] at e3
        refine ⟨(openE l).1 :: more, by rw [e1]; simp, by omega, by omega, ?_, ?_⟩
        · intro b hb
          rcases List.mem_cons.1 hb with rfl | hb
          · obtain ⟨_, _, _, q, _⟩ := open_seal [] h1
            exact ⟨by rw [h1], q⟩
          · exact e4 b hb
        · rw [flat, e5, h1]
          have : A - a = (openE l).2.1 + (A - (a + (openE l).2.1)) := by omega
          rw [this, List.take_add]
      · rw [if_neg o] at h
        simp only [Prod.mk.injEq] at h
        obtain ⟨rfl, rfl, _⟩ := h
        exact ⟨[], by simp, by omega, by omega, fun b hb => by simp at hb, by simp [flat]⟩
/-- A length that is cut off is short. -/
theorem len_cut : ∀ (n j : Nat), 1 ≤ n → n ≤ 4096 → j ≤ (decDigits n).length → lenR ((decDigits n).take j) 0 0 = (0, 0, 100) := by
  intro n
  induction n using Nat.strongRecOn with
  | ind n ih =>
    intro j h1 h2 hj
    by_cases he : j = (decDigits n).length
    · subst he
      have := len_digits n [] h1 h2
      rw [List.append_nil] at this
      rw [List.take_length, this]
      rfl
    · by_cases h : n < 10
      · rw [decDigits_one h] at hj he
        simp only [List.length_cons, List.length_nil] at hj he
        obtain rfl : j = 0 := by omega
        rfl
      · rw [dec_step h] at hj he ⊢
        rw [List.length_append] at hj he
        simp only [List.length_cons, List.length_nil] at hj he
        rw [List.take_append_of_le_length (by omega)]
        exact ih (n / 10) (by omega) j (by omega) (by omega) (by omega)
/-- A message that is cut off is short. -/
theorem open_cut {b : List UInt8} {m : List UInt8} (h : sealE b = (m, 0)) (k : Nat) (hk : k < m.length) : openE (m.take k) = ([], 0, 100) := by
  obtain ⟨_, rfl, h1, h2, _⟩ := open_seal [] h
  have hlen := form_len b
  have hb12 : beginL.length = 12 := rfl
  have hform : formL b = beginL ++ (decDigits b.length ++ 1 :: (b ++ trailL (aheadL b))) := by
    unfold formL aheadL
    simp
  by_cases hk12 : k < 12
  · have e : (formL b).take k = beginL.take k := by
      rw [hform, List.take_append_of_le_length (by omega)]
    have hb := begR_cut beginL k (by omega)
    rw [e]
    unfold openE
    rw [hb, if_neg (by decide)]
  · have e : (formL b).take k = beginL ++ (decDigits b.length ++ 1 :: (b ++ trailL (aheadL b))).take (k - 12) := by
      rw [hform, List.take_append, List.take_of_length_le (by omega)]
      rfl
    have hd : ((formL b).take k).drop 12 = (decDigits b.length ++ 1 :: (b ++ trailL (aheadL b))).take (k - 12) := by
      rw [e, List.drop_left' (by rfl)]
    unfold openE
    rw [if_pos (by rw [e]; exact begR_pre _ _), hd]
    by_cases hj : k - 12 ≤ (decDigits b.length).length
    · rw [List.take_append_of_le_length hj, len_cut _ _ h1 h2 hj]
      rfl
    · have e2 : (decDigits b.length ++ 1 :: (b ++ trailL (aheadL b))).take (k - 12) = decDigits b.length ++ 1 :: (b ++ trailL (aheadL b)).take (k - 12 - (decDigits b.length).length - 1) := by
        rw [List.take_append, List.take_of_length_le (by omega)]
        congr 1
        rw [show k - 12 - (decDigits b.length).length = (k - 12 - (decDigits b.length).length - 1) + 1 by omega, List.take_succ_cons]
        rfl
      rw [e2, len_whole _ _ h1 h2]
      dsimp only
      rw [if_pos rfl]
      unfold restE
      rw [if_pos (by rw [List.length_take]; omega)]
theorem trail_inj {x y : List UInt8} (h : trailL x = trailL y) : sumL x = sumL y := by
  unfold trailL at h
  have h1 := List.append_inj_left h (by simp [three])
  have h2 := List.append_cancel_left h1
  exact three_inj (sumL_lt _) (sumL_lt _) h2
/-- A message in which one byte of the body is another one is refused. -/
theorem open_tells {p q : List UInt8} {x y : UInt8} {m : List UInt8} (h : sealE (p ++ y :: q) = (m, 0)) (hx : x ≠ y) :
    openE (beginL ++ decDigits (p ++ y :: q).length ++ [1] ++ (p ++ x :: q) ++ trailL (aheadL (p ++ y :: q))) = ([], 0, 103) := by
  obtain ⟨_, rfl, h1, h2, _⟩ := open_seal [] h
  have hl : (p ++ x :: q).length = (p ++ y :: q).length := by simp
  have ha : beginL ++ decDigits (p ++ y :: q).length ++ [1] ++ (p ++ x :: q) = aheadL (p ++ x :: q) := by
    unfold aheadL
    rw [hl]
  rw [ha]
  generalize hT : trailL (aheadL (p ++ y :: q)) = T at *
  have hTl : T.length = 7 := by rw [← hT]; exact trail_len _
  have hal := ahead_len (p ++ x :: q)
  have hb : begR beginL (aheadL (p ++ x :: q) ++ T) = 0 := by
    unfold aheadL
    simp only [List.append_assoc]
    exact begR_pre _ _
  have hL : lenR ((aheadL (p ++ x :: q) ++ T).drop 12) 0 0 = ((p ++ x :: q).length, (decDigits (p ++ x :: q).length).length + 1, 0) := by
    have : (aheadL (p ++ x :: q) ++ T).drop 12 = decDigits (p ++ x :: q).length ++ 1 :: ((p ++ x :: q) ++ T) := by
      unfold aheadL
      simp only [List.append_assoc]
      rw [List.drop_left' (by rfl)]
      simp
    rw [this, len_whole _ _ (by omega) (by omega)]
  unfold openE
  rw [if_pos hb, hL]
  dsimp only
  rw [if_pos rfl]
  unfold restE
  have e1 : (aheadL (p ++ x :: q) ++ T).take (12 + ((decDigits (p ++ x :: q).length).length + 1) + (p ++ x :: q).length) = aheadL (p ++ x :: q) := List.take_left' (by omega)
  have e2 : ((aheadL (p ++ x :: q) ++ T).drop (12 + ((decDigits (p ++ x :: q).length).length + 1) + (p ++ x :: q).length)).take 7 = T := by
    rw [List.drop_left' (by omega), List.take_of_length_le (by omega)]
  have hne : T ≠ trailL (aheadL (p ++ x :: q)) := by
    rw [← hT]
    intro e
    have := trail_inj e
    rw [ahead_eq, ahead_eq, hl, ← List.append_assoc, ← List.append_assoc] at this
    exact sum_tells _ _ _ _ hx this.symm
  rw [if_neg (by rw [List.length_append]; omega), e1, e2, if_neg hne]
end Go.Proofs.YtcgojnofkbjinaaDoor
