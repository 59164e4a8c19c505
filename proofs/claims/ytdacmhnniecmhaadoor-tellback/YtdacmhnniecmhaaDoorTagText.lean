/-
  Texts as lists of bytes, and their runes: plain mathematics, of no program. What a value may be, and how far it goes at the beginning of a text.
-/
import Derived.Test.YtdacmhnniecmhaaDoorRows
import Derived.Lib.MapLaws
namespace Go.Proofs.YtdacmhnniecmhaaDoor
open Go.Lib

/-- The runes of a text, at most f of them. -/
def rns : Nat → List UInt8 → List Nat
  | 0, _ => []
  | f + 1, l => if l = [] then [] else (decodeL l).1 :: rns f (l.drop (decodeL l).2)
def runesL (l : List UInt8) : List Nat := rns l.length l
theorem rns_nil : ∀ f, rns f [] = []
  | 0 => rfl
  | f + 1 => by simp [rns]
theorem drop_less {l : List UInt8} (h : l ≠ []) : (l.drop (decodeL l).2).length < l.length := by
  have := decodeL_width l
  have := List.length_pos_iff.2 h
  rw [List.length_drop]
  omega
theorem rns_fuel : ∀ (n m : Nat) (l : List UInt8), l.length ≤ n → l.length ≤ m → rns n l = rns m l
  | 0, m, l, hn, _ => by
    have : l = [] := List.eq_nil_of_length_eq_zero (by omega)
    subst this
    rw [rns_nil, rns_nil]
  | n + 1, 0, l, _, hm => by
    have : l = [] := List.eq_nil_of_length_eq_zero (by omega)
    subst this
    rw [rns_nil, rns_nil]
  | n + 1, m + 1, l, hn, hm => by
    by_cases hne : l = []
    · subst hne
      rw [rns_nil, rns_nil]
    · have := drop_less hne
      simp only [rns, if_neg hne]
      rw [rns_fuel n m _ (by omega) (by omega)]
theorem runesL_nil : runesL [] = [] := rfl
theorem runesL_step {l : List UInt8} (h : l ≠ []) : runesL l = (decodeL l).1 :: runesL (l.drop (decodeL l).2) := by
  have h1 := drop_less h
  obtain ⟨f, hf⟩ : ∃ f, l.length = f + 1 := ⟨l.length - 1, by omega⟩
  unfold runesL
  rw [hf]
  simp only [rns, if_neg h]
  rw [rns_fuel f _ _ (by omega) (Nat.le_refl _)]
/-- Runes go by the bytes: a proof that steps from a text to what is behind its first rune. -/
theorem byRunes {C : List UInt8 → Prop} (h0 : C []) (h1 : ∀ l, l ≠ [] → C (l.drop (decodeL l).2) → C l) : ∀ l, C l := by
  have : ∀ n l, l.length ≤ n → C l := by
    intro n
    induction n with
    | zero => intro l hl; have : l = [] := List.eq_nil_of_length_eq_zero (by omega); subst this; exact h0
    | succ n ih =>
      intro l hl
      by_cases h : l = []
      · subst h; exact h0
      · have := drop_less h
        exact h1 l h (ih _ (by omega))
  exact fun l => this l.length l (Nat.le_refl _)

/-- A rune that is right decodes the same whatever follows. -/
theorem decode_ext (x y : List UInt8) (hne : x ≠ []) (h : (decodeL x).1 ≠ 65533) : decodeL (x ++ y) = decodeL x := by
  have hl : 0 < x.length := List.length_pos_iff.2 hne
  have g : ∀ k, k < x.length → (x ++ y).getD k 0 = x.getD k 0 := fun k hk => by simp [List.getD, List.getElem?_append_left hk]
  rw [decodeL_N] at h
  rw [decodeL_N, decodeL_N]
  have hlen : (x ++ y).length = x.length + y.length := List.length_append
  rw [hlen, g 0 hl]
  rcases decodeN_shape x.length (x.getD 0 0).toNat (x.getD 1 0).toNat (x.getD 2 0).toNat (x.getD 3 0).toNat with ⟨c, e⟩ | ⟨c1, c2, c3, cv, e⟩ | ⟨c1, c2, c3, c4, cv, cs, e⟩ | ⟨c1, c2, c3, c4, c5, cv, cw, e⟩ | e
  · rw [e, decodeN_ascii _ _ _ _ _ c]
  · rw [e, g 1 c2]
    unfold decodeN
    rw [if_neg (by omega), if_pos ⟨by omega, by omega, by omega⟩, if_pos (by omega)]
  · rw [e, g 1 (by omega), g 2 c2]
    unfold decodeN
    rw [if_neg (by omega), if_neg (by omega), if_pos ⟨by omega, ⟨by omega, by omega⟩, by omega, by omega⟩, if_pos ⟨by omega, by omega⟩]
  · rw [e, g 1 (by omega), g 2 (by omega), g 3 c2]
    unfold decodeN
    rw [if_neg (by omega), if_neg (by omega), if_neg (by omega), if_pos ⟨by omega, ⟨by omega, by omega⟩, ⟨by omega, by omega⟩, by omega, by omega⟩, if_pos ⟨by omega, by omega⟩]
  · rw [e] at h
    exact absurd rfl h
/-- A rune that is right decodes the same where the text is cut off behind it. -/
theorem decode_cut (l : List UInt8) (k : Nat) (hne : l ≠ []) (h : (decodeL l).1 ≠ 65533) (hk : (decodeL l).2 ≤ k) : decodeL (l.take k) = decodeL l := by
  have hl : 0 < l.length := List.length_pos_iff.2 hne
  have g : ∀ j, j < k → (l.take k).getD j 0 = l.getD j 0 := fun j hj => getD_takeU l k j hj
  rw [decodeL_N] at h hk
  rw [decodeL_N, decodeL_N, List.length_take]
  rcases decodeN_shape l.length (l.getD 0 0).toNat (l.getD 1 0).toNat (l.getD 2 0).toNat (l.getD 3 0).toNat with ⟨c, e⟩ | ⟨c1, c2, c3, cv, e⟩ | ⟨c1, c2, c3, c4, cv, cs, e⟩ | ⟨c1, c2, c3, c4, c5, cv, cw, e⟩ | e
  · rw [e] at hk; dsimp only at hk
    rw [e, g 0 (by omega), decodeN_ascii _ _ _ _ _ c]
  · rw [e] at hk; dsimp only at hk
    rw [e, g 0 (by omega), g 1 (by omega)]
    unfold decodeN
    rw [if_neg (by omega), if_pos ⟨by omega, by omega, by omega⟩, if_pos (by omega)]
  · rw [e] at hk; dsimp only at hk
    rw [e, g 0 (by omega), g 1 (by omega), g 2 (by omega)]
    unfold decodeN
    rw [if_neg (by omega), if_neg (by omega), if_pos ⟨by omega, ⟨by omega, by omega⟩, by omega, by omega⟩, if_pos ⟨by omega, by omega⟩]
  · rw [e] at hk; dsimp only at hk
    rw [e, g 0 (by omega), g 1 (by omega), g 2 (by omega), g 3 (by omega)]
    unfold decodeN
    rw [if_neg (by omega), if_neg (by omega), if_neg (by omega), if_pos ⟨by omega, ⟨by omega, by omega⟩, ⟨by omega, by omega⟩, by omega, by omega⟩, if_pos ⟨by omega, by omega⟩]
  · rw [e] at h
    exact absurd rfl h
theorem decode_one (c : UInt8) (l : List UInt8) (h : c.toNat < 128) : decodeL (c :: l) = (c.toNat, 1) := by
  rw [decodeL_N]
  exact decodeN_ascii _ _ _ _ _ h

/-- May a rune stand in a value? -/
def mayB (c : Nat) : Bool := decide (31 < c ∧ c ≠ 127 ∧ c ≠ 65533)
theorem may_right {c : Nat} (h : mayB c = true) : c ≠ 65533 := by
  unfold mayB at h
  rw [decide_eq_true_eq] at h
  exact h.2.2
/-- How many bytes at the beginning of a text, at most m, a value may have. -/
def runF : Nat → Nat → List UInt8 → Nat
  | 0, _, _ => 0
  | f + 1, m, l => if l = [] then 0 else if mayB (decodeL l).1 = true ∧ (decodeL l).2 ≤ m then (decodeL l).2 + runF f (m - (decodeL l).2) (l.drop (decodeL l).2) else 0
def runM (m : Nat) (l : List UInt8) : Nat := runF l.length m l
theorem runF_nil (m : Nat) : ∀ f, runF f m [] = 0
  | 0 => rfl
  | f + 1 => by simp [runF]
theorem runF_fuel : ∀ (n k m : Nat) (l : List UInt8), l.length ≤ n → l.length ≤ k → runF n m l = runF k m l
  | 0, k, m, l, hn, _ => by
    have : l = [] := List.eq_nil_of_length_eq_zero (by omega)
    subst this
    rw [runF_nil, runF_nil]
  | n + 1, 0, m, l, _, hm => by
    have : l = [] := List.eq_nil_of_length_eq_zero (by omega)
    subst this
    rw [runF_nil, runF_nil]
  | n + 1, k + 1, m, l, hn, hm => by
    by_cases hne : l = []
    · subst hne
      rw [runF_nil, runF_nil]
    · have := drop_less hne
      simp only [runF, if_neg hne]
      rw [runF_fuel n k _ _ (by omega) (by omega)]
theorem runM_nil (m : Nat) : runM m [] = 0 := rfl
theorem runM_step {l : List UInt8} (m : Nat) (h : l ≠ []) : runM m l = if mayB (decodeL l).1 = true ∧ (decodeL l).2 ≤ m then (decodeL l).2 + runM (m - (decodeL l).2) (l.drop (decodeL l).2) else 0 := by
  have h1 := drop_less h
  obtain ⟨f, hf⟩ : ∃ f, l.length = f + 1 := ⟨l.length - 1, by omega⟩
  unfold runM
  rw [hf]
  simp only [runF, if_neg h]
  rw [runF_fuel f _ _ _ (by omega) (Nat.le_refl _)]
theorem runM_le (m : Nat) (l : List UInt8) : runM m l ≤ l.length ∧ runM m l ≤ m := by
  refine byRunes (C := fun l => ∀ m, runM m l ≤ l.length ∧ runM m l ≤ m) (fun m => by rw [runM_nil]; simp) (fun l h ih m => ?_) l m
  rw [runM_step m h]
  split
  · rename_i g
    have := ih (m - (decodeL l).2)
    have hw := decodeL_le l h
    rw [List.length_drop] at this
    omega
  · omega
/-- All runes of a text may stand in a value. -/
def AllMay (l : List UInt8) : Prop := ∀ c ∈ runesL l, mayB c = true
theorem AllMay.nil : AllMay [] := fun c h => by rw [runesL_nil] at h; cases h
theorem AllMay.step {l : List UInt8} (h : l ≠ []) : AllMay l ↔ mayB (decodeL l).1 = true ∧ AllMay (l.drop (decodeL l).2) := by
  unfold AllMay
  rw [runesL_step h]
  simp
/-- Such a text, with whatever behind it, is gone through. -/
theorem run_through (v rest : List UInt8) (m : Nat) (h : AllMay v) (hm : v.length ≤ m) : runM m (v ++ rest) = v.length + runM (m - v.length) rest := by
  refine byRunes (C := fun v => ∀ m, AllMay v → v.length ≤ m → runM m (v ++ rest) = v.length + runM (m - v.length) rest) (fun m _ _ => by simp) (fun v hne ih m ha hm => ?_) v m h hm
  obtain ⟨h1, h2⟩ := (AllMay.step hne).1 ha
  have hx := decode_ext v rest hne (may_right h1)
  have hw := decodeL_le v hne
  have hn : v ++ rest ≠ [] := by simp [hne]
  rw [runM_step m hn, hx, if_pos ⟨h1, by omega⟩]
  have hd : (v ++ rest).drop (decodeL v).2 = v.drop (decodeL v).2 ++ rest := List.drop_append_of_le_length hw
  have hl : (v.drop (decodeL v).2).length = v.length - (decodeL v).2 := List.length_drop
  rw [hd, ih (m - (decodeL v).2) h2 (by omega), hl, show m - (decodeL v).2 - (v.length - (decodeL v).2) = m - v.length by omega]
  omega
/-- What was gone through is such a text. -/
theorem run_may (m : Nat) (l : List UInt8) : AllMay (l.take (runM m l)) := by
  refine byRunes (C := fun l => ∀ m, AllMay (l.take (runM m l))) (fun m => by simp [AllMay.nil]) (fun l hne ih m => ?_) l m
  rw [runM_step m hne]
  split
  · rename_i g
    have hw := decodeL_le l hne
    have hp := decodeL_width l
    have hc := decode_cut l ((decodeL l).2 + runM (m - (decodeL l).2) (l.drop (decodeL l).2)) hne (may_right g.1) (by omega)
    have hn : l.take ((decodeL l).2 + runM (m - (decodeL l).2) (l.drop (decodeL l).2)) ≠ [] := by
      intro e
      have h1 := congrArg List.length e
      rw [List.length_take, List.length_nil] at h1
      have h2 := List.length_pos_iff.2 hne
      omega
    rw [AllMay.step hn, hc]
    refine ⟨g.1, ?_⟩
    have := ih (m - (decodeL l).2)
    rw [List.drop_take, Nat.add_sub_cancel_left]
    exact this
  · simp [AllMay.nil]
/-- What stops it: a rune that may not be, or that is too much. -/
theorem run_stop (m : Nat) (l : List UInt8) (h : runM m l < l.length) : mayB (decodeL (l.drop (runM m l))).1 = false ∨ m < runM m l + (decodeL (l.drop (runM m l))).2 := by
  refine byRunes (C := fun l => ∀ m, runM m l < l.length → mayB (decodeL (l.drop (runM m l))).1 = false ∨ m < runM m l + (decodeL (l.drop (runM m l))).2) (fun m h => by simp at h) (fun l hne ih m => ?_) l m h
  rw [runM_step m hne]
  split
  · rename_i g
    intro hl
    have hw := decodeL_le l hne
    have := ih (m - (decodeL l).2) (by rw [List.length_drop]; omega)
    rw [List.drop_drop] at this
    rcases this with t | t
    · exact .inl t
    · exact .inr (by omega)
  · rename_i g
    intro _
    rw [List.drop_zero]
    cases hm : mayB (decodeL l).1
    · exact .inl rfl
    · exact .inr (by
        by_cases k : (decodeL l).2 ≤ m
        · exact absurd ⟨hm, k⟩ g
        · omega)
/-- A text is a value. -/
def ValOk (v : List UInt8) : Prop := 1 ≤ v.length ∧ v.length ≤ 512 ∧ AllMay v
theorem val_run {v : List UInt8} (h : v.length ≤ 512) : runM 512 v = v.length ↔ AllMay v := by
  constructor
  · intro e
    have := run_may 512 v
    rw [e, List.take_length] at this
    exact this
  · intro a
    have := run_through v [] 512 a h
    rw [List.append_nil, runM_nil] at this
    exact this
theorem val_run_all (v : List UInt8) : runM 512 v < v.length ↔ ¬ (v.length ≤ 512 ∧ AllMay v) := by
  have h1 := runM_le 512 v
  constructor
  · rintro h ⟨h2, h3⟩
    rw [(val_run h2).2 h3] at h
    omega
  · intro h
    by_cases h2 : v.length ≤ 512
    · have : runM 512 v ≠ v.length := fun e => h ⟨h2, (val_run h2).1 e⟩
      omega
    · omega
end Go.Proofs.YtdacmhnniecmhaaDoor
