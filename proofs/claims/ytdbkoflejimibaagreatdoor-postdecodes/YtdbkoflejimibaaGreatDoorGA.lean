/-
  Texts as lists of bytes, and their runes: plain mathematics, of no program. What a value may be, and how far it goes at the beginning of a text.
-/
import Derived.Lib.MapLaws
import Derived.Lib.ItoaNum
import Derived.WalkKit
import Derived.WalkSpells
import Derived.WalkLawsBesides
import Derived.ProofKit
import Derived.OpenShut
import Derived.Outline
import Derived.BigQuiet
import Derived.Deep.RegionHeld3
import Derived.Deep.RegionWith
import Derived.Deep.CutRange
import Derived.Deep.CutBlock
import Derived.Deep.DeepCutAuto
import Derived.Deep.LoopGhost
import Derived.Lib.Walk
import Derived.Maps.AppendAt
import Derived.Lib.Strings
import Derived.ChangeOld
import Derived.ShutString
import Derived.Lib.SmallJoins
import Derived.Test.YtdbkoflejimibaaGreatDoorRows
namespace Go.Proofs.YtdbkoflejimibaaGreatDoor
open Go.Lib

/-- The runes of a text, at most f of them. -/
def rns : Nat → List UInt8 → List Nat
  | 0, _ => []
  | f + 1, l => if l = [] then [] else (decodeL l).1 :: rns f (l.drop (decodeL l).2)
def runesL (l : List UInt8) : List Nat := rns l.length l
theorem rns_nil : ∀ f, rns f [] = []
  | 0 => rfl
  | f + 1 => by simp [rns]
theorem drop_less {l : List UInt8} (h : l ≠ []) : (l.drop (decodeL l).2).length < l.length := by
  have := decodeL_width l
  have := List.length_pos_iff.2 h
  rw [List.length_drop]
  omega
theorem rns_fuel : ∀ (n m : Nat) (l : List UInt8), l.length ≤ n → l.length ≤ m → rns n l = rns m l
  | 0, m, l, hn, _ => by
    have : l = [] := List.eq_nil_of_length_eq_zero (by omega)
    subst this
    rw [rns_nil, rns_nil]
  | n + 1, 0, l, _, hm => by
    have : l = [] := List.eq_nil_of_length_eq_zero (by omega)
    subst this
    rw [rns_nil, rns_nil]
  | n + 1, m + 1, l, hn, hm => by
    by_cases hne : l = []
    · subst hne
      rw [rns_nil, rns_nil]
    · have := drop_less hne
      simp only [rns, if_neg hne]
      rw [rns_fuel n m _ (by omega) (by omega)]
theorem runesL_nil : runesL [] = [] := rfl
theorem runesL_step {l : List UInt8} (h : l ≠ []) : runesL l = (decodeL l).1 :: runesL (l.drop (decodeL l).2) := by
  have h1 := drop_less h
  obtain ⟨f, hf⟩ : ∃ f, l.length = f + 1 := ⟨l.length - 1, by omega⟩
  unfold runesL
  rw [hf]
  simp only [rns, if_neg h]
  rw [rns_fuel f _ _ (by omega) (Nat.le_refl _)]
/-- Runes go by the bytes: a proof that steps from a text to what is behind its first rune. -/
theorem byRunes {C : List UInt8 → Prop} (h0 : C []) (h1 : ∀ l, l ≠ [] → C (l.drop (decodeL l).2) → C l) : ∀ l, C l := by
  have : ∀ n l, l.length ≤ n → C l := by
    intro n
    induction n with
    | zero => intro l hl; have : l = [] := List.eq_nil_of_length_eq_zero (by omega); subst this; exact h0
    | succ n ih =>
      intro l hl
      by_cases h : l = []
      · subst h; exact h0
      · have := drop_less h
        exact h1 l h (ih _ (by omega))
  exact fun l => this l.length l (Nat.le_refl _)

/-- A rune that is right decodes the same whatever follows. -/
theorem decode_ext (x y : List UInt8) (hne : x ≠ []) (h : (decodeL x).1 ≠ 65533) : decodeL (x ++ y) = decodeL x := by
  have hl : 0 < x.length := List.length_pos_iff.2 hne
  have g : ∀ k, k < x.length → (x ++ y).getD k 0 = x.getD k 0 := fun k hk => by simp [List.getD, List.getElem?_append_left hk]
  rw [decodeL_N] at h
  rw [decodeL_N, decodeL_N]
  have hlen : (x ++ y).length = x.length + y.length := List.length_append
  rw [hlen, g 0 hl]
  rcases decodeN_shape x.length (x.getD 0 0).toNat (x.getD 1 0).toNat (x.getD 2 0).toNat (x.getD 3 0).toNat with ⟨c, e⟩ | ⟨c1, c2, c3, cv, e⟩ | ⟨c1, c2, c3, c4, cv, cs, e⟩ | ⟨c1, c2, c3, c4, c5, cv, cw, e⟩ | e
  · rw [e, decodeN_ascii _ _ _ _ _ c]
  · rw [e, g 1 c2]
    unfold decodeN
    rw [if_neg (by omega), if_pos ⟨by omega, by omega, by omega⟩, if_pos (by omega)]
  · rw [e, g 1 (by omega), g 2 c2]
    unfold decodeN
    rw [if_neg (by omega), if_neg (by omega), if_pos ⟨by omega, ⟨by omega, by omega⟩, by omega, by omega⟩, if_pos ⟨by omega, by omega⟩]
  · rw [e, g 1 (by omega), g 2 (by omega), g 3 c2]
    unfold decodeN
    rw [if_neg (by omega), if_neg (by omega), if_neg (by omega), if_pos ⟨by omega, ⟨by omega, by omega⟩, ⟨by omega, by omega⟩, by omega, by omega⟩, if_pos ⟨by omega, by omega⟩]
  · rw [e] at h
    exact absurd rfl h
/-- A rune that is right decodes the same where the text is cut off behind it. -/
theorem decode_cut (l : List UInt8) (k : Nat) (hne : l ≠ []) (h : (decodeL l).1 ≠ 65533) (hk : (decodeL l).2 ≤ k) : decodeL (l.take k) = decodeL l := by
  have hl : 0 < l.length := List.length_pos_iff.2 hne
  have g : ∀ j, j < k → (l.take k).getD j 0 = l.getD j 0 := fun j hj => getD_takeU l k j hj
  rw [decodeL_N] at h hk
  rw [decodeL_N, decodeL_N, List.length_take]
  rcases decodeN_shape l.length (l.getD 0 0).toNat (l.getD 1 0).toNat (l.getD 2 0).toNat (l.getD 3 0).toNat with ⟨c, e⟩ | ⟨c1, c2, c3, cv, e⟩ | ⟨c1, c2, c3, c4, cv, cs, e⟩ | ⟨c1, c2, c3, c4, c5, cv, cw, e⟩ | e
  · rw [e] at hk; dsimp only at hk
    rw [e, g 0 (by omega), decodeN_ascii _ _ _ _ _ c]
  · rw [e] at hk; dsimp only at hk
    rw [e, g 0 (by omega), g 1 (by omega)]
    unfold decodeN
    rw [if_neg (by omega), if_pos ⟨by omega, by omega, by omega⟩, if_pos (by omega)]
  · rw [e] at hk; dsimp only at hk
    rw [e, g 0 (by omega), g 1 (by omega), g 2 (by omega)]
    unfold decodeN
    rw [if_neg (by omega), if_neg (by omega), if_pos ⟨by omega, ⟨by omega, by omega⟩, by omega, by omega⟩, if_pos ⟨by omega, by omega⟩]
  · rw [e] at hk; dsimp only at hk
    rw [e, g 0 (by omega), g 1 (by omega), g 2 (by omega), g 3 (by omega)]
    unfold decodeN
    rw [if_neg (by omega), if_neg (by omega), if_neg (by omega), if_pos ⟨by omega, ⟨by omega, by omega⟩, ⟨by omega, by omega⟩, by omega, by omega⟩, if_pos ⟨by omega, by omega⟩]
  · rw [e] at h
    exact absurd rfl h
theorem decode_one (c : UInt8) (l : List UInt8) (h : c.toNat < 128) : decodeL (c :: l) = (c.toNat, 1) := by
  rw [decodeL_N]
  exact decodeN_ascii _ _ _ _ _ h

/-- May a rune stand in a value? -/
def mayB (c : Nat) : Bool := decide (31 < c ∧ c ≠ 127 ∧ c ≠ 65533)
theorem may_right {c : Nat} (h : mayB c = true) : c ≠ 65533 := by
  unfold mayB at h
  rw [decide_eq_true_eq] at h
  exact h.2.2
/-- How many bytes at the beginning of a text, at most m, a value may have. -/
def runF : Nat → Nat → List UInt8 → Nat
  | 0, _, _ => 0
  | f + 1, m, l => if l = [] then 0 else if mayB (decodeL l).1 = true ∧ (decodeL l).2 ≤ m then (decodeL l).2 + runF f (m - (decodeL l).2) (l.drop (decodeL l).2) else 0
def runM (m : Nat) (l : List UInt8) : Nat := runF l.length m l
theorem runF_nil (m : Nat) : ∀ f, runF f m [] = 0
  | 0 => rfl
  | f + 1 => by simp [runF]
theorem runF_fuel : ∀ (n k m : Nat) (l : List UInt8), l.length ≤ n → l.length ≤ k → runF n m l = runF k m l
  | 0, k, m, l, hn, _ => by
    have : l = [] := List.eq_nil_of_length_eq_zero (by omega)
    subst this
    rw [runF_nil, runF_nil]
  | n + 1, 0, m, l, _, hm => by
    have : l = [] := List.eq_nil_of_length_eq_zero (by omega)
    subst this
    rw [runF_nil, runF_nil]
  | n + 1, k + 1, m, l, hn, hm => by
    by_cases hne : l = []
    · subst hne
      rw [runF_nil, runF_nil]
    · have := drop_less hne
      simp only [runF, if_neg hne]
      rw [runF_fuel n k _ _ (by omega) (by omega)]
theorem runM_nil (m : Nat) : runM m [] = 0 := rfl
theorem runM_step {l : List UInt8} (m : Nat) (h : l ≠ []) : runM m l = if mayB (decodeL l).1 = true ∧ (decodeL l).2 ≤ m then (decodeL l).2 + runM (m - (decodeL l).2) (l.drop (decodeL l).2) else 0 := by
  have h1 := drop_less h
  obtain ⟨f, hf⟩ : ∃ f, l.length = f + 1 := ⟨l.length - 1, by omega⟩
  unfold runM
  rw [hf]
  simp only [runF, if_neg h]
  rw [runF_fuel f _ _ _ (by omega) (Nat.le_refl _)]
theorem runM_le (m : Nat) (l : List UInt8) : runM m l ≤ l.length ∧ runM m l ≤ m := by
  refine byRunes (C := fun l => ∀ m, runM m l ≤ l.length ∧ runM m l ≤ m) (fun m => by rw [runM_nil]; simp) (fun l h ih m => ?_) l m
  rw [runM_step m h]
  split
  · rename_i g
    have := ih (m - (decodeL l).2)
    have hw := decodeL_le l h
    rw [List.length_drop] at this
    omega
  · omega
/-- All runes of a text may stand in a value. -/
def AllMay (l : List UInt8) : Prop := ∀ c ∈ runesL l, mayB c = true
theorem AllMay.nil : AllMay [] := fun c h => by rw [runesL_nil] at h; cases h
theorem AllMay.step {l : List UInt8} (h : l ≠ []) : AllMay l ↔ mayB (decodeL l).1 = true ∧ AllMay (l.drop (decodeL l).2) := by
  unfold AllMay
  rw [runesL_step h]
  simp
/-- Such a text, with whatever behind it, is gone through. -/
theorem run_through (v rest : List UInt8) (m : Nat) (h : AllMay v) (hm : v.length ≤ m) : runM m (v ++ rest) = v.length + runM (m - v.length) rest := by
  refine byRunes (C := fun v => ∀ m, AllMay v → v.length ≤ m → runM m (v ++ rest) = v.length + runM (m - v.length) rest) (fun m _ _ => by simp) (fun v hne ih m ha hm => ?_) v m h hm
  obtain ⟨h1, h2⟩ := (AllMay.step hne).1 ha
  have hx := decode_ext v rest hne (may_right h1)
  have hw := decodeL_le v hne
  have hn : v ++ rest ≠ [] := by simp [hne]
  rw [runM_step m hn, hx, if_pos ⟨h1, by omega⟩]
  have hd : (v ++ rest).drop (decodeL v).2 = v.drop (decodeL v).2 ++ rest := List.drop_append_of_le_length hw
  have hl : (v.drop (decodeL v).2).length = v.length - (decodeL v).2 := List.length_drop
  rw [hd, ih (m - (decodeL v).2) h2 (by omega), hl, show m - (decodeL v).2 - (v.length - (decodeL v).2) = m - v.length by omega]
  omega
/-- What was gone through is such a text. -/
theorem run_may (m : Nat) (l : List UInt8) : AllMay (l.take (runM m l)) := by
  refine byRunes (C := fun l => ∀ m, AllMay (l.take (runM m l))) (fun m => by simp [AllMay.nil]) (fun l hne ih m => ?_) l m
  rw [runM_step m hne]
  split
  · rename_i g
    have hw := decodeL_le l hne
    have hp := decodeL_width l
    have hc := decode_cut l ((decodeL l).2 + runM (m - (decodeL l).2) (l.drop (decodeL l).2)) hne (may_right g.1) (by omega)
    have hn : l.take ((decodeL l).2 + runM (m - (decodeL l).2) (l.drop (decodeL l).2)) ≠ [] := by
      intro e
      have h1 := congrArg List.length e
      rw [List.length_take, List.length_nil] at h1
      have h2 := List.length_pos_iff.2 hne
      omega
    rw [AllMay.step hn, hc]
    refine ⟨g.1, ?_⟩
    have := ih (m - (decodeL l).2)
    rw [List.drop_take, Nat.add_sub_cancel_left]
    exact this
  · simp [AllMay.nil]
/-- What stops it: a rune that may not be, or that is too much. -/
theorem run_stop (m : Nat) (l : List UInt8) (h : runM m l < l.length) : mayB (decodeL (l.drop (runM m l))).1 = false ∨ m < runM m l + (decodeL (l.drop (runM m l))).2 := by
  refine byRunes (C := fun l => ∀ m, runM m l < l.length → mayB (decodeL (l.drop (runM m l))).1 = false ∨ m < runM m l + (decodeL (l.drop (runM m l))).2) (fun m h => by simp at h) (fun l hne ih m => ?_) l m h
  rw [runM_step m hne]
  split
  · rename_i g
    intro hl
    have hw := decodeL_le l hne
    have := ih (m - (decodeL l).2) (by rw [List.length_drop]; omega)
    rw [List.drop_drop] at this
    rcases this with t | t
    · exact .inl t
    · exact .inr (by omega)
  · rename_i g
    intro _
    rw [List.drop_zero]
    cases hm : mayB (decodeL l).1
    · exact .inl rfl
    · exact .inr (by
        by_cases k : (decodeL l).2 ≤ m
        · exact absurd ⟨hm, k⟩ g
        · omega)
/-- A text is a value. -/
def ValOk (v : List UInt8) : Prop := 1 ≤ v.length ∧ v.length ≤ 512 ∧ AllMay v
theorem val_run {v : List UInt8} (h : v.length ≤ 512) : runM 512 v = v.length ↔ AllMay v := by
  constructor
  · intro e
    have := run_may 512 v
    rw [e, List.take_length] at this
    exact this
  · intro a
    have := run_through v [] 512 a h
    rw [List.append_nil, runM_nil] at this
    exact this
theorem val_run_all (v : List UInt8) : runM 512 v < v.length ↔ ¬ (v.length ≤ 512 ∧ AllMay v) := by
  have h1 := runM_le 512 v
  constructor
  · rintro h ⟨h2, h3⟩
    rw [(val_run h2).2 h3] at h
    omega
  · intro h
    by_cases h2 : v.length ≤ 512
    · have : runM 512 v ≠ v.length := fun e => h ⟨h2, (val_run h2).1 e⟩
      omega
    · omega
end Go.Proofs.YtdbkoflejimibaaGreatDoor
/-
  Fields: how a tag's digits are read, what a field's form is, how fields are read: plain mathematics, of no program.
-/
namespace Go.Proofs.YtdbkoflejimibaaGreatDoor
open Go.Lib

/-- A text out of its bytes. -/
def mk (l : List UInt8) : ByteArray := ⟨l.toArray⟩
theorem mk_list (l : List UInt8) : (mk l).data.toList = l := rfl
theorem list_mk (s : ByteArray) : mk s.data.toList = s := by
  obtain ⟨⟨a⟩⟩ := s
  rfl
theorem mk_size (l : List UInt8) : (mk l).size = l.length := by simp [mk, ByteArray.size]
/-- The tag at the beginning of a text, behind k digits that say num: the number, where the value begins, an error's number. -/
def tagR : List UInt8 → Nat → Nat → Nat × Nat × Nat
  | [], _, _ => (0, 0, 82)
  | c :: l, k, num =>
    if 0 < k ∧ c.toNat = 61 then (num, k + 1, 0)
    else if c.toNat < 48 ∨ 57 < c.toNat ∨ (k = 0 ∧ c.toNat = 48) then (0, 0, 80)
    else if 99999 < 10 * num + (c.toNat - 48) then (0, 0, 80)
    else tagR l (k + 1) (10 * num + (c.toNat - 48))
theorem byte_ofNat {n : Nat} (h : n < 256) : (UInt8.ofNat n).toNat = n := by simp; omega
theorem digits_pos (n : Nat) : 1 ≤ (decDigits n).length := by
  rw [decDigits]
  split
  · simp
  · simp
/-- A number's digits are read as the number. -/
theorem tag_digits : ∀ (n : Nat) (rest : List UInt8), 1 ≤ n → n ≤ 99999 → tagR (decDigits n ++ rest) 0 0 = tagR rest (decDigits n).length n := by
  intro n
  induction n using Nat.strongRecOn with
  | ind n ih =>
    intro rest h1 h2
    by_cases h : n < 10
    · rw [decDigits_one h]
      have e : (UInt8.ofNat (48 + n)).toNat = 48 + n := byte_ofNat (by omega)
      simp only [List.cons_append, List.nil_append, List.length_cons, List.length_nil]
      rw [tagR, e, if_neg (by omega), if_neg (by omega), if_neg (by omega), show 10 * 0 + (48 + n - 48) = n by omega]
    · have hd : decDigits n = decDigits (n / 10) ++ [UInt8.ofNat (48 + n % 10)] := by rw [decDigits, dif_neg h]
      have e : (UInt8.ofNat (48 + n % 10)).toNat = 48 + n % 10 := byte_ofNat (by omega)
      have hp := digits_pos (n / 10)
      rw [hd, List.append_assoc, ih (n / 10) (by omega) _ (by omega) (by omega)]
      simp only [List.cons_append, List.nil_append, List.length_append, List.length_cons, List.length_nil]
      rw [tagR, e, if_neg (by omega), if_neg (by omega), if_neg (by omega), show 10 * (n / 10) + (48 + n % 10 - 48) = n by omega]
/-- The digits that were read so far. -/
def soFar (k num : Nat) : List UInt8 := if k = 0 then [] else decDigits num
/-- What is read as a number are its digits. -/
theorem tag_read : ∀ (l : List UInt8) (k num N b : Nat), (k = 0 → num = 0) → (0 < k → 1 ≤ num ∧ num ≤ 99999 ∧ (decDigits num).length = k) → tagR l k num = (N, b, 0) →
    ∃ m, b = k + m + 1 ∧ m < l.length ∧ soFar k num ++ l.take m = decDigits N ∧ l.getD m 0 = 61 ∧ 1 ≤ N ∧ N ≤ 99999
  | [], k, num, N, b, _, _, h => by simp [tagR] at h
  | c :: l, k, num, N, b, h0, h1, h => by
    rw [tagR] at h
    by_cases g1 : 0 < k ∧ c.toNat = 61
    · rw [if_pos g1] at h
      simp only [Prod.mk.injEq, and_true] at h
      obtain ⟨rfl, rfl⟩ := h
      obtain ⟨a1, a2, a3⟩ := h1 g1.1
      refine ⟨0, by omega, by simp, ?_, ?_, a1, a2⟩
      · simp [soFar, show ¬ k = 0 by omega]
      · simp only [List.getD_cons_zero]
        exact UInt8.toNat_inj.1 g1.2
    · rw [if_neg g1] at h
      by_cases g2 : c.toNat < 48 ∨ 57 < c.toNat ∨ (k = 0 ∧ c.toNat = 48)
      · rw [if_pos g2] at h
        simp at h
      · rw [if_neg g2] at h
        by_cases g3 : 99999 < 10 * num + (c.toNat - 48)
        · rw [if_pos g3] at h
          simp at h
        · rw [if_neg g3] at h
          have ec : c = UInt8.ofNat (48 + (c.toNat - 48)) := by
            apply UInt8.toNat_inj.1
            rw [byte_ofNat (by omega)]
            omega
          have hs : decDigits (10 * num + (c.toNat - 48)) = soFar k num ++ [c] := by
            by_cases k0 : k = 0
            · rw [h0 k0, soFar, if_pos k0, decDigits_one (by omega)]
              simp only [List.nil_append, Nat.mul_zero, Nat.zero_add]
              rw [← ec]
            · obtain ⟨a1, _, _⟩ := h1 (by omega)
              rw [decDigits, dif_neg (by omega), soFar, if_neg k0, show (10 * num + (c.toNat - 48)) / 10 = num by omega, show (10 * num + (c.toNat - 48)) % 10 = c.toNat - 48 by omega, ← ec]
          obtain ⟨m, r1, r2, r3, r4, r5⟩ := tag_read l (k + 1) (10 * num + (c.toNat - 48)) N b (by omega) (fun _ => ⟨by
            by_cases k0 : k = 0
            · omega
            · have := (h1 (by omega)).1
              omega, by omega, by
            rw [hs, List.length_append]
            by_cases k0 : k = 0
            · simp [soFar, k0]
            · rw [soFar, if_neg k0, (h1 (by omega)).2.2]
              rfl⟩) h
          refine ⟨m + 1, by omega, by simp; omega, ?_, ?_, r5⟩
          · have e : soFar (k + 1) (10 * num + (c.toNat - 48)) = soFar k num ++ [c] := by
              rw [← hs]
              unfold soFar
              rw [if_neg (by omega)]
            rw [List.take_succ_cons, ← r3, e]
            simp
          · rw [List.getD_cons_succ]
            exact r4

/-- A field: a tag and a value. -/
abbrev Fd := Int × ByteArray
def none8 : Fd := (0, mk [])
/-- A text is a value. -/
def valB (v : List UInt8) : Bool := decide (1 ≤ v.length ∧ runM 512 v = v.length)
theorem valB_true {v : List UInt8} : valB v = true ↔ ValOk v := by
  unfold valB ValOk
  rw [decide_eq_true_eq]
  have h1 := runM_le 512 v
  constructor
  · rintro ⟨a, b⟩
    exact ⟨a, by omega, (val_run (by omega)).1 b⟩
  · rintro ⟨a, b, c⟩
    exact ⟨a, (val_run b).2 c⟩
/-- A field's form, an error's number. -/
def formE (f : Fd) : List UInt8 × Nat :=
  if f.1 < 1 ∨ 99999 < f.1 then ([], 80) else if valB f.2.data.toList = false then ([], 81) else (decDigits f.1.toNat ++ 61 :: (f.2.data.toList ++ [1]), 0)
/-- The forms of fields, behind what was formed so far. -/
def formsA : List Fd → List UInt8 → List UInt8 × Nat
  | [], acc => (acc, 0)
  | f :: r, acc => if (formE f).2 = 0 then formsA r (acc ++ (formE f).1) else ([], (formE f).2)
def formsE (L : List Fd) : List UInt8 × Nat := if 64 < L.length then ([], 3) else formsA L []
/-- The field at the beginning of a text, its bytes, an error's number. -/
def nextL (l : List UInt8) : Fd × Nat × Nat :=
  if (tagR l 0 0).2.2 = 0 then
    (if runM 512 (l.drop (tagR l 0 0).2.1) = (l.drop (tagR l 0 0).2.1).length then (none8, 0, 82)
     else if runM 512 (l.drop (tagR l 0 0).2.1) = 0 ∨ (l.drop (tagR l 0 0).2.1).getD (runM 512 (l.drop (tagR l 0 0).2.1)) 0 ≠ 1 then (none8, 0, 81)
     else (((tagR l 0 0).1, mk ((l.drop (tagR l 0 0).2.1).take (runM 512 (l.drop (tagR l 0 0).2.1)))), (tagR l 0 0).2.1 + runM 512 (l.drop (tagR l 0 0).2.1) + 1, 0))
  else (none8, 0, (tagR l 0 0).2.2)
/-- All fields of a text, k more of them at most, behind those that were read so far. -/
def fieldsA : Nat → List UInt8 → List Fd → Nat → List Fd × Nat × Nat
  | 0, l, acc, at_ => if l = [] then (acc, at_, 0) else (acc, at_, 3)
  | k + 1, l, acc, at_ => if l = [] then (acc, at_, 0) else if (nextL l).2.2 = 0 then fieldsA k (l.drop (nextL l).2.1) (acc ++ [(nextL l).1]) (at_ + (nextL l).2.1) else (acc, at_, (nextL l).2.2)
def fieldsL (l : List UInt8) : List Fd × Nat × Nat := fieldsA 64 l [] 0

theorem formE_ok {f : Fd} {x : List UInt8} (h : formE f = (x, 0)) : 1 ≤ f.1 ∧ f.1 ≤ 99999 ∧ ValOk f.2.data.toList ∧ x = decDigits f.1.toNat ++ 61 :: (f.2.data.toList ++ [1]) := by
  unfold formE at h
  by_cases h1 : f.1 < 1 ∨ 99999 < f.1
  · rw [if_pos h1] at h
    simp at h
  · rw [if_neg h1] at h
    cases hv : valB f.2.data.toList
    · rw [if_pos hv] at h
      simp at h
    · rw [if_neg (by rw [hv]; simp)] at h
      simp only [Prod.mk.injEq, and_true] at h
      exact ⟨by omega, by omega, valB_true.1 hv, h.symm⟩
/-- What is read is formed again as the same bytes. -/
theorem next_form {l : List UInt8} (h : (nextL l).2.2 = 0) : formE (nextL l).1 = (l.take (nextL l).2.1, 0) ∧ 1 ≤ (nextL l).2.1 ∧ (nextL l).2.1 ≤ l.length := by
  unfold nextL at h ⊢
  by_cases h1 : (tagR l 0 0).2.2 = 0
  · rw [if_pos h1] at h ⊢
    obtain ⟨N, b, e0⟩ : ∃ N b, tagR l 0 0 = (N, b, 0) := ⟨(tagR l 0 0).1, (tagR l 0 0).2.1, Prod.ext rfl (Prod.ext rfl h1)⟩
    rw [e0] at h ⊢
    dsimp only at h ⊢
    obtain ⟨m, rfl, hm, hd, hc, n1, n2⟩ := tag_read l 0 0 N b (fun _ => rfl) (fun h => by omega) e0
    have hle := runM_le 512 (l.drop (0 + m + 1))
    generalize hp : runM 512 (l.drop (0 + m + 1)) = p at *
    by_cases h2 : p = (l.drop (0 + m + 1)).length
    · rw [if_pos h2] at h
      simp at h
    · rw [if_neg h2] at h ⊢
      by_cases h3 : p = 0 ∨ (l.drop (0 + m + 1)).getD p 0 ≠ 1
      · rw [if_pos h3] at h
        simp at h
      · rw [if_neg h3]
        dsimp only
        have hp0 : p ≠ 0 := fun e => h3 (.inl e)
        have hp1 : (l.drop (0 + m + 1)).getD p 0 = 1 := Classical.byContradiction fun e => h3 (.inr e)
        rw [List.length_drop] at hle h2
        have hv : ValOk ((l.drop (0 + m + 1)).take p) := by
          refine ⟨by rw [List.length_take, List.length_drop]; omega, by rw [List.length_take]; omega, ?_⟩
          have := run_may 512 (l.drop (0 + m + 1))
          rw [hp] at this
          exact this
        refine ⟨?_, by omega, by omega⟩
        unfold formE
        dsimp only
        rw [if_neg (by omega), mk_list, if_neg (by rw [valB_true.2 hv]; simp), Int.toNat_natCast]
        have hsf : soFar 0 0 = [] := rfl
        rw [hsf, List.nil_append] at hd
        rw [← hd]
        have e1 : l.take (0 + m + 1 + p + 1) = l.take (0 + m + 1) ++ (l.drop (0 + m + 1)).take (p + 1) := by
          rw [show 0 + m + 1 + p + 1 = (0 + m + 1) + (p + 1) by omega, List.take_add]
        have e2 : (l.drop (0 + m + 1)).take (p + 1) = (l.drop (0 + m + 1)).take p ++ [1] := by
          rw [List.take_add_one]
          congr 1
          have hlt : p < (l.drop (0 + m + 1)).length := by rw [List.length_drop]; omega
          rw [List.getD_eq_getElem?_getD, List.getElem?_eq_getElem hlt] at hp1
          rw [List.getElem?_eq_getElem hlt]
          simp at hp1
          simp [hp1]
        have e3 : l.take (0 + m + 1) = l.take m ++ [61] := by
          rw [show 0 + m + 1 = m + 1 by omega, List.take_add_one]
          congr 1
          rw [List.getD_eq_getElem?_getD, List.getElem?_eq_getElem hm] at hc
          rw [List.getElem?_eq_getElem hm]
          simp at hc
          simp [hc]
        rw [e1, e2, e3]
        simp
  · rw [if_neg h1] at h
    exact absurd h h1
/-- What is formed is read as it was, whatever follows. -/
theorem form_next {f : Fd} {x : List UInt8} (rest : List UInt8) (h : formE f = (x, 0)) : nextL (x ++ rest) = (f, x.length, 0) ∧ x ≠ [] := by
  obtain ⟨h1, h2, h3, rfl⟩ := formE_ok h
  obtain ⟨t, v⟩ := f
  dsimp only at *
  obtain ⟨n, rfl⟩ : ∃ n : Nat, t = (n : Int) := ⟨t.toNat, by omega⟩
  rw [Int.toNat_natCast]
  have hp := digits_pos n
  obtain ⟨a1, a2, a3⟩ := h3
  have ev := list_mk v
  generalize hV : v.data.toList = V at *
  have et : tagR (decDigits n ++ 61 :: (V ++ [1]) ++ rest) 0 0 = (n, (decDigits n).length + 1, 0) := by
    rw [List.append_assoc, tag_digits n _ (by omega) (by omega)]
    simp only [List.cons_append]
    rw [tagR, if_pos ⟨by omega, rfl⟩]
  have ed : (decDigits n ++ 61 :: (V ++ [1]) ++ rest).drop ((decDigits n).length + 1) = V ++ (1 :: rest) := by
    rw [List.append_assoc, ← List.drop_drop, List.drop_left']
    · simp
    · rfl
  have er : runM 512 (V ++ (1 :: rest)) = V.length := by
    rw [run_through V _ 512 a3 a2, runM_step _ (by simp), decode_one 1 rest (by decide), if_neg (fun e => absurd e.1 (by decide))]
    omega
  constructor
  · unfold nextL
    rw [et]
    dsimp only
    rw [if_pos rfl, ed, er, if_neg (by simp), if_neg (by
      rintro (e | e)
      · omega
      · apply e
        rw [List.getD_eq_getElem?_getD, List.getElem?_append_right (Nat.le_refl _)]
        simp), List.take_left' rfl, ev]
    simp
    omega
  · simp
end Go.Proofs.YtdbkoflejimibaaGreatDoor
/-
  The frame 'all blocks but those of S are as they were', and its laws; plain facts on cells and draws.
-/
namespace Go.Proofs.YtdbkoflejimibaaGreatDoor
open Go.ChangeShapes Go.WideShapes Go.ChangeAt Go.RowKit Go.Lib

/-- All blocks but those of S are as they were. -/
structure But (S : Nat → Prop) (w w' : World) : Prop where
  os : w'.os = w.os
  tape : w'.tape = w.tape
  output : w'.output = w.output
  size : w.heap.size ≤ w'.heap.size
  block : ∀ k, k < w.heap.size → ¬ S k → w'.heap[k]? = w.heap[k]?
theorem But.refl (S : Nat → Prop) (w : World) : But S w w := ⟨rfl, rfl, rfl, Nat.le_refl _, fun _ _ _ => rfl⟩
theorem But.trans {S T : Nat → Prop} {a b c : World} (h : But S a b) (k : But T b c) (hT : ∀ i, i < a.heap.size → T i → S i) : But S a c :=
  ⟨k.os.trans h.os, k.tape.trans h.tape, k.output.trans h.output, Nat.le_trans h.size k.size, fun i hi hS => (k.block i (Nat.lt_of_lt_of_le hi h.size) (fun t => hS (hT i hi t))).trans (h.block i hi hS)⟩
theorem But.mono {S T : Nat → Prop} {a b : World} (h : But S a b) (hT : ∀ i, i < a.heap.size → S i → T i) : But T a b := ⟨h.os, h.tape, h.output, h.size, fun i hi hS => h.block i hi (fun t => hS (hT i hi t))⟩
theorem But.of_below {S : Nat → Prop} {a b : World} (h : Below a.heap.size a b) : But S a b := ⟨h.os, h.tape, h.output, h.size, fun i hi _ => h.block i hi⟩
theorem But.below {S : Nat → Prop} {a b : World} {n : Nat} (h : But S a b) (hn : n ≤ a.heap.size) (hS : ∀ i, S i → n ≤ i) : Below n a b :=
  ⟨h.os, h.tape, h.output, h.size, fun i hi => h.block i (Nat.lt_of_lt_of_le hi hn) (fun t => absurd (hS i t) (by omega))⟩
theorem But.cell {S : Nat → Prop} {a b : World} (h : But S a b) {k o : Nat} (hk : k < a.heap.size) (hS : ¬ S k) : b.cell? ⟨k, o, none⟩ = a.cell? ⟨k, o, none⟩ := by
  have := h.block k hk hS
  simp only [World.cell?, this]
theorem But.frozen {S : Nat → Prop} {a b : World} (h : But S a b) {k o : Nat} (hk : k < a.heap.size) (hS : ¬ S k) : b.frozen? ⟨k, o, none⟩ = a.frozen? ⟨k, o, none⟩ := by
  have := h.block k hk hS
  simp only [World.frozen?, this]
theorem heap_setCells (b : Nat) : ∀ (vs : List Value) (o : Nat) (w : World) (k : Nat), k ≠ b → (w.setCells b o vs).heap[k]? = w.heap[k]?
  | [], _, _, _, _ => rfl
  | v :: r, o, w, k, h => by rw [World.setCells, heap_setCells b r _ _ k h]; exact Below.heap_setCell _ _ _ _ h
theorem size_setCells (b : Nat) : ∀ (vs : List Value) (o : Nat) (w : World), (w.setCells b o vs).heap.size = w.heap.size
  | [], _, _ => rfl
  | v :: r, o, w => by rw [World.setCells, size_setCells b r]; simp
theorem rest_setCells (b : Nat) : ∀ (vs : List Value) (o : Nat) (w : World), (w.setCells b o vs).os = w.os ∧ (w.setCells b o vs).tape = w.tape ∧ (w.setCells b o vs).output = w.output
  | [], _, _ => ⟨rfl, rfl, rfl⟩
  | v :: r, o, w => by rw [World.setCells]; exact rest_setCells b r _ _
theorem But.setCells {S : Nat → Prop} {a w : World} (h : But S a w) (b o : Nat) (vs : List Value) (hb : b < a.heap.size → S b) : But S a (w.setCells b o vs) := by
  obtain ⟨e1, e2, e3⟩ := rest_setCells b vs o w
  exact ⟨e1.trans h.os, e2.trans h.tape, e3.trans h.output, by rw [size_setCells]; exact h.size, fun k hk hS => by rw [heap_setCells b vs o w k (fun e => hS (by subst e; exact hb hk))]; exact h.block k hk hS⟩
theorem But.setCell {S : Nat → Prop} {a w : World} (h : But S a w) (b o : Nat) (v : Value) (hb : b < a.heap.size → S b) : But S a (w.setCell ⟨b, o, none⟩ v) :=
  h.setCells b o [v] hb
theorem But.drew {S : Nat → Prop} {a w : World} (h : But S a w) : But S a w.drew := ⟨h.os, h.tape, h.output, h.size, h.block⟩
theorem But.alloc {S : Nat → Prop} {a w : World} (h : But S a w) (o : Obj) : But S a (w.alloc o) :=
  h.trans (T := fun _ => False) (But.of_below ((Below.refl _ w).alloc (Nat.le_refl _) _)) (fun _ _ h => h.elim)
theorem But.drewN {S : Nat → Prop} {a w : World} (h : But S a w) (q : Nat) : But S a (w.drewN q) := ⟨h.os, h.tape, h.output, h.size, h.block⟩

theorem below_drewN (n q : Nat) (w : World) : Below n w (w.drewN q) := ⟨rfl, rfl, rfl, Nat.le_refl _, fun _ _ => rfl⟩
theorem below_more {n : Nat} {a w : World} (h : Below n a w) (q : Nat) : Below n a (w.drewN q) := ⟨h.os, h.tape, h.output, h.size, h.block⟩
/-- A sequence with another thing at place i. -/
def upd {α : Type} (g : Nat → α) (i : Nat) (a : α) : Nat → α := fun j => if j = i then a else g j
theorem upd_same {α : Type} (g : Nat → α) (i : Nat) (a : α) : upd g i a i = a := by simp [upd]
theorem upd_other {α : Type} (g : Nat → α) {i j : Nat} (a : α) (h : j ≠ i) : upd g i a j = g j := by simp [upd, h]
end Go.Proofs.YtdbkoflejimibaaGreatDoor
/-
  Slices of numbers: what a slice value reads as, and the sums of its first numbers.
-/
namespace Go.Proofs.YtdbkoflejimibaaGreatDoor
open Go.ChangeShapes Go.WideShapes Go.ChangeAt Go.RowKit

/-- The slice value v reads as the values that f gives, n of them. -/
def Row (w : World) (v : Value) (n : Nat) (f : Nat → Value) : Prop :=
  ∃ a cap, v = .slice a n cap ∧ n ≤ cap ∧ cap ≤ maxLen ∧ (∀ i, i < n → ∃ b off, a = some ⟨b, off, none⟩ ∧ w.cell? ⟨b, off + i, none⟩ = some (f i))
theorem Row.below {w w' : World} {v : Value} {n : Nat} {f : Nat → Value} (h : Row w v n f) (hb : Below w.heap.size w w') : Row w' v n f := by
  obtain ⟨a, cap, rfl, h1, h2, h3⟩ := h
  refine ⟨a, cap, rfl, h1, h2, fun i hi => ?_⟩
  obtain ⟨b, off, e, hc⟩ := h3 i hi
  exact ⟨b, off, e, by rw [hb.cell (World.block_lt_of_cell? _ _ hc)]; exact hc⟩
theorem Row.same {w : World} {v : Value} {n : Nat} {f g : Nat → Value} (h : Row w v n f) (e : ∀ i, i < n → f i = g i) : Row w v n g := by
  obtain ⟨a, cap, rfl, h1, h2, h3⟩ := h
  refine ⟨a, cap, rfl, h1, h2, fun i hi => ?_⟩
  obtain ⟨b, off, e', hc⟩ := h3 i hi
  exact ⟨b, off, e', by rw [← e i hi]; exact hc⟩
/-- The sum of the first k. -/
def sumTo (zs : Nat → Int) : Nat → Int
  | 0 => 0
  | k + 1 => sumTo zs k + zs k
theorem sumTo_same {f g : Nat → Int} : ∀ k, (∀ i, i < k → f i = g i) → sumTo f k = sumTo g k
  | 0, _ => rfl
  | k + 1, h => by simp only [sumTo]; rw [sumTo_same k (fun i hi => h i (by omega)), h k (by omega)]
end Go.Proofs.YtdbkoflejimibaaGreatDoor
/-
  Rows of the call's own memory that grow by append, beside other blocks.
-/
namespace Go.Proofs.YtdbkoflejimibaaGreatDoor
open Go.ChangeShapes Go.WideShapes Go.ChangeAt Go.RowKit Go.Lib

theorem own_ge {w : World} {base : Nat} {e : TypeId} {size : Nat} {v : Value} {n : Nat} {xs : List Value} (h : w.ownsRow base e size v n xs) : ∀ g, v.ownBlock = some g → base ≤ g := fun g hg => (h.lt g hg).1
theorem But.of_grown {w w' : World} {row : Option Nat} (h : w.grownBy w' row) : But (fun k => row = some k) w w' := ⟨h.os, h.tape, h.output, h.size, fun k hk hS => h.block k hk (fun e => hS e.symm)⟩
theorem own_kept {S : Nat → Prop} {w w' : World} {base : Nat} {e : TypeId} {size : Nat} {v : Value} {n : Nat} {xs : List Value} (h : w.ownsRow base e size v n xs) (k : But S w w') (hS : ∀ g, v.ownBlock = some g → ¬ S g) : w'.ownsRow base e size v n xs := by
  refine ⟨h.1, ?_⟩
  rcases h.2 with hn | ⟨g, cap, cur, rfl, hb, hgg, rest⟩
  · exact .inl hn
  · refine .inr ⟨g, cap, cur, rfl, hb, ?_, rest⟩
    rw [k.block g (Array.getElem?_eq_some_iff.1 hgg).1 (hS g rfl)]
    exact hgg
theorem own_below {w w' : World} {base : Nat} {e : TypeId} {size : Nat} {v : Value} {n : Nat} {xs : List Value} (h : w.ownsRow base e size v n xs) (k : Below w.heap.size w w') : w'.ownsRow base e size v n xs :=
  own_kept h (But.of_below (S := fun _ => False) k) (fun _ _ => id)
theorem own_shape {w : World} {base : Nat} {e : TypeId} {size : Nat} {v : Value} {n : Nat} {xs : List Value} (h : w.ownsRow base e size v n xs) : ∃ a cap, v = .slice a n cap := by
  rcases h.2 with ⟨rfl, rfl⟩ | ⟨g, cap, cur, rfl, _⟩
  · exact ⟨_, _, rfl⟩
  · exact ⟨_, _, rfl⟩
theorem row_of_own {w : World} {base : Nat} {e : TypeId} {v : Value} {n : Nat} {xs : List Value} (h : w.ownsRow base e 1 v n xs) (f : Nat → Value) (hf : ∀ i, i < n → xs[i]? = some (f i)) : Row w v n f := by
  have hcs := fun g hg => h.cells (g := g) hg
  rcases h.2 with ⟨rfl, rfl⟩ | ⟨g, cap, cur, rfl, _, _, h1, h2, _⟩
  · exact ⟨none, 0, rfl, Nat.le_refl _, by unfold maxLen; omega, fun i hi => absurd hi (by omega)⟩
  · refine ⟨_, cap, rfl, h1, h2, fun i hi => ⟨g, 0, rfl, ?_⟩⟩
    have := hcs g rfl i (f i) (hf i hi)
    rw [show (⟨g, 0, none⟩ : Addr).add i = ⟨g, 0 + i, none⟩ from by unfold Addr.add; split <;> simp_all] at this
    exact this
/-- The first n values that f tells. -/
def vals (f : Nat → Value) (n : Nat) : List Value := (List.range n).map f
theorem vals_succ (f : Nat → Value) (n : Nat) : vals f (n + 1) = vals f n ++ [f n] := by simp [vals, List.range_succ]
theorem vals_at (f : Nat → Value) {n i : Nat} (h : i < n) : (vals f n)[i]? = some (f i) := by simp [vals, h]
theorem vals_length (f : Nat → Value) (n : Nat) : (vals f n).length = n := by simp [vals]
theorem vals_same {f g : Nat → Value} {n : Nat} (h : ∀ i, i < n → f i = g i) : vals f n = vals g n := List.map_congr_left (fun i hi => h i (List.mem_range.1 hi))
end Go.Proofs.YtdbkoflejimibaaGreatDoor
/-
  Texts and their bytes: equal, cut, one byte after another: plain mathematics, of no program.
-/
namespace Go.Proofs.YtdbkoflejimibaaGreatDoor
open Go.Lib

theorem bytes_ext8 {a b : ByteArray} (h : a.data.toList = b.data.toList) : a = b := by
  rw [← list_mk a, ← list_mk b, h]
theorem ext_list (s : ByteArray) (a b : Nat) : s.extract a b = mk ((s.data.toList.drop a).take (b - a)) := by
  rw [← list_mk (s.extract a b), extract_data]
theorem ext_head (s : ByteArray) (b : Nat) : s.extract 0 b = mk (s.data.toList.take b) := by
  rw [ext_list]
  simp
theorem ext_tail (s : ByteArray) (a : Nat) : s.extract a s.size = mk (s.data.toList.drop a) := by
  rw [ext_list, List.take_of_length_le]
  rw [List.length_drop, ← size_eq]
  exact Nat.le_refl _
theorem drop_byte (s : ByteArray) {k : Nat} (h : k < s.size) : s.data.toList.drop k = (s[k]'h) :: s.data.toList.drop (k + 1) := by
  have h' : k < s.data.toList.length := by rw [← size_eq]; exact h
  rw [List.drop_eq_getElem_cons h']
  rfl
theorem digits_len : ∀ n, (decDigits n).length ≤ n + 1 := by
  intro n
  induction n using Nat.strongRecOn with
  | ind n ih =>
    by_cases h : n < 10
    · rw [decDigits_one h]; simp
    · rw [decDigits, dif_neg h, List.length_append]
      have := ih (n / 10) (by omega)
      simp only [List.length_cons, List.length_nil]
      omega
end Go.Proofs.YtdbkoflejimibaaGreatDoor
/-
  Texts in the order of their bytes: it is a strict order in which any two texts stand.
-/
namespace Go.Proofs.YtdbkoflejimibaaGreatDoor

theorem less_irrefl : ∀ x : List UInt8, Op.bytesLess x x = false
  | [] => rfl
  | a :: x => by simp [Op.bytesLess, less_irrefl x]
theorem less_trans : ∀ x y z : List UInt8, Op.bytesLess x y = true → Op.bytesLess y z = true → Op.bytesLess x z = true
  | [], [], _, h, _ => by simp [Op.bytesLess] at h
  | [], _ :: _, [], _, h => by simp [Op.bytesLess] at h
  | [], _ :: _, _ :: _, _, _ => rfl
  | _ :: _, [], _, h, _ => by simp [Op.bytesLess] at h
  | _ :: _, _ :: _, [], _, h => by simp [Op.bytesLess] at h
  | a :: x, b :: y, c :: z, h, k => by
    simp only [Op.bytesLess, Bool.or_eq_true, Bool.and_eq_true, decide_eq_true_eq, beq_iff_eq] at h k ⊢
    rcases h with h | ⟨rfl, h⟩
    · rcases k with k | ⟨rfl, k⟩
      · exact .inl (UInt8.lt_trans h k)
      · exact .inl h
    · rcases k with k | ⟨rfl, k⟩
      · exact .inl k
      · exact .inr ⟨rfl, less_trans x y z h k⟩
theorem less_total : ∀ x y : List UInt8, Op.bytesLess x y = false → Op.bytesLess y x = false → x = y
  | [], [], _, _ => rfl
  | [], _ :: _, h, _ => by simp [Op.bytesLess] at h
  | _ :: _, [], _, h => by simp [Op.bytesLess] at h
  | a :: x, b :: y, h, k => by
    simp only [Op.bytesLess, Bool.or_eq_false_iff, decide_eq_false_iff_not, Bool.and_eq_false_iff, beq_eq_false_iff_ne] at h k
    have e : a = b := UInt8.le_antisymm (UInt8.not_lt.1 k.1) (UInt8.not_lt.1 h.1)
    subst e
    have h2 : Op.bytesLess x y = false := by rcases h.2 with h | h <;> first | exact h | exact absurd rfl h
    have k2 : Op.bytesLess y x = false := by rcases k.2 with h | h <;> first | exact h | exact absurd rfl h
    rw [less_total x y h2 k2]

/-- One text lies ahead of another. -/
def Lt (a b : ByteArray) : Prop := Op.bytesLess a.toList b.toList = true
theorem bytes_ext {a b : ByteArray} (h : a.toList = b.toList) : a = b := by
  rw [Lib.toList_data, Lib.toList_data] at h
  obtain ⟨⟨a⟩⟩ := a
  obtain ⟨⟨b⟩⟩ := b
  simp at h
  rw [h]
theorem beq_bytes (a b : ByteArray) : (a.toList == b.toList) = decide (a = b) := by
  by_cases h : a = b
  · subst h; simp
  · rw [decide_eq_false h, beq_eq_false_iff_ne]
    exact fun e => h (bytes_ext e)
theorem Lt.irrefl (a : ByteArray) : ¬ Lt a a := by unfold Lt; rw [less_irrefl]; simp
theorem Lt.trans {a b c : ByteArray} (h : Lt a b) (k : Lt b c) : Lt a c := less_trans _ _ _ h k
theorem Lt.total (a b : ByteArray) : Lt a b ∨ a = b ∨ Lt b a := by
  unfold Lt
  cases h : Op.bytesLess a.toList b.toList
  · cases k : Op.bytesLess b.toList a.toList
    · exact .inr (.inl (bytes_ext (less_total _ _ h k)))
    · exact .inr (.inr rfl)
  · exact .inl rfl
theorem Lt.asymm {a b : ByteArray} (h : Lt a b) : ¬ Lt b a := fun k => Lt.irrefl a (h.trans k)
theorem Lt.ne {a b : ByteArray} (h : Lt a b) : a ≠ b := fun e => by subst e; exact Lt.irrefl _ h
theorem not_lt_trans {a b c : ByteArray} (h : ¬ Lt b a) (k : ¬ Lt c b) : ¬ Lt c a := by
  intro hc
  rcases Lt.total a b with h1 | h1 | h1
  · exact k (hc.trans h1)
  · subst h1; exact k hc
  · exact h h1
/-- The text without a byte. -/
abbrev none4 : ByteArray := { data := #[] }
theorem none4_list : none4.toList = [] := by rw [Lib.toList_data]
theorem empty_of_toList {a : ByteArray} (h : a.toList = []) : a = none4 := bytes_ext (by rw [h, none4_list])
theorem empty_bytes (a : ByteArray) : a.toList.isEmpty = decide (a = none4) := by
  by_cases h : a = none4
  · subst h; rw [none4_list]; simp
  · rw [decide_eq_false h]
    cases e : a.toList with
    | nil => exact absurd (empty_of_toList e) h
    | cons x l => rfl
theorem lt_none {a : ByteArray} : Lt none4 a ↔ a ≠ none4 := by
  constructor
  · intro h e; subst e; exact Lt.irrefl _ h
  · intro h
    unfold Lt
    cases e : a.toList with
    | nil => exact absurd (empty_of_toList e) h
    | cons x l => rw [none4_list]; rfl
theorem not_lt_none (a : ByteArray) : ¬ Lt a none4 := by
  unfold Lt
  rw [none4_list]
  cases a.toList <;> simp [Op.bytesLess]
end Go.Proofs.YtdbkoflejimibaaGreatDoor
/-
  Sums of bytes, three digits, lengths: plain mathematics, of no program.
-/
namespace Go.Proofs.YtdbkoflejimibaaGreatDoor
open Go.Lib

/-- All bytes of a text together. -/
def tot : List UInt8 → Nat
  | [] => 0
  | c :: l => c.toNat + tot l
theorem tot_append : ∀ (a b : List UInt8), tot (a ++ b) = tot a + tot b
  | [], b => by simp [tot]
  | c :: a, b => by simp only [List.cons_append, tot, tot_append a b]; omega
/-- A text's sum. -/
def sumL (l : List UInt8) : Nat := tot l % 256
theorem sumL_lt (l : List UInt8) : sumL l < 256 := Nat.mod_lt _ (by decide)
theorem sum_join (a b : List UInt8) : (sumL a + sumL b) % 256 = sumL (a ++ b) := by
  unfold sumL
  rw [tot_append]
  omega
theorem sum_tells (a b : List UInt8) (x y : UInt8) (h : x ≠ y) : sumL (a ++ x :: b) ≠ sumL (a ++ y :: b) := by
  have hx := UInt8.toNat_lt x
  have hy := UInt8.toNat_lt y
  have hn : x.toNat ≠ y.toNat := fun e => h (UInt8.toNat_inj.1 e)
  unfold sumL
  rw [tot_append, tot_append, tot, tot]
  omega

/-- The digit of n behind which j digits stand. -/
def dig (n j : Nat) : Nat := n / 10 ^ j % 10
theorem dig_lt (n j : Nat) : dig n j < 10 := Nat.mod_lt _ (by decide)
/-- Three digits. -/
def three (n : Nat) : List UInt8 := [UInt8.ofNat (48 + n / 100 % 10), UInt8.ofNat (48 + n / 10 % 10), UInt8.ofNat (48 + n % 10)]
/-- The number, at most so great, that a text's digits say behind those that were read, an error's number. -/
def readA (most : Nat) : List UInt8 → Nat → Nat × Nat
  | [], num => (num, 0)
  | c :: l, num => if c.toNat < 48 ∨ 57 < c.toNat then (0, 112) else if most < 10 * num + (c.toNat - 48) then (0, 112) else readA most l (10 * num + (c.toNat - 48))
theorem readA_le (most : Nat) : ∀ (l : List UInt8) (num : Nat), num ≤ most → (readA most l num).1 ≤ most
  | [], num, h => h
  | c :: l, num, h => by
    rw [readA]
    split
    · exact Nat.zero_le _
    · split
      · exact Nat.zero_le _
      · exact readA_le most l _ (by omega)
theorem readA_err (most : Nat) : ∀ (l : List UInt8) (num : Nat), (readA most l num).2 = 0 ∨ readA most l num = (0, 112)
  | [], num => .inl rfl
  | c :: l, num => by
    rw [readA]
    split
    · exact .inr rfl
    · split
      · exact .inr rfl
      · exact readA_err most l _
theorem byte_back {c : UInt8} (h1 : 48 ≤ c.toNat) (h2 : c.toNat ≤ 57) {d : Nat} (h : d = c.toNat - 48) : UInt8.ofNat (48 + d) = c := by
  apply UInt8.toNat_inj.1
  rw [byte_ofNat (by omega)]
  omega
/-- Three digits are read as the number. -/
theorem three_read {n : Nat} (h : n < 256) : readA 255 (three n) 0 = (n, 0) := by
  have e2 : (UInt8.ofNat (48 + n / 100 % 10)).toNat = 48 + n / 100 % 10 := byte_ofNat (by omega)
  have e1 : (UInt8.ofNat (48 + n / 10 % 10)).toNat = 48 + n / 10 % 10 := byte_ofNat (by omega)
  have e0 : (UInt8.ofNat (48 + n % 10)).toNat = 48 + n % 10 := byte_ofNat (by omega)
  unfold three
  rw [readA, e2, if_neg (by omega), if_neg (by omega), readA, e1, if_neg (by omega), if_neg (by omega), readA, e0, if_neg (by omega), if_neg (by omega), readA]
  congr 1
  omega
/-- What is read of three bytes has them as its digits. -/
theorem read_three {l : List UInt8} {n : Nat} (hl : l.length = 3) (h : readA 255 l 0 = (n, 0)) : n < 256 ∧ three n = l := by
  match l, hl with
  | [a, b, c], _ =>
    rw [readA] at h
    split at h
    · simp at h
    split at h
    · simp at h
    rw [readA] at h
    split at h
    · simp at h
    split at h
    · simp at h
    rw [readA] at h
    split at h
    · simp at h
    split at h
    · simp at h
    rw [readA, Prod.mk.injEq] at h
    obtain ⟨h, _⟩ := h
    refine ⟨by omega, ?_⟩
    unfold three
    rw [byte_back (c := a) (by omega) (by omega) (by omega), byte_back (c := b) (by omega) (by omega) (by omega), byte_back (c := c) (by omega) (by omega) (by omega)]
theorem three_len (n : Nat) : (three n).length = 3 := rfl
theorem three_inj {m n : Nat} (hm : m < 256) (hn : n < 256) (h : three m = three n) : m = n := by
  have := three_read hm
  rw [h, three_read hn] at this
  exact ((Prod.mk.injEq .. ▸ this).1).symm
theorem dec_step {n : Nat} (h : ¬ n < 10) : decDigits n = decDigits (n / 10) ++ [UInt8.ofNat (48 + n % 10)] := by rw [decDigits, dif_neg h]
/-- A number's digits, at most four of them. -/
theorem dec_four {n : Nat} (h : n ≤ 9999) : decDigits n =
    if n < 10 then [UInt8.ofNat (48 + n % 10)] else if n < 100 then [UInt8.ofNat (48 + n / 10 % 10), UInt8.ofNat (48 + n % 10)]
    else if n < 1000 then three n else UInt8.ofNat (48 + n / 1000 % 10) :: three n := by
  by_cases h1 : n < 10
  · rw [if_pos h1, decDigits_one h1, Nat.mod_eq_of_lt h1]
  rw [if_neg h1]
  by_cases h2 : n < 100
  · rw [if_pos h2, decDigits_two h1 h2, Nat.mod_eq_of_lt (show n / 10 < 10 by omega)]
  rw [if_neg h2]
  by_cases h3 : n < 1000
  · rw [if_pos h3, dec_step h1, decDigits_two (by omega) (by omega), Nat.div_div_eq_div_mul]
    unfold three
    rw [Nat.mod_eq_of_lt (show n / 100 < 10 by omega)]
    rfl
  · rw [if_neg h3, dec_step h1, dec_step (by omega), decDigits_two (by omega) (by omega), show n / 10 / 10 / 10 = n / 1000 by omega, show n / 10 / 10 = n / 100 by omega]
    unfold three
    rw [Nat.mod_eq_of_lt (show n / 1000 < 10 by omega)]
    rfl
theorem dec_len {n : Nat} (h : n ≤ 9999) : (decDigits n).length ≤ 4 := by
  rw [dec_four h]
  split
  · simp
  · split
    · simp
    · split
      · simp [three]
      · simp [three]
/-- The reference's three digits. -/
theorem three_dec {n : Nat} (h : n < 256) : (48 :: 48 :: decDigits n).drop ((decDigits n).length + 2 - 3) = three n := by
  rw [dec_four (by omega)]
  have e48 : (48 : UInt8) = UInt8.ofNat (48 + 0) := rfl
  split
  · simp only [List.length_cons, List.length_nil]
    unfold three
    rw [show n / 100 % 10 = 0 by omega, show n / 10 % 10 = 0 by omega]
    rfl
  · split
    · simp only [List.length_cons, List.length_nil]
      unfold three
      rw [show n / 100 % 10 = 0 by omega]
      rfl
    · rw [if_pos (by omega), three_len]
      rfl
/-- A length's digits are read as the length. -/
theorem dec_read (most : Nat) : ∀ (n : Nat) (rest : List UInt8), n ≤ most → readA most (decDigits n ++ rest) 0 = readA most rest n := by
  intro n
  induction n using Nat.strongRecOn with
  | ind n ih =>
    intro rest h2
    by_cases h : n < 10
    · rw [decDigits_one h]
      have e : (UInt8.ofNat (48 + n)).toNat = 48 + n := byte_ofNat (by omega)
      simp only [List.cons_append, List.nil_append]
      rw [readA, e, if_neg (by omega), if_neg (by omega), show 10 * 0 + (48 + n - 48) = n by omega]
    · have e : (UInt8.ofNat (48 + n % 10)).toNat = 48 + n % 10 := byte_ofNat (by omega)
      rw [dec_step h, List.append_assoc, ih (n / 10) (by omega) _ (by omega)]
      simp only [List.cons_append, List.nil_append]
      rw [readA, e, if_neg (by omega), if_neg (by omega), show 10 * (n / 10) + (48 + n % 10 - 48) = n by omega]
theorem dec_read_all {most n : Nat} (h : n ≤ most) : readA most (decDigits n) 0 = (n, 0) := by
  have := dec_read most n [] h
  rw [List.append_nil] at this
  rw [this, readA]
theorem read_dec_from (most : Nat) : ∀ (l : List UInt8) (num n : Nat), 1 ≤ num → num ≤ most → readA most l num = (n, 0) → decDigits n = decDigits num ++ l ∧ 1 ≤ n ∧ n ≤ most
  | [], num, n, h1, h2, h => by
    rw [readA, Prod.mk.injEq] at h
    obtain ⟨rfl, _⟩ := h
    exact ⟨by simp, h1, h2⟩
  | c :: l, num, n, h1, h2, h => by
    rw [readA] at h
    split at h
    · simp at h
    rename_i g1
    split at h
    · simp at h
    rename_i g2
    obtain ⟨a, b⟩ := read_dec_from most l _ n (by omega) (by omega) h
    refine ⟨?_, b⟩
    rw [a, dec_step (by omega), show (10 * num + (c.toNat - 48)) / 10 = num by omega, byte_back (c := c) (by omega) (by omega) (by omega)]
    simp
/-- What is read as a length are its digits. -/
theorem read_dec {most : Nat} {c : UInt8} {l : List UInt8} {n : Nat} (hc : c.toNat ≠ 48) (h : readA most (c :: l) 0 = (n, 0)) : decDigits n = c :: l ∧ 1 ≤ n ∧ n ≤ most := by
  rw [readA] at h
  split at h
  · simp at h
  split at h
  · simp at h
  obtain ⟨a, b⟩ := read_dec_from most l _ n (by omega) (by omega) h
  refine ⟨?_, b⟩
  rw [a, decDigits_one (by omega), byte_back (c := c) (by omega) (by omega) (by omega)]
  simp
theorem dec_inj {m n : Nat} (h : decDigits m = decDigits n) : m = n := by
  have h1 := dec_read_all (most := m + n) (n := m) (by omega)
  have h2 := dec_read_all (most := m + n) (n := n) (by omega)
  rw [h, h2] at h1
  exact ((Prod.mk.injEq .. ▸ h1).1).symm
theorem dec_head {n : Nat} (h : 1 ≤ n) : ∃ c l, decDigits n = c :: l ∧ c.toNat ≠ 48 := by
  induction n using Nat.strongRecOn with
  | ind n ih =>
    by_cases h1 : n < 10
    · refine ⟨_, [], decDigits_one h1, ?_⟩
      rw [byte_ofNat (by omega)]
      omega
    · obtain ⟨c, l, e, hc⟩ := ih (n / 10) (by omega) (by omega)
      refine ⟨c, l ++ [UInt8.ofNat (48 + n % 10)], ?_, hc⟩
      rw [dec_step h1, e]
      rfl
/-- The length that a text says, an error's number. -/
def lengthE (l : List UInt8) : Nat × Nat := if l.getD 0 48 = 48 then (0, 112) else readA 4096 l 0
/-- The sum that a text says, an error's number. -/
def sumE (l : List UInt8) : Nat × Nat := if l.length = 3 then readA 255 l 0 else (0, 112)
/-- Of a text and a way to write numbers: the answer is the number that is written so, or none. -/
def Found (f : Nat → List UInt8) (lo hi : Nat) (l : List UInt8) (y : Int) : Prop :=
  (y = -1 ∧ ∀ n, lo ≤ n → n < hi → f n ≠ l) ∨ ∃ n : Nat, lo ≤ n ∧ n < hi ∧ f n = l ∧ y = (n : Int)
theorem found_sum {l : List UInt8} {y : Int} (h : Found three 0 256 l y) : ((sumE l).2 = 0 ∧ y = ((sumE l).1 : Int)) ∨ (sumE l = (0, 112) ∧ y = -1) := by
  rcases h with ⟨rfl, h⟩ | ⟨n, _, hn, rfl, rfl⟩
  · right
    refine ⟨?_, rfl⟩
    unfold sumE
    by_cases hl : l.length = 3
    · rw [if_pos hl]
      rcases readA_err 255 l 0 with e | e
      · obtain ⟨h1, h2⟩ := read_three hl (n := (readA 255 l 0).1) (Prod.ext rfl e)
        exact absurd h2 (h _ (Nat.zero_le _) h1)
      · exact e
    · rw [if_neg hl]
  · left
    unfold sumE
    rw [if_pos (three_len n), three_read hn]
    exact ⟨rfl, rfl⟩
theorem found_len {l : List UInt8} {y : Int} (h : Found decDigits 1 4097 l y) : ((lengthE l).2 = 0 ∧ y = ((lengthE l).1 : Int)) ∨ (lengthE l = (0, 112) ∧ y = -1) := by
  rcases h with ⟨rfl, h⟩ | ⟨n, h1, hn, rfl, rfl⟩
  · right
    refine ⟨?_, rfl⟩
    unfold lengthE
    cases l with
    | nil => rfl
    | cons c l =>
      rw [List.getD_cons_zero]
      by_cases hc : c = 48
      · rw [if_pos hc]
      · rw [if_neg hc]
        rcases readA_err 4096 (c :: l) 0 with e | e
        · obtain ⟨a1, a2, a3⟩ := read_dec (n := (readA 4096 (c :: l) 0).1) (fun e => hc (UInt8.toNat_inj.1 e)) (Prod.ext rfl e)
          exact absurd a1 (h _ a2 (by omega))
        · exact e
  · left
    unfold lengthE
    obtain ⟨c, r, e, hc⟩ := dec_head h1
    have : ¬ (decDigits n).getD 0 48 = 48 := by
      rw [e, List.getD_cons_zero]
      intro k
      exact hc (by rw [k]; rfl)
    rw [if_neg this, dec_read_all (by omega)]
    exact ⟨rfl, rfl⟩
end Go.Proofs.YtdbkoflejimibaaGreatDoor
/-
  Numbers in a text, and lists of them parted by commas: plain mathematics, of no program.
-/
namespace Go.Proofs.YtdbkoflejimibaaGreatDoor
open Go.Lib

/-- The number of a text, an error's number. -/
def numE (l : List UInt8) : Nat × Nat := if l = [] ∨ (l.getD 0 0 = 48 ∧ 1 < l.length) then (0, 112) else readA 9223372036854775807 l 0
theorem numE_err (l : List UInt8) : (numE l).2 = 0 ∨ numE l = (0, 112) := by
  unfold numE
  split
  · exact .inr rfl
  · exact readA_err _ _ _
theorem numE_le (l : List UInt8) : (numE l).1 ≤ 9223372036854775807 := by
  unfold numE
  split
  · exact Nat.zero_le _
  · exact readA_le _ _ _ (Nat.zero_le _)
/-- What a text's digits say behind those that were read, however many. -/
def valA : List UInt8 → Nat → Option Nat
  | [], n => some n
  | c :: l, n => if c.toNat < 48 ∨ 57 < c.toNat then none else valA l (10 * n + (c.toNat - 48))
theorem valA_ge : ∀ (l : List UInt8) (n v : Nat), valA l n = some v → n * 10 ^ l.length ≤ v
  | [], n, v, h => by
    simp only [valA, Option.some.injEq] at h
    simp [h]
  | c :: l, n, v, h => by
    rw [valA] at h
    split at h
    · simp at h
    have := valA_ge l _ v h
    rw [List.length_cons, Nat.pow_succ]
    refine Nat.le_trans ?_ this
    have e : n * (10 ^ l.length * 10) = (10 * n) * 10 ^ l.length := by
      rw [Nat.mul_comm (10 ^ l.length) 10, ← Nat.mul_assoc, Nat.mul_comm n 10]
    rw [e]
    exact Nat.mul_le_mul_right _ (by omega)
theorem valA_from (l : List UInt8) (n v : Nat) (h : valA l n = some v) : n ≤ v := by
  have := valA_ge l n v h
  exact Nat.le_trans (Nat.le_mul_of_pos_right _ (Nat.pow_pos (by decide))) this
/-- What is told of all digits: within the bound, or nothing. -/
def capped (most : Nat) (o : Option Nat) : Nat × Nat := match o with
  | some v => if v ≤ most then (v, 0) else (0, 112)
  | none => (0, 112)
theorem readA_val (most : Nat) : ∀ (l : List UInt8) (n : Nat), n ≤ most → readA most l n = capped most (valA l n)
  | [], n, h => by simp [readA, valA, capped, h]
  | c :: l, n, h => by
    rw [readA, valA]
    split
    · rfl
    · split
      · rename_i g
        obtain ⟨v, hv⟩ | hv : (∃ v, valA l (10 * n + (c.toNat - 48)) = some v) ∨ valA l (10 * n + (c.toNat - 48)) = none := by
          cases valA l (10 * n + (c.toNat - 48)) with
          | some v => exact .inl ⟨v, rfl⟩
          | none => exact .inr rfl
        · have := valA_from l _ v hv
          rw [hv, capped, if_neg (by omega)]
        · rw [hv, capped]
      · exact readA_val most l _ (by omega)
/-- The number of a text, or -1. -/
def numZ (l : List UInt8) : Int := if (numE l).2 = 0 then ((numE l).1 : Int) else -1
theorem numZ_bad {l : List UInt8} (h : l.length < 1 ∨ 19 < l.length ∨ (1 < l.length ∧ l.getD 0 0 = 48)) : numZ l = -1 := by
  unfold numZ numE
  by_cases h0 : l = [] ∨ (l.getD 0 0 = 48 ∧ 1 < l.length)
  · rw [if_pos h0, if_neg (by simp)]
  rw [if_neg h0]
  have hl : 19 < l.length := by
    rcases h with h | h | h
    · exact absurd (.inl (List.length_eq_zero_iff.1 (by omega))) h0
    · exact h
    · exact absurd (.inr ⟨h.2, h.1⟩) h0
  cases l with
  | nil => simp at hl
  | cons c l =>
    rw [readA_val _ _ _ (Nat.zero_le _), valA]
    rw [List.length_cons] at hl
    split
    · rfl
    · rename_i g
      have hc : c ≠ 48 := fun e => h0 (.inr ⟨by rw [e]; rfl, by rw [List.length_cons]; omega⟩)
      have hc' : c.toNat ≠ 48 := fun e => hc (UInt8.toNat_inj.1 e)
      cases hv : valA l (10 * 0 + (c.toNat - 48)) with
      | none => rfl
      | some v =>
        have h1 := valA_ge l _ v hv
        have h2 : 10 ^ 19 ≤ 10 ^ l.length := Nat.pow_le_pow_right (by decide) (by omega)
        have h3 : 10 ^ l.length ≤ (10 * 0 + (c.toNat - 48)) * 10 ^ l.length := Nat.le_mul_of_pos_left _ (by omega)
        have h4 : ¬ v ≤ 9223372036854775807 := by omega
        simp only [capped, if_neg h4]
        rfl
theorem numZ_good {l : List UInt8} (h : ¬ (l.length < 1 ∨ 19 < l.length ∨ (1 < l.length ∧ l.getD 0 0 = 48))) :
    numZ l = match valA l 0 with
      | some v => if v ≤ 9223372036854775807 then (v : Int) else -1
      | none => -1 := by
  have e0 : numE l = capped 9223372036854775807 (valA l 0) := by
    unfold numE
    rw [if_neg (by
      rintro (e | e)
      · subst e
        exact h (.inl (by simp))
      · exact h (.inr (.inr ⟨e.2, e.1⟩))), readA_val _ _ _ (Nat.zero_le _)]
  unfold numZ
  rw [e0]
  cases valA l 0 with
  | none => rfl
  | some v =>
    rw [capped]
    by_cases hv : v ≤ 9223372036854775807
    · simp only [if_pos hv]
      rfl
    · simp only [if_neg hv]
      rfl
theorem numZ_ok {l : List UInt8} (h : (numE l).2 = 0) : numZ l = ((numE l).1 : Int) := if_pos h
theorem numZ_no {l : List UInt8} (h : numE l = (0, 112)) : numZ l = -1 := by unfold numZ; rw [h]; rfl

/-- What lies between the commas. -/
def segs : List UInt8 → List (List UInt8)
  | [] => [[]]
  | c :: l => if c = 44 then [] :: segs l else match segs l with
    | s :: r => (c :: s) :: r
    | [] => [[c]]
theorem segs_none : ∀ (l : List UInt8), (∀ c ∈ l, c ≠ 44) → segs l = [l]
  | [], _ => rfl
  | c :: l, h => by
    rw [segs, if_neg (h c (by simp)), segs_none l (fun d hd => h d (by simp [hd]))]
theorem segs_at : ∀ (l : List UInt8) (k : Nat), l[k]? = some 44 → (∀ j, j < k → l[j]? ≠ some 44) → segs l = l.take k :: segs (l.drop (k + 1))
  | [], k, h, _ => by simp at h
  | c :: l, 0, h, _ => by
    simp only [List.getElem?_cons_zero, Option.some.injEq] at h
    rw [segs, if_pos h]
    rfl
  | c :: l, k + 1, h, hno => by
    have hc : c ≠ 44 := fun e => hno 0 (by omega) (by rw [e]; rfl)
    rw [List.getElem?_cons_succ] at h
    have := segs_at l k h (fun j hj => by have := hno (j + 1) (by omega); rwa [List.getElem?_cons_succ] at this)
    rw [segs, if_neg hc, this]
    rfl
theorem segs_len : ∀ l, (segs l).length ≤ l.length + 1
  | [] => by simp [segs]
  | c :: l => by
    rw [segs]
    have := segs_len l
    split
    · simp only [List.length_cons]
      omega
    · split
      · rename_i s r e
        rw [e] at this
        simp only [List.length_cons] at this ⊢
        omega
      · simp
/-- The numbers of texts behind those that were read, or none. -/
def numsA : List (List UInt8) → List Nat → Option (List Nat)
  | [], acc => some acc
  | x :: r, acc => if (numE x).2 = 0 then numsA r (acc ++ [(numE x).1]) else none
theorem numsA_len : ∀ (L : List (List UInt8)) (acc out : List Nat), numsA L acc = some out → out.length = acc.length + L.length
  | [], acc, out, h => by
    simp only [numsA, Option.some.injEq] at h
    simp [h]
  | x :: r, acc, out, h => by
    rw [numsA] at h
    split at h
    · have := numsA_len r _ out h
      rw [this]
      simp
      omega
    · simp at h
/-- The numbers of a text, or none. -/
def numsO (l : List UInt8) : Option (List Nat) := numsA (segs l) []
theorem numsO_len {l : List UInt8} {out : List Nat} (h : numsO l = some out) : out.length ≤ l.length + 1 := by
  have := numsA_len _ _ _ h
  have := segs_len l
  simp at *
  omega

/-- A number's digits are digits. -/
theorem dec_digits : ∀ (n : Nat), ∀ c ∈ decDigits n, 48 ≤ c.toNat ∧ c.toNat ≤ 57 := by
  intro n
  induction n using Nat.strongRecOn with
  | ind n ih =>
    intro c hc
    by_cases h : n < 10
    · rw [decDigits_one h, List.mem_singleton] at hc
      rw [hc, byte_ofNat (by omega)]
      omega
    · rw [dec_step h, List.mem_append, List.mem_singleton] at hc
      rcases hc with hc | hc
      · exact ih (n / 10) (by omega) c hc
      · rw [hc, byte_ofNat (by omega)]
        omega
theorem dec_ne (n : Nat) : decDigits n ≠ [] := fun e => by
  have := digits_pos n
  rw [e] at this
  simp at this
theorem num_dec {n : Nat} (h : n ≤ 9223372036854775807) : numE (decDigits n) = (n, 0) := by
  unfold numE
  rw [if_neg, dec_read_all h]
  rintro (e | ⟨e, hl⟩)
  · exact dec_ne n e
  · by_cases h1 : 1 ≤ n
    · obtain ⟨c, l, ec, hc⟩ := dec_head h1
      rw [ec, List.getD_cons_zero] at e
      exact hc (by rw [e]; rfl)
    · obtain rfl : n = 0 := by omega
      rw [decDigits_one (by omega)] at hl
      simp at hl
theorem num_nought (n : Nat) : numE (48 :: decDigits n) = (0, 112) := by
  have := digits_pos n
  unfold numE
  rw [if_pos (.inr ⟨rfl, by rw [List.length_cons]; omega⟩)]
theorem num_plus (l : List UInt8) : numE (43 :: l) = (0, 112) := by
  unfold numE
  split
  · rfl
  · rw [readA, if_pos (.inl (by decide))]
theorem readA_blank (most : Nat) (l : List UInt8) : ∀ (a : List UInt8) (n : Nat), readA most (a ++ 32 :: l) n = (0, 112)
  | [], n => by rw [List.nil_append, readA, if_pos (.inl (by decide))]
  | c :: a, n => by
    rw [List.cons_append, readA]
    split
    · rfl
    · split
      · rfl
      · exact readA_blank most l a _
theorem num_blank (l : List UInt8) : numE (l ++ [32]) = (0, 112) := by
  unfold numE
  split
  · rfl
  · exact readA_blank _ _ _ _
theorem nums_two {n : Nat} (h : n ≤ 9223372036854775807) : numsO (decDigits n ++ 44 :: decDigits n) = some [n, n] := by
  have hno : ∀ c ∈ decDigits n, c ≠ 44 := fun c hc e => by
    have := dec_digits n c hc
    rw [e] at this
    simp at this
  unfold numsO
  rw [segs_at _ (decDigits n).length (by simp) (fun j hj => by
    rw [List.getElem?_append_left hj]
    intro e
    exact hno _ (List.mem_of_getElem? e) rfl)]
  rw [List.take_left, show (decDigits n ++ 44 :: decDigits n).drop ((decDigits n).length + 1) = decDigits n by
    rw [List.drop_append, List.drop_eq_nil_of_le (by omega)]
    simp, segs_none _ hno]
  simp only [numsA, num_dec h]
  rfl
end Go.Proofs.YtdbkoflejimibaaGreatDoor
/-
  How a slice of ints that comes in reads: as a row, with 0 beyond its end.
-/
namespace Go.Proofs.YtdbkoflejimibaaGreatDoor
open Go.ChangeShapes Go.WideShapes Go.ChangeAt Go.RowKit

theorem row_none (W : World) : ∃ f : Nat → Int, Row W (.slice none 0 0) 0 (fun i => .int .i64 (f i)) ∧ (∀ i, 0 ≤ i → f i = 0) ∧ ∀ i, -9223372036854775808 ≤ f i ∧ f i ≤ 9223372036854775807 :=
  ⟨fun _ => 0, ⟨none, 0, rfl, Nat.le_refl _, by unfold maxLen; omega, fun i hi => absurd hi (by omega)⟩, fun _ _ => rfl, fun _ => by dsimp only; omega⟩
theorem row_some {W : World} {x : Addr} {len cap : Nat} {zs : List Int} (hl : len ≤ cap) (hm : cap ≤ maxLen) (hz : zs.length = cap) (hcell : ∀ i, i < zs.length → W.cell? (x.add i) = some (.int .i64 (zs.getD i 0))) (hb : ∀ z ∈ zs, -9223372036854775808 ≤ z ∧ z ≤ 9223372036854775807) :
    ∃ f : Nat → Int, Row W (.slice (some x) len cap) len (fun i => .int .i64 (f i)) ∧ (∀ i, len ≤ i → f i = 0) ∧ ∀ i, -9223372036854775808 ≤ f i ∧ f i ≤ 9223372036854775807 := by
  refine ⟨fun i => if i < len then zs.getD i 0 else 0, ⟨some x, cap, rfl, hl, hm, fun i hi => ?_⟩, fun i hi => if_neg (by omega), fun i => ?_⟩
  · have hc := hcell i (by omega)
    obtain ⟨b, off, spot⟩ := x
    have hspot : spot = none := by
      simpa [Addr.add] using World.cell?_spot (hcell 0 (by omega))
    subst hspot
    refine ⟨b, off, rfl, ?_⟩
    have e : (⟨b, off, none⟩ : Addr).add i = ⟨b, off + i, none⟩ := by unfold Addr.add; split <;> simp_all
    rw [e] at hc
    show _ = some (Value.int .i64 (if i < len then _ else _))
    rw [if_pos hi]
    exact hc
  · show _ ≤ (if i < len then zs.getD i 0 else 0) ∧ (if i < len then zs.getD i 0 else 0) ≤ _
    by_cases hi : i < len
    · rw [if_pos hi]
      have hi' : i < zs.length := by omega
      rw [show zs.getD i 0 = zs[i] from by simp [hi']]
      exact hb _ (List.getElem_mem hi')
    · rw [if_neg hi]; omega
end Go.Proofs.YtdbkoflejimibaaGreatDoor
