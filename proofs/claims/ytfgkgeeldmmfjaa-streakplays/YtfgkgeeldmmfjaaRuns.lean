/-
  Plain mathematics: of a sequence of executions, how many at its end are the same, and whether there ever were so many.
-/
import Derived.Test.YtfgkgeeldmmfjaaBut
namespace Go.Proofs.Ytfgkgeeldmmfjaa

/-- How many of the first n, at their end, are the same. -/
def runOf (f : Nat → Int × Int × Int) : Nat → Nat
  | 0 => 0
  | n + 1 => if 0 < runOf f n ∧ f n = f (n - 1) then runOf f n + 1 else 1
/-- Were there ever so many among the first n? -/
def tripB (f : Nat → Int × Int × Int) (most : Nat) : Nat → Bool
  | 0 => false
  | n + 1 => tripB f most n || decide (most ≤ runOf f (n + 1))
theorem runOf_succ (f : Nat → Int × Int × Int) (n : Nat) : runOf f (n + 1) = if 0 < runOf f n ∧ f n = f (n - 1) then runOf f n + 1 else 1 := rfl
theorem tripB_succ (f : Nat → Int × Int × Int) (most n : Nat) : tripB f most (n + 1) = (tripB f most n || decide (most ≤ runOf f (n + 1))) := rfl
theorem runOf_le (f : Nat → Int × Int × Int) : ∀ n, runOf f n ≤ n
  | 0 => Nat.le_refl _
  | n + 1 => by
    have := runOf_le f n
    rw [runOf_succ]
    split <;> omega
theorem runOf_pos (f : Nat → Int × Int × Int) {n : Nat} (h : 0 < n) : 0 < runOf f n := by
  obtain ⟨k, rfl⟩ : ∃ k, n = k + 1 := ⟨n - 1, by omega⟩
  rw [runOf_succ]
  split <;> omega
theorem runOf_same (f : Nat → Int × Int × Int) : ∀ n j, n - runOf f n ≤ j → j < n → f j = f (n - 1)
  | 0, j, _, h => absurd h (by omega)
  | n + 1, j, h1, h2 => by
    by_cases e : j = n
    · subst e; rfl
    · rw [runOf_succ] at h1
      by_cases k : 0 < runOf f n ∧ f n = f (n - 1)
      · rw [if_pos k] at h1
        have := runOf_same f n j (by omega) (by omega)
        rw [this, Nat.add_sub_cancel, k.2]
      · rw [if_neg k] at h1
        omega
theorem runOf_stop (f : Nat → Int × Int × Int) : ∀ n, runOf f n < n → f (n - runOf f n - 1) ≠ f (n - 1)
  | 0, h => absurd h (by omega)
  | n + 1, h => by
    rw [runOf_succ] at h ⊢
    by_cases k : 0 < runOf f n ∧ f n = f (n - 1)
    · rw [if_pos k] at h ⊢
      have := runOf_stop f n (by omega)
      rw [Nat.add_sub_cancel, k.2, show n + 1 - (runOf f n + 1) - 1 = n - runOf f n - 1 by omega]
      exact this
    · rw [if_neg k] at h ⊢
      have hp := runOf_pos f (show 0 < n by omega)
      rw [Nat.add_sub_cancel]
      exact fun e => k ⟨hp, e.symm⟩
theorem runOf_congr {f g : Nat → Int × Int × Int} : ∀ n, (∀ i, i < n → f i = g i) → runOf f n = runOf g n
  | 0, _ => rfl
  | n + 1, h => by
    rw [runOf_succ, runOf_succ, runOf_congr n (fun i hi => h i (by omega)), h n (by omega), h (n - 1) (by omega)]
theorem tripB_congr {f g : Nat → Int × Int × Int} (most : Nat) : ∀ n, (∀ i, i < n → f i = g i) → tripB f most n = tripB g most n
  | 0, _ => rfl
  | n + 1, h => by
    rw [tripB_succ, tripB_succ, tripB_congr most n (fun i hi => h i (by omega)), runOf_congr (n + 1) h]
theorem tripB_mono (f : Nat → Int × Int × Int) (most : Nat) {i : Nat} (h : tripB f most i = true) : ∀ n, i ≤ n → tripB f most n = true
  | 0, hn => by obtain rfl : i = 0 := by omega
                exact h
  | n + 1, hn => by
    by_cases e : i = n + 1
    · subst e; exact h
    · rw [tripB_succ, tripB_mono f most h n (by omega), Bool.true_or]
/-- Another one behind n of them: the run goes on, or begins anew. -/
theorem runOf_more (f : Nat → Int × Int × Int) (n : Nat) (x : Int × Int × Int) : runOf (upd f n x) (n + 1) = if 0 < n ∧ x = f (n - 1) then runOf f n + 1 else 1 := by
  have e : runOf (upd f n x) n = runOf f n := runOf_congr n (fun i hi => upd_other _ _ (by omega))
  rw [runOf_succ, e, upd_same]
  by_cases hn : 0 < n
  · have hp := runOf_pos f hn
    rw [upd_other _ _ (by omega)]
    by_cases k : x = f (n - 1)
    · rw [if_pos ⟨hp, k⟩, if_pos ⟨hn, k⟩]
    · rw [if_neg (fun e => k e.2), if_neg (fun e => k e.2)]
  · obtain rfl : n = 0 := by omega
    rw [if_neg (fun e => absurd e.1 (by simp [runOf])), if_neg (fun e => hn e.1)]
theorem tripB_more (f : Nat → Int × Int × Int) (most n : Nat) (x : Int × Int × Int) : tripB (upd f n x) most (n + 1) = (tripB f most n || decide (most ≤ runOf (upd f n x) (n + 1))) := by
  rw [tripB_succ, tripB_congr most n (fun i hi => upd_other _ _ (by omega))]
end Go.Proofs.Ytfgkgeeldmmfjaa
