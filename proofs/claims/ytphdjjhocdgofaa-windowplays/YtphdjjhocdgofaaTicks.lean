/-
  Plain facts on rising ticks: how many are less than a number, how many are counted at a tick.
-/
import Derived.Test.YtphdjjhocdgofaaBut
namespace Go.Proofs.Ytphdjjhocdgofaa

/-- n ticks that never fall, from 0 to MaxTime. -/
structure Rise (n : Nat) (g : Nat → Int) : Prop where
  up : ∀ i j, i ≤ j → j < n → g i ≤ g j
  low : ∀ i, i < n → 0 ≤ g i
  high : ∀ i, i < n → g i ≤ 1099511627776
/-- The first k of the n ticks are less than x, the others not. -/
structure Cut (g : Nat → Int) (n : Nat) (x : Int) (k : Nat) : Prop where
  le : k ≤ n
  less : ∀ j, j < k → g j < x
  rest : ∀ j, k ≤ j → j < n → x ≤ g j
theorem Cut.one {g : Nat → Int} {n : Nat} {x : Int} {k m : Nat} (h : Cut g n x k) (h' : Cut g n x m) : k = m := by
  rcases Nat.lt_trichotomy k m with e | e | e
  · have := h'.less k e; have := h.rest k (Nat.le_refl _) (Nat.lt_of_lt_of_le e h'.le); omega
  · exact e
  · have := h.less m e; have := h'.rest m (Nat.le_refl _) (Nat.lt_of_lt_of_le e h.le); omega
theorem Cut.ex (g : Nat → Int) (x : Int) : ∀ n, (∀ i j, i ≤ j → j < n → g i ≤ g j) → ∃ k, Cut g n x k
  | 0, _ => ⟨0, Nat.le_refl _, fun j hj => absurd hj (by omega), fun j _ hj => absurd hj (by omega)⟩
  | n + 1, up => by
    obtain ⟨k, h⟩ := Cut.ex g x n (fun i j hij hj => up i j hij (by omega))
    by_cases hk : k < n
    · refine ⟨k, Nat.le_succ_of_le h.le, h.less, fun j hj hj' => ?_⟩
      have := h.rest k (Nat.le_refl _) hk
      have := up k j hj hj'
      omega
    · obtain rfl : k = n := by have := h.le; omega
      by_cases hg : g k < x
      · exact ⟨k + 1, Nat.le_refl _, fun j hj => if e : j = k then by subst e; exact hg else h.less j (by omega), fun j hj hj' => absurd hj' (by omega)⟩
      · exact ⟨k, by omega, h.less, fun j hj hj' => by obtain rfl : j = k := by omega
                                                       omega⟩
/-- c of the n ticks are counted at now. -/
def Cnt (g : Nat → Int) (n width : Nat) (now : Int) (c : Nat) : Prop :=
  (n = 0 ∧ c = 0) ∨ (0 < n ∧ now < g (n - 1) ∧ c = 0) ∨ (0 < n ∧ g (n - 1) ≤ now ∧ ∃ k, Cut g n (now - (width : Int) + 1) k ∧ c + k = n)
theorem Cnt.ex {g : Nat → Int} {n : Nat} (h : Rise n g) (width : Nat) (now : Int) : ∃ c, Cnt g n width now c := by
  by_cases h0 : n = 0
  · exact ⟨0, .inl ⟨h0, rfl⟩⟩
  · by_cases h1 : now < g (n - 1)
    · exact ⟨0, .inr (.inl ⟨by omega, h1, rfl⟩)⟩
    · obtain ⟨k, hk⟩ := Cut.ex g (now - (width : Int) + 1) n h.up
      exact ⟨n - k, .inr (.inr ⟨by omega, by omega, k, hk, by have := hk.le; omega⟩)⟩
theorem Cnt.le {g : Nat → Int} {n width c : Nat} {now : Int} (h : Cnt g n width now c) : c ≤ n := by
  rcases h with ⟨_, h⟩ | ⟨_, _, h⟩ | ⟨_, _, k, _, h⟩ <;> omega
/-- A tick may be asked of. -/
def Askd (g : Nat → Int) (n : Nat) (now : Int) : Prop := 0 ≤ now ∧ now ≤ 1099511627776 ∧ (n = 0 ∨ g (n - 1) ≤ now)
theorem Cnt.cut {g : Nat → Int} {n width c : Nat} {now : Int} (h : Cnt g n width now c) (a : Askd g n now) : ∃ k, Cut g n (now - (width : Int) + 1) k ∧ c + k = n := by
  rcases h with ⟨h, h'⟩ | ⟨h, h1, h'⟩ | ⟨_, _, h⟩
  · subst h h'
    exact ⟨0, ⟨Nat.le_refl _, fun j hj => absurd hj (by omega), fun j _ hj => absurd hj (by omega)⟩, rfl⟩
  · rcases a.2.2 with e | e <;> omega
  · exact h
/-- The ticks from the k-th on, and now behind them. -/
def tookG (g : Nat → Int) (n k : Nat) (now : Int) : Nat → Int := upd (fun i => g (k + i)) (n - k) now
theorem tookG_old (g : Nat → Int) {n k i : Nat} (now : Int) (h : i < n - k) : tookG g n k now i = g (k + i) := upd_other _ _ (by omega)
theorem tookG_new (g : Nat → Int) {n k i : Nat} (now : Int) (h : i = n - k) : tookG g n k now i = now := by subst h; exact upd_same _ _ _
theorem Rise.took {g : Nat → Int} {n : Nat} (h : Rise n g) {now : Int} (a : Askd g n now) (k : Nat) : Rise (n - k + 1) (tookG g n k now) := by
  have top : ∀ i, i < n → g i ≤ now := fun i hi => by
    rcases a.2.2 with e | e
    · omega
    · exact Int.le_trans (h.up i (n - 1) (by omega) (by omega)) e
  refine ⟨fun i j hij hj => ?_, fun i hi => ?_, fun i hi => ?_⟩
  · by_cases h1 : i < n - k
    · rw [tookG_old _ _ h1]
      by_cases h2 : j < n - k
      · rw [tookG_old _ _ h2]; exact h.up _ _ (by omega) (by omega)
      · rw [tookG_new _ _ (by omega)]; exact top _ (by omega)
    · rw [tookG_new _ _ (by omega), tookG_new _ _ (by omega)]; exact Int.le_refl _
  · by_cases h1 : i < n - k
    · rw [tookG_old _ _ h1]; exact h.low _ (by omega)
    · rw [tookG_new _ _ (by omega)]; exact a.1
  · by_cases h1 : i < n - k
    · rw [tookG_old _ _ h1]; exact h.high _ (by omega)
    · rw [tookG_new _ _ (by omega)]; exact a.2.1
/-- Of all N ticks of a the last n are kept: the others are out of each stretch to come. -/
structure Kept (a : Nat → Int) (N n width : Nat) (g : Nat → Int) : Prop where
  le : n ≤ N
  same : ∀ i, i < n → g i = a (N - n + i)
  none : n = 0 → N = 0
  out : ∀ i, i < N - n → a i + (width : Int) ≤ a (N - 1)
theorem Kept.last {a g : Nat → Int} {N n width : Nat} (h : Kept a N n width g) (hn : 0 < n) : g (n - 1) = a (N - 1) := by
  rw [h.same (n - 1) (by omega)]; congr 1; have := h.le; omega
theorem Kept.askd {a g : Nat → Int} {N n width : Nat} (h : Kept a N n width g) {now : Int} : Askd g n now ↔ Askd a N now := by
  have hle := h.le
  have h0 := h.none
  by_cases hn : n = 0
  · have hN := h0 hn
    subst hn hN
    simp [Askd]
  · have hl := h.last (by omega)
    unfold Askd
    rw [hl]
    constructor
    · rintro ⟨p, q, r⟩; exact ⟨p, q, .inr (by omega)⟩
    · rintro ⟨p, q, r⟩; exact ⟨p, q, .inr (by omega)⟩
theorem Kept.cnt {a g : Nat → Int} {N n width c : Nat} (h : Kept a N n width g) {now : Int} (hc : Cnt g n width now c) : Cnt a N width now c := by
  have hle := h.le
  rcases hc with ⟨h1, h2⟩ | ⟨h1, h2, h3⟩ | ⟨h1, h2, k, hk, h3⟩
  · exact .inl ⟨h.none h1, h2⟩
  · rw [h.last h1] at h2; exact .inr (.inl ⟨by omega, h2, h3⟩)
  · rw [h.last h1] at h2
    refine .inr (.inr ⟨by omega, h2, N - n + k, ⟨by omega, fun j hj => ?_, fun j hj hj' => ?_⟩, by omega⟩)
    · by_cases e : j < N - n
      · have := h.out j e; omega
      · have := hk.less (j - (N - n)) (by omega)
        rw [h.same _ (by omega), show N - n + (j - (N - n)) = j by omega] at this
        exact this
    · have := hk.rest (j - (N - n)) (by omega) (by omega)
      rw [h.same _ (by omega), show N - n + (j - (N - n)) = j by omega] at this
      exact this
theorem Kept.took {a g : Nat → Int} {N n width k : Nat} (h : Kept a N n width g) {now : Int} (ak : Askd a N now) (hk : Cut g n (now - (width : Int) + 1) k) : Kept (upd a N now) (N + 1) (n - k + 1) width (tookG g n k now) := by
  have hle := h.le
  have hkn := hk.le
  refine ⟨by omega, fun i hi => ?_, fun e => by omega, fun i hi => ?_⟩
  · by_cases h1 : i < n - k
    · rw [tookG_old _ _ h1, h.same _ (by omega), upd_other _ _ (by omega)]; congr 1; omega
    · rw [tookG_new _ _ (by omega), show N + 1 - (n - k + 1) + i = N by omega, upd_same]
  · rw [show N + 1 - 1 = N by omega, upd_same, upd_other _ _ (by omega)]
    by_cases e : i < N - n
    · have h1 := h.out i e
      rcases ak.2.2 with e' | e'
      · omega
      · omega
    · have := hk.less (i - (N - n)) (by omega)
      rw [h.same _ (by omega), show N - n + (i - (N - n)) = i by omega] at this
      omega
theorem Rise.more {a : Nat → Int} {N : Nat} (h : Rise N a) {now : Int} (ak : Askd a N now) : Rise (N + 1) (upd a N now) := by
  have top : ∀ i, i < N → a i ≤ now := fun i hi => by
    rcases ak.2.2 with e | e
    · omega
    · exact Int.le_trans (h.up i (N - 1) (by omega) (by omega)) e
  refine ⟨fun i j hij hj => ?_, fun i hi => ?_, fun i hi => ?_⟩
  · by_cases h2 : j = N
    · subst h2
      rw [upd_same]
      by_cases h1 : i = j
      · subst h1; rw [upd_same]; exact Int.le_refl _
      · rw [upd_other _ _ h1]; exact top i (by omega)
    · rw [upd_other _ _ h2, upd_other _ _ (by omega)]; exact h.up i j hij (by omega)
  · by_cases h1 : i = N
    · subst h1; rw [upd_same]; exact ak.1
    · rw [upd_other _ _ h1]; exact h.low i (by omega)
  · by_cases h1 : i = N
    · subst h1; rw [upd_same]; exact ak.2.1
    · rw [upd_other _ _ h1]; exact h.high i (by omega)
end Go.Proofs.Ytphdjjhocdgofaa
