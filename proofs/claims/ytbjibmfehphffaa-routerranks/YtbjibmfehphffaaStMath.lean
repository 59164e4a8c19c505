/-
  Sorting with equals kept in their order (plain): a list of places, an order on places in which equals stand by their place; insertion; two sorted lists of the same places are one.
-/
import Derived.Test.YtbjibmfehphffaaBut
namespace Go.Proofs.Ytbjibmfehphffaa.ST

/-- A test that parts places as a comparison of what lies there does. -/
structure Swo (lt : Nat → Nat → Bool) : Prop where
  irr : ∀ i, lt i i = false
  tr : ∀ i j k, lt i j = true → lt j k = true → lt i k = true
  ntr : ∀ i j k, lt i j = false → lt j k = false → lt i k = false
/-- One place stands ahead of another: by the test, or, where they are equal, as the lesser one. -/
def Ah (lt : Nat → Nat → Bool) (i j : Nat) : Prop := lt i j = true ∨ (lt j i = false ∧ i < j)
theorem Swo.asym {lt : Nat → Nat → Bool} (h : Swo lt) {i j : Nat} (e : lt i j = true) : lt j i = false := by
  cases c : lt j i with
  | false => rfl
  | true =>
    have := h.tr i j i e c
    rw [h.irr] at this
    exact absurd this (by decide)
theorem Ah.irr {lt : Nat → Nat → Bool} (h : Swo lt) {i : Nat} : ¬ Ah lt i i := by
  rintro (e | ⟨_, e⟩)
  · rw [h.irr] at e; exact absurd e (by decide)
  · omega
theorem Ah.trans {lt : Nat → Nat → Bool} (h : Swo lt) {i j k : Nat} (x : Ah lt i j) (y : Ah lt j k) : Ah lt i k := by
  rcases x with x | ⟨x, x'⟩
  · rcases y with y | ⟨y, _⟩
    · exact .inl (h.tr i j k x y)
    · refine .inl ?_
      cases c : lt i k with
      | true => rfl
      | false =>
        have := h.ntr i k j c y
        rw [x] at this
        exact absurd this (by decide)
  · rcases y with y | ⟨y, y'⟩
    · refine .inl ?_
      cases c : lt i k with
      | true => rfl
      | false =>
        have := h.ntr j i k x c
        rw [y] at this
        exact absurd this (by decide)
    · exact .inr ⟨h.ntr k j i y x, by omega⟩
theorem Ah.asym {lt : Nat → Nat → Bool} (h : Swo lt) {i j : Nat} (x : Ah lt i j) (y : Ah lt j i) : False := Ah.irr h (x.trans h y)
/-- What stands behind in the list and is not ahead by the test is not ahead. -/
theorem Ah.of_not {lt : Nat → Nat → Bool} {i j : Nat} (e : lt j i = false) (hij : i < j) : Ah lt i j := .inr ⟨e, hij⟩

/-- Within [a, b) g has what f has, each once; outside it is f. -/
structure Pm (a b : Nat) (f g : Nat → Nat) : Prop where
  out : ∀ k, k < a ∨ b ≤ k → g k = f k
  way : ∃ p q : Nat → Nat, (∀ k, a ≤ k → k < b → a ≤ p k ∧ p k < b ∧ q (p k) = k ∧ g k = f (p k)) ∧ ∀ k, a ≤ k → k < b → a ≤ q k ∧ q k < b ∧ p (q k) = k
theorem Pm.refl (a b : Nat) (f : Nat → Nat) : Pm a b f f := ⟨fun _ _ => rfl, id, id, fun _ h1 h2 => ⟨h1, h2, rfl, rfl⟩, fun _ h1 h2 => ⟨h1, h2, rfl⟩⟩
theorem Pm.trans {a b : Nat} {f g h : Nat → Nat} (x : Pm a b f g) (y : Pm a b g h) : Pm a b f h := by
  obtain ⟨p, q, hp, hq⟩ := x.way
  obtain ⟨p', q', hp', hq'⟩ := y.way
  refine ⟨fun k hk => (y.out k hk).trans (x.out k hk), fun k => p (p' k), fun k => q' (q k), fun k h1 h2 => ?_, fun k h1 h2 => ?_⟩
  · obtain ⟨a1, a2, a3, a4⟩ := hp' k h1 h2
    obtain ⟨b1, b2, b3, b4⟩ := hp (p' k) a1 a2
    exact ⟨b1, b2, by show q' (q (p (p' k))) = k; rw [b3, a3], by rw [a4, b4]⟩
  · obtain ⟨a1, a2, a3⟩ := hq k h1 h2
    obtain ⟨b1, b2, b3⟩ := hq' (q k) a1 a2
    exact ⟨b1, b2, by show p (p' (q' (q k))) = k; rw [b3, a3]⟩
theorem Pm.symm {a b : Nat} {f g : Nat → Nat} (x : Pm a b f g) : Pm a b g f := by
  obtain ⟨p, q, hp, hq⟩ := x.way
  refine ⟨fun k hk => (x.out k hk).symm, q, p, fun k h1 h2 => ?_, fun k h1 h2 => ?_⟩
  · obtain ⟨a1, a2, a3⟩ := hq k h1 h2
    obtain ⟨_, _, _, b4⟩ := hp (q k) a1 a2
    exact ⟨a1, a2, a3, by rw [b4, a3]⟩
  · obtain ⟨a1, a2, a3, _⟩ := hp k h1 h2
    exact ⟨a1, a2, a3⟩
theorem Pm.mono {a b c d : Nat} {f g : Nat → Nat} (x : Pm a b f g) (h1 : c ≤ a) (h2 : b ≤ d) : Pm c d f g := by
  obtain ⟨p, q, hp, hq⟩ := x.way
  refine ⟨fun k hk => x.out k (by omega), fun k => if a ≤ k ∧ k < b then p k else k, fun k => if a ≤ k ∧ k < b then q k else k, fun k k1 k2 => ?_, fun k k1 k2 => ?_⟩
  · by_cases e : a ≤ k ∧ k < b
    · obtain ⟨a1, a2, a3, a4⟩ := hp k e.1 e.2
      simp only [if_pos e, if_pos (show a ≤ p k ∧ p k < b from ⟨a1, a2⟩)]
      exact ⟨by omega, by omega, a3, a4⟩
    · simp only [if_neg e]
      exact ⟨k1, k2, trivial, x.out k (by omega)⟩
  · by_cases e : a ≤ k ∧ k < b
    · obtain ⟨a1, a2, a3⟩ := hq k e.1 e.2
      simp only [if_pos e, if_pos (show a ≤ q k ∧ q k < b from ⟨a1, a2⟩)]
      exact ⟨by omega, by omega, a3⟩
    · simp only [if_neg e]
      exact ⟨k1, k2, trivial⟩
/-- What it has lies somewhere in the other one. -/
theorem Pm.from {a b : Nat} {f g : Nat → Nat} (x : Pm a b f g) {k : Nat} (h1 : a ≤ k) (h2 : k < b) : ∃ j, a ≤ j ∧ j < b ∧ g k = f j := by
  obtain ⟨p, q, hp, hq⟩ := x.way
  obtain ⟨a1, a2, _, a4⟩ := hp k h1 h2
  exact ⟨p k, a1, a2, a4⟩
/-- Two places change. -/
def sw (f : Nat → Nat) (i j : Nat) : Nat → Nat := upd (upd f i (f j)) j (f i)
theorem sw_i (f : Nat → Nat) {i j : Nat} (h : i ≠ j) : sw f i j i = f j := by unfold sw; rw [upd_other _ _ h, upd_same]
theorem sw_j (f : Nat → Nat) (i j : Nat) : sw f i j j = f i := upd_same _ _ _
theorem sw_o (f : Nat → Nat) {i j k : Nat} (hi : k ≠ i) (hj : k ≠ j) : sw f i j k = f k := by unfold sw; rw [upd_other _ _ hj, upd_other _ _ hi]
theorem Pm.sw {a b : Nat} (f : Nat → Nat) {i j : Nat} (i1 : a ≤ i) (i2 : i < b) (j1 : a ≤ j) (j2 : j < b) (hij : i ≠ j) : Pm a b f (ST.sw f i j) := by
  have t : ∀ k, a ≤ k → k < b → a ≤ (if k = i then j else if k = j then i else k) ∧ (if k = i then j else if k = j then i else k) < b ∧ (if (if k = i then j else if k = j then i else k) = i then j else if (if k = i then j else if k = j then i else k) = j then i else (if k = i then j else if k = j then i else k)) = k := by
    intro k k1 k2
    by_cases e : k = i
    · subst e
      rw [if_pos rfl, if_neg (Ne.symm hij), if_pos rfl]
      exact ⟨j1, j2, rfl⟩
    · rw [if_neg e]
      by_cases e' : k = j
      · subst e'
        rw [if_pos rfl, if_pos rfl]
        exact ⟨i1, i2, rfl⟩
      · rw [if_neg e', if_neg e, if_neg e']
        exact ⟨k1, k2, rfl⟩
  refine ⟨fun k hk => sw_o f (by omega) (by omega), fun k => if k = i then j else if k = j then i else k, fun k => if k = i then j else if k = j then i else k, fun k k1 k2 => ⟨(t k k1 k2).1, (t k k1 k2).2.1, (t k k1 k2).2.2, ?_⟩, t⟩
  show ST.sw f i j k = f (if k = i then j else if k = j then i else k)
  by_cases e : k = i
  · subst e
    rw [if_pos rfl, sw_i f hij]
  · rw [if_neg e]
    by_cases e' : k = j
    · subst e'
      rw [if_pos rfl, sw_j]
    · rw [if_neg e', sw_o f e e']
/-- What lies in [a, b) stands in its order. -/
def Srt (lt : Nat → Nat → Bool) (a b : Nat) (f : Nat → Nat) : Prop := ∀ k l, a ≤ k → k < l → l < b → Ah lt (f k) (f l)
/-- Two sorted lists of the same places are one. -/
theorem Srt.one {lt : Nat → Nat → Bool} (h : Swo lt) {b : Nat} {f g g' : Nat → Nat} (x : Pm 0 b f g) (x' : Pm 0 b f g') (s : Srt lt 0 b g) (s' : Srt lt 0 b g') : ∀ k, k < b → g k = g' k := by
  intro k
  induction k using Nat.strongRecOn with
  | ind k ih =>
    intro hk
    obtain ⟨j, _, j2, ej⟩ := (x'.symm.trans x).from (Nat.zero_le k) hk
    obtain ⟨i, _, i2, ei⟩ := (x.symm.trans x').from (Nat.zero_le k) hk
    have jk : k ≤ j := by
      rcases Nat.lt_or_ge j k with c | c
      · have := s j k (Nat.zero_le _) c hk
        rw [ih j c j2, ← ej] at this
        exact absurd this (Ah.irr h)
      · exact c
    have ik : k ≤ i := by
      rcases Nat.lt_or_ge i k with c | c
      · have := s' i k (Nat.zero_le _) c hk
        rw [← ih i c i2, ← ei] at this
        exact absurd this (Ah.irr h)
      · exact c
    rcases Nat.lt_or_ge k j with c | c
    · rcases Nat.lt_or_ge k i with d | d
      · have a1 := s' k j (Nat.zero_le _) c j2
        rw [← ej] at a1
        have a2 := s k i (Nat.zero_le _) d i2
        rw [← ei] at a2
        exact (a1.asym h a2).elim
      · obtain rfl : i = k := by omega
        exact ei.symm
    · obtain rfl : j = k := by omega
      exact ej

/-- Insertion under way: the place that came last, f0 i, stands at j; all else of [a, i] is sorted, and what stands behind j is behind it. -/
structure Ins (lt : Nat → Nat → Bool) (a j i : Nat) (f0 f : Nat → Nat) : Prop where
  pm : Pm a (i + 1) f0 f
  srt : ∀ k l, a ≤ k → k < l → l ≤ i → k ≠ j → l ≠ j → Ah lt (f k) (f l)
  aft : ∀ l, j < l → l ≤ i → Ah lt (f j) (f l)
  lo : a ≤ j
  hi : j ≤ i
  own : f j = f0 i
  rest : ∀ k, a ≤ k → k < j → f k = f0 k
theorem Ins.start {lt : Nat → Nat → Bool} {a i : Nat} {f : Nat → Nat} (h : Srt lt a i f) (ha : a ≤ i) : Ins lt a i i f f :=
  ⟨Pm.refl _ _ _, fun k l h1 h2 h3 _ h5 => h k l h1 h2 (by omega), fun _ h1 h2 => absurd h1 (by omega), ha, Nat.le_refl _, rfl, fun _ _ _ => rfl⟩
theorem Ins.swap {lt : Nat → Nat → Bool} {a j i : Nat} {f0 f : Nat → Nat} (h : Ins lt a j i f0 f) (hj : a < j) (e : lt (f j) (f (j - 1)) = true) : Ins lt a (j - 1) i f0 (sw f j (j - 1)) := by
  have hi := h.hi
  have ne : j ≠ j - 1 := by omega
  refine ⟨h.pm.trans (Pm.sw f (by omega) (by omega) (by omega) (by omega) ne), fun k l h1 h2 h3 h4 h5 => ?_, fun l h1 h2 => ?_, by omega, by omega, by rw [sw_j]; exact h.own, fun k h1 h2 => ?_⟩
  · by_cases ek : k = j
    · subst ek
      rw [sw_i f ne, sw_o f (by omega) h5]
      exact h.srt _ _ (by omega) (by omega) h3 (by omega) (by omega)
    · by_cases el : l = j
      · subst el
        rw [sw_i f ne, sw_o f ek h4]
        exact h.srt _ _ h1 (by omega) (by omega) ek (by omega)
      · rw [sw_o f ek h4, sw_o f el h5]
        exact h.srt _ _ h1 h2 h3 ek el
  · rw [sw_j]
    by_cases el : l = j
    · subst el
      rw [sw_i f ne]
      exact .inl e
    · rw [sw_o f el (by omega)]
      exact h.aft l (by omega) h2
  · rw [sw_o f (by omega) (by omega)]
    exact h.rest k h1 (by omega)
theorem Ins.done {lt : Nat → Nat → Bool} (s : Swo lt) {a j i : Nat} {f0 f : Nat → Nat} (h : Ins lt a j i f0 f) (e : j = a ∨ (lt (f j) (f (j - 1)) = false ∧ f (j - 1) < f j)) : Srt lt a (i + 1) f := by
  intro k l h1 h2 h3
  by_cases ek : k = j
  · subst ek; exact h.aft l h2 (by omega)
  · by_cases el : l = j
    · subst el
      rcases e with e | ⟨e, e'⟩
      · omega
      · have q : Ah lt (f (l - 1)) (f l) := Ah.of_not e e'
        by_cases c : k = l - 1
        · rw [c]; exact q
        · exact (h.srt k (l - 1) h1 (by omega) (by have := h.hi; omega) ek (by omega)).trans s q
    · exact h.srt k l h1 h2 (by omega) ek el
end Go.Proofs.Ytbjibmfehphffaa.ST
