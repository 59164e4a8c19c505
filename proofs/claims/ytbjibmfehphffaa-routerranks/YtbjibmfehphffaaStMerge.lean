/-
  Two sorted runs merged in place, equals kept in their order (plain): what changes two blocks, what one place's insertion from either end makes, and the halves of a merge.
-/
import Derived.Test.YtbjibmfehphffaaStMath
namespace Go.Proofs.Ytbjibmfehphffaa.ST

/-- The blocks [s, m) and [m, e) change. -/
def rot (s m e : Nat) (f : Nat → Nat) (k : Nat) : Nat := if s ≤ k ∧ k < s + (e - m) then f (k - s + m) else if s + (e - m) ≤ k ∧ k < e then f (k - (e - m)) else f k
/-- The n places from a on change with those from b on. -/
def swr (f : Nat → Nat) (a b n : Nat) (k : Nat) : Nat := if a ≤ k ∧ k < a + n then f (k - a + b) else if b ≤ k ∧ k < b + n then f (k - b + a) else f k
theorem swr_zero (f : Nat → Nat) (a b : Nat) : swr f a b 0 = f := by
  funext k
  unfold swr
  rw [if_neg (by omega), if_neg (by omega)]
theorem swr_next (f : Nat → Nat) {a b n : Nat} (h : a + n < b) : swr f a b (n + 1) = sw (swr f a b n) (a + n) (b + n) := by
  funext k
  by_cases e1 : k = a + n
  · subst e1
    rw [sw_i _ (by omega)]
    unfold swr
    rw [if_pos (by omega), if_neg (by omega), if_neg (by omega)]
    congr 1
    omega
  · by_cases e2 : k = b + n
    · subst e2
      rw [sw_j]
      unfold swr
      rw [if_neg (by omega), if_pos (by omega), if_neg (by omega), if_neg (by omega)]
      congr 1
      omega
    · rw [sw_o _ e1 e2]
      unfold swr
      by_cases c1 : a ≤ k ∧ k < a + n
      · rw [if_pos c1, if_pos (by omega)]
      · by_cases c2 : b ≤ k ∧ k < b + n
        · rw [if_neg c1, if_neg (by omega), if_pos c2, if_pos (by omega)]
        · rw [if_neg c1, if_neg (by omega), if_neg c2, if_neg (by omega)]
/-- What is still to be done when two blocks change: of i places ahead of m and j behind it. -/
theorem rot_more (f : Nat → Nat) {m i j : Nat} (hi : i ≤ m) (hj : 0 < j) (h : j < i) : rot (m - i) m (m + j) f = rot (m - (i - j)) m (m + j) (swr f (m - i) m j) := by
  funext k
  unfold rot swr
  by_cases c1 : m - i ≤ k ∧ k < m - i + (m + j - m)
  · rw [if_pos c1, if_neg (by omega), if_neg (by omega), if_pos (by omega)]
  · rw [if_neg c1]
    by_cases c2 : m - i + (m + j - m) ≤ k ∧ k < m + j
    · rw [if_pos c2]
      by_cases c3 : m - (i - j) ≤ k ∧ k < m - (i - j) + (m + j - m)
      · rw [if_pos c3, if_neg (by omega), if_pos (by omega)]
        congr 1
        omega
      · rw [if_neg c3, if_pos (by omega), if_neg (by omega), if_neg (by omega)]
    · rw [if_neg c2, if_neg (by omega), if_neg (by omega), if_neg (by omega), if_neg (by omega)]
theorem rot_less (f : Nat → Nat) {m i j : Nat} (hi : i ≤ m) (h0 : 0 < i) (h : i < j) : rot (m - i) m (m + j) f = rot (m - i) m (m + (j - i)) (swr f (m - i) (m + j - i) i) := by
  funext k
  unfold rot swr
  by_cases c1 : m - i ≤ k ∧ k < m - i + (m + j - m)
  · rw [if_pos c1]
    by_cases c2 : k < m - i + (m + (j - i) - m)
    · rw [if_pos (by omega), if_neg (by omega), if_neg (by omega)]
    · by_cases c3 : k < m + (j - i)
      · rw [if_neg (by omega), if_pos (by omega), if_pos (by omega)]
        congr 1
        omega
      · omega
  · rw [if_neg c1]
    by_cases c2 : m - i + (m + j - m) ≤ k ∧ k < m + j
    · rw [if_pos c2, if_neg (by omega), if_neg (by omega), if_neg (by omega), if_pos (by omega)]
      congr 1
      omega
    · rw [if_neg c2, if_neg (by omega), if_neg (by omega), if_neg (by omega), if_neg (by omega)]
theorem rot_same (f : Nat → Nat) {m i : Nat} (hi : i ≤ m) : rot (m - i) m (m + i) f = swr f (m - i) m i := by
  funext k
  unfold rot swr
  by_cases c1 : m - i ≤ k ∧ k < m - i + i
  · rw [if_pos (by omega), if_pos c1]
  · by_cases c2 : m ≤ k ∧ k < m + i
    · rw [if_neg (by omega), if_pos (by omega), if_neg c1, if_pos c2]
      congr 1
      omega
    · rw [if_neg (by omega), if_neg (by omega), if_neg c1, if_neg c2]
theorem rot_none (f : Nat → Nat) {s m e : Nat} (h : s = m ∨ m = e) (hs : s ≤ m) (he : m ≤ e) : rot s m e f = f := by
  funext k
  unfold rot
  by_cases c1 : s ≤ k ∧ k < s + (e - m)
  · rw [if_pos c1]; congr 1; omega
  · rw [if_neg c1]
    by_cases c2 : s + (e - m) ≤ k ∧ k < e
    · rw [if_pos c2]; congr 1; omega
    · rw [if_neg c2]
theorem rot_pm (f : Nat → Nat) {s m e : Nat} (hs : s ≤ m) (he : m ≤ e) : Pm s e f (rot s m e f) := by
  refine ⟨fun k hk => ?_, fun k => if k < s + (e - m) then k - s + m else k - (e - m), fun k => if k < m then k + (e - m) else k - m + s, fun k k1 k2 => ?_, fun k k1 k2 => ?_⟩
  · unfold rot; rw [if_neg (by omega), if_neg (by omega)]
  · dsimp only
    by_cases c : k < s + (e - m)
    · rw [if_pos c]
      refine ⟨by omega, by omega, ?_, by unfold rot; rw [if_pos (by omega)]⟩
      rw [if_neg (by omega)]
      omega
    · rw [if_neg c]
      refine ⟨by omega, by omega, ?_, by unfold rot; rw [if_neg (by omega), if_pos (by omega)]⟩
      rw [if_pos (by omega)]
      omega
  · dsimp only
    by_cases c : k < m
    · rw [if_pos c]
      refine ⟨by omega, by omega, ?_⟩
      rw [if_neg (by omega)]
      omega
    · rw [if_neg c]
      refine ⟨by omega, by omega, ?_⟩
      rw [if_pos (by omega)]
      omega

/-- Two runs that are to be merged: [a, m) and [m, b), each sorted; what lies in the first came ahead of what lies in the second. -/
structure Runs (lt : Nat → Nat → Bool) (a m b : Nat) (f : Nat → Nat) : Prop where
  one : Srt lt a m f
  two : Srt lt m b f
  old : ∀ k l, a ≤ k → k < m → m ≤ l → l < b → f k < f l
  am : a ≤ m
  mb : m ≤ b
/-- One test against a sorted run tells of all behind. -/
theorem Srt.above {lt : Nat → Nat → Bool} (s : Swo lt) {a b : Nat} {f : Nat → Nat} (h : Srt lt a b f) {x i k : Nat} (h1 : a ≤ i) (h2 : i ≤ k) (h3 : k < b) (e : lt x (f i) = true) : lt x (f k) = true := by
  by_cases c : i = k
  · rw [← c]; exact e
  · rcases h i k h1 (by omega) h3 with q | ⟨q, _⟩
    · exact s.tr _ _ _ e q
    · cases d : lt x (f k) with
      | true => rfl
      | false =>
        have := s.ntr _ _ _ d q
        rw [e] at this
        exact absurd this (by decide)
/-- And of all ahead. -/
theorem Srt.under {lt : Nat → Nat → Bool} (s : Swo lt) {a b : Nat} {f : Nat → Nat} (h : Srt lt a b f) {x i k : Nat} (h1 : a ≤ k) (h2 : k ≤ i) (h3 : i < b) (e : lt (f i) x = true) : lt (f k) x = true := by
  by_cases c : k = i
  · rw [c]; exact e
  · rcases h k i h1 (by omega) h3 with q | ⟨q, _⟩
    · exact s.tr _ _ _ q e
    · cases d : lt (f k) x with
      | true => rfl
      | false =>
        have := s.ntr _ _ _ q d
        rw [e] at this
        exact absurd this (by decide)
/-- The halves of a merge, behind the change of two blocks: start and end lie as the search left them. -/
theorem Runs.halves {lt : Nat → Nat → Bool} (s : Swo lt) {a m b st en : Nat} {f : Nat → Nat} (h : Runs lt a m b f) (h1 : a ≤ st) (h2 : st ≤ m) (h3 : m ≤ en) (h4 : en ≤ b)
    (hl : a < st → en < b → lt (f en) (f (st - 1)) = false) (hr : st < m → m < en → lt (f (en - 1)) (f st) = true) :
    Runs lt a st (st + (en - m)) (rot st m en f) ∧ Runs lt (st + (en - m)) en b (rot st m en f) ∧ ∀ k l, a ≤ k → k < st + (en - m) → st + (en - m) ≤ l → l < b → Ah lt (rot st m en f k) (rot st m en f l) := by
  have r0 : ∀ k, k < st → rot st m en f k = f k := fun k hk => by unfold rot; rw [if_neg (by omega), if_neg (by omega)]
  have r1 : ∀ k, st ≤ k → k < st + (en - m) → rot st m en f k = f (k - st + m) := fun k k1 k2 => by unfold rot; rw [if_pos ⟨k1, k2⟩]
  have r2 : ∀ k, st + (en - m) ≤ k → k < en → rot st m en f k = f (k - (en - m)) := fun k k1 k2 => by unfold rot; rw [if_neg (by omega), if_pos ⟨k1, k2⟩]
  have r3 : ∀ k, en ≤ k → rot st m en f k = f k := fun k hk => by unfold rot; rw [if_neg (by omega), if_neg (by omega)]
  have LR : ∀ k l, a ≤ k → k < st → en ≤ l → l < b → Ah lt (f k) (f l) := fun k l k1 k2 l1 l2 => by
    refine Ah.of_not ?_ (h.old k l k1 (by omega) (by omega) l2)
    have e := hl (by omega) (by omega)
    cases c : lt (f l) (f k) with
    | false => rfl
    | true =>
      have c1 := h.two.under s (x := f k) (i := l) (k := en) (by omega) l1 l2 c
      have c2 := h.one.above s (x := f en) (i := k) (k := st - 1) k1 (by omega) (by omega) c1
      rw [e] at c2
      exact absurd c2 (by decide)
  have RL : ∀ k l, m ≤ k → k < en → st ≤ l → l < m → Ah lt (f k) (f l) := fun k l k1 k2 l1 l2 => by
    have e := hr (by omega) (by omega)
    have c1 := h.two.under s (x := f st) (i := en - 1) (k := k) k1 (by omega) (by omega) e
    exact .inl (h.one.above s (x := f k) (i := st) (k := l) h1 l1 l2 c1)
  refine ⟨⟨fun k l k1 k2 k3 => ?_, fun k l k1 k2 k3 => ?_, fun k l k1 k2 k3 k4 => ?_, h1, by omega⟩, ⟨fun k l k1 k2 k3 => ?_, fun k l k1 k2 k3 => ?_, fun k l k1 k2 k3 k4 => ?_, by omega, h4⟩, fun k l k1 k2 k3 k4 => ?_⟩
  · rw [r0 k (by omega), r0 l k3]
    exact h.one k l k1 k2 (by omega)
  · rw [r1 k k1 (by omega), r1 l (by omega) k3]
    exact h.two _ _ (by omega) (by omega) (by omega)
  · rw [r0 k k2, r1 l k3 k4]
    exact h.old _ _ k1 (by omega) (by omega) (by omega)
  · rw [r2 k k1 (by omega), r2 l (by omega) k3]
    exact h.one _ _ (by omega) (by omega) (by omega)
  · rw [r3 k k1, r3 l (by omega)]
    exact h.two _ _ (by omega) k2 k3
  · rw [r2 k k1 k2, r3 l k3]
    exact h.old _ _ (by omega) (by omega) (by omega) k4
  · by_cases c1 : k < st
    · rw [r0 k c1]
      by_cases c2 : l < en
      · rw [r2 l k3 c2]
        exact h.one _ _ k1 (by omega) (by omega)
      · rw [r3 l (by omega)]
        exact LR k l k1 c1 (by omega) k4
    · rw [r1 k (by omega) k2]
      by_cases c2 : l < en
      · rw [r2 l k3 c2]
        exact RL _ _ (by omega) (by omega) (by omega) (by omega)
      · rw [r3 l (by omega)]
        exact h.two _ _ (by omega) (by omega) k4
/-- Both halves sorted, the whole is. -/
theorem Srt.join {lt : Nat → Nat → Bool} {a c b : Nat} {g g1 g2 : Nat → Nat} (x : ∀ k l, a ≤ k → k < c → c ≤ l → l < b → Ah lt (g k) (g l)) (p1 : Pm a c g g1) (s1 : Srt lt a c g1) (p2 : Pm c b g1 g2) (s2 : Srt lt c b g2) : Srt lt a b g2 := by
  intro k l h1 h2 h3
  by_cases ck : c ≤ k
  · exact s2 k l ck h2 h3
  · rw [p2.out k (by omega)]
    by_cases cl : c ≤ l
    · obtain ⟨j, j1, j2, ej⟩ := p1.from h1 (show k < c by omega)
      obtain ⟨i, i1, i2, ei⟩ := p2.from cl h3
      rw [ej, ei, p1.out i (by omega)]
      exact x j i j1 j2 i1 i2
    · rw [p2.out l (by omega)]
      exact s1 k l h1 h2 (by omega)
/-- One place, f0 a, on its way back through a sorted run: it stands at j. -/
structure Fwd (lt : Nat → Nat → Bool) (a j b : Nat) (f0 f : Nat → Nat) : Prop where
  pm : Pm a b f0 f
  srt : ∀ k l, a ≤ k → k < l → l < b → k ≠ j → l ≠ j → Ah lt (f k) (f l)
  bef : ∀ k, a ≤ k → k < j → Ah lt (f k) (f j)
  lo : a ≤ j
  hi : j < b
  own : f j = f0 a
  rest : ∀ k, j < k → k < b → f k = f0 k
theorem Fwd.start {lt : Nat → Nat → Bool} {a b : Nat} {f : Nat → Nat} (h : Srt lt (a + 1) b f) (hb : a < b) : Fwd lt a a b f f :=
  ⟨Pm.refl _ _ _, fun k l h1 h2 h3 h4 _ => h k l (by omega) h2 h3, fun _ h1 h2 => absurd h1 (by omega), Nat.le_refl _, hb, rfl, fun _ _ _ => rfl⟩
theorem Fwd.swap {lt : Nat → Nat → Bool} {a j b : Nat} {f0 f : Nat → Nat} (h : Fwd lt a j b f0 f) (hj : j + 1 < b) (e : lt (f (j + 1)) (f j) = true) : Fwd lt a (j + 1) b f0 (sw f j (j + 1)) := by
  have lo := h.lo
  have ne : j ≠ j + 1 := by omega
  refine ⟨h.pm.trans (Pm.sw f lo (by omega) (by omega) hj ne), fun k l h1 h2 h3 h4 h5 => ?_, fun k h1 h2 => ?_, by omega, hj, by rw [sw_j]; exact h.own, fun k h1 h2 => ?_⟩
  · by_cases ek : k = j
    · subst ek
      rw [sw_i f ne, sw_o f (by omega) h5]
      exact h.srt _ _ (by omega) (by omega) h3 (by omega) (by omega)
    · by_cases el : l = j
      · subst el
        rw [sw_i f ne, sw_o f ek h4]
        exact h.srt _ _ h1 (by omega) hj ek (by omega)
      · rw [sw_o f ek h4, sw_o f el h5]
        exact h.srt _ _ h1 h2 h3 ek el
  · rw [sw_j]
    by_cases ek : k = j
    · subst ek
      rw [sw_i f ne]
      exact .inl e
    · rw [sw_o f ek (by omega)]
      exact h.bef k h1 (by omega)
  · rw [sw_o f (by omega) (by omega)]
    exact h.rest k (by omega) h2
theorem Fwd.done {lt : Nat → Nat → Bool} (s : Swo lt) {a j b : Nat} {f0 f : Nat → Nat} (h : Fwd lt a j b f0 f) (e : j + 1 = b ∨ (lt (f (j + 1)) (f j) = false ∧ f j < f (j + 1))) : Srt lt a b f := by
  intro k l h1 h2 h3
  by_cases el : l = j
  · subst el; exact h.bef k h1 h2
  · by_cases ek : k = j
    · subst ek
      rcases e with e | ⟨e, e'⟩
      · omega
      · have q : Ah lt (f k) (f (k + 1)) := Ah.of_not e e'
        by_cases c : l = k + 1
        · rw [c]; exact q
        · exact q.trans s (h.srt (k + 1) l (by omega) (by omega) h3 (by omega) el)
    · exact h.srt k l h1 h2 h3 ek el
end Go.Proofs.Ytbjibmfehphffaa.ST
