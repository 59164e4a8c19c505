/-
  Sorting by blocks, each twice as wide as the one before (plain): what a stable sort keeps to on its way.
-/
import Derived.Test.YtbjibmfehphffaaStMerge
namespace Go.Proofs.Ytbjibmfehphffaa.ST

theorem blk {W t k : Nat} (h1 : t * W ≤ k) (h2 : k < t * W + W) : k / W = t := by
  have hW : 0 < W := by omega
  refine Nat.div_eq_of_lt_le h1 ?_
  rw [Nat.add_mul, Nat.one_mul]
  exact h2
theorem blk_bd {W k : Nat} (hW : 0 < W) : k / W * W ≤ k ∧ k < k / W * W + W := by
  have h1 := Nat.div_mul_le_self k W
  have h2 := Nat.mod_lt k hW
  have h3 := Nat.div_add_mod k W
  rw [Nat.mul_comm] at h3
  omega
/-- On the way from blocks of W places to blocks of V: those below c are sorted within blocks of V; the others as before. -/
structure Bq (lt : Nat → Nat → Bool) (W V n c : Nat) (f : Nat → Nat) : Prop where
  pm : Pm 0 n id f
  big : ∀ k, k < n → f k / V = k / V
  low : ∀ k l, k < l → l < c → k / V = l / V → Ah lt (f k) (f l)
  small : ∀ k, c ≤ k → k < n → f k / W = k / W
  rest : ∀ k l, c ≤ k → k < l → l < n → k / W = l / W → Ah lt (f k) (f l)
/-- A stretch [t V, b) of one block of V is sorted. -/
theorem Bq.next {lt : Nat → Nat → Bool} {W V n t b : Nat} {f f' : Nat → Nat} (h : Bq lt W V n (t * V) f) (hb : b ≤ n) (hb1 : t * V ≤ b) (hb2 : b ≤ t * V + V) (p : Pm (t * V) b f f') (s : Srt lt (t * V) b f') : Bq lt W V n b f' := by
  refine ⟨h.pm.trans (p.mono (Nat.zero_le _) hb), fun k hk => ?_, fun k l kl hl e => ?_, fun k h1 h2 => ?_, fun k l h1 h2 h3 e => ?_⟩
  · by_cases c : t * V ≤ k ∧ k < b
    · obtain ⟨j, j1, j2, ej⟩ := p.from c.1 c.2
      rw [ej, h.big j (by omega), blk j1 (by omega), blk c.1 (by omega)]
    · rw [p.out k (by omega)]; exact h.big k hk
  · by_cases ck : t * V ≤ k
    · exact s k l ck kl hl
    · by_cases cl : t * V ≤ l
      · have hV : 0 < V := by omega
        have e1 : l / V = t := blk cl (by omega)
        have := blk_bd (k := k) hV
        rw [e, e1] at this
        omega
      · rw [p.out k (by omega), p.out l (by omega)]
        exact h.low k l kl (by omega) e
  · rw [p.out k (by omega)]; exact h.small k (by omega) h2
  · rw [p.out k (by omega), p.out l (by omega)]; exact h.rest k l (by omega) h2 h3 e
/-- Two blocks beside each other are two runs. -/
theorem Bq.runs {lt : Nat → Nat → Bool} {W n t b : Nat} {f : Nat → Nat} (h : Bq lt W (2 * W) n (t * (2 * W)) f) (hb : b ≤ n) (h1 : t * (2 * W) + W ≤ b) (h2 : b ≤ t * (2 * W) + 2 * W) : Runs lt (t * (2 * W)) (t * (2 * W) + W) b f := by
  have e0 : t * (2 * W) = 2 * t * W := by rw [← Nat.mul_assoc, Nat.mul_comm t 2]
  have e1 : t * (2 * W) + W = (2 * t + 1) * W := by rw [Nat.add_mul, Nat.one_mul, e0]
  have d0 : ∀ k, t * (2 * W) ≤ k → k < t * (2 * W) + W → k / W = 2 * t := fun k k1 k2 => blk (by omega) (by omega)
  have d1 : ∀ k, t * (2 * W) + W ≤ k → k < b → k / W = 2 * t + 1 := fun k k1 k2 => blk (by omega) (by omega)
  refine ⟨fun k l k1 kl l1 => h.rest k l k1 kl (by omega) (by rw [d0 k k1 (by omega), d0 l (by omega) l1]), fun k l k1 kl l1 => h.rest k l (by omega) kl (by omega) (by rw [d1 k k1 (by omega), d1 l (by omega) l1]), fun k l k1 k2 l1 l2 => ?_, by omega, h1⟩
  have a1 := h.small k k1 (by omega)
  have a2 := h.small l (by omega) (by omega)
  rw [d0 k k1 k2] at a1
  rw [d1 l l1 l2] at a2
  rcases Nat.lt_or_ge (f k) (f l) with c | c
  · exact c
  · have := Nat.div_le_div_right (c := W) c
    omega
/-- What is left over behind the last whole block lies in one block as before. -/
theorem Bq.last {lt : Nat → Nat → Bool} {W n t : Nat} {f : Nat → Nat} (h : Bq lt W (2 * W) n (t * (2 * W)) f) (h1 : n ≤ t * (2 * W) + W) (h0 : t * (2 * W) ≤ n) : Bq lt W (2 * W) n n f := by
  have e0 : t * (2 * W) = 2 * t * W := by rw [← Nat.mul_assoc, Nat.mul_comm t 2]
  refine ⟨h.pm, h.big, fun k l kl hl e => ?_, fun k k1 k2 => absurd k1 (by omega), fun k l k1 k2 k3 => absurd k1 (by omega)⟩
  by_cases cl : t * (2 * W) ≤ l
  · by_cases ck : t * (2 * W) ≤ k
    · exact h.rest k l ck kl hl (by rw [blk (t := 2 * t) (by omega) (by omega), blk (k := l) (t := 2 * t) (by omega) (by omega)])
    · have hW : 0 < 2 * W := by omega
      have e1 : l / (2 * W) = t := blk cl (by omega)
      have := blk_bd (k := k) hW
      rw [e, e1] at this
      omega
  · exact h.low k l kl (by omega) e
/-- All blocks are of V places now; on to blocks twice as wide. -/
theorem Bq.wider {lt : Nat → Nat → Bool} {W V n : Nat} {f : Nat → Nat} (h : Bq lt W V n n f) : Bq lt V (2 * V) n (0 * (2 * V)) f := by
  refine ⟨h.pm, fun k hk => ?_, fun k l kl hl _ => absurd hl (by omega), fun k _ hk => h.big k hk, fun k l _ kl hl e => h.low k l kl hl e⟩
  have e := h.big k hk
  rw [Nat.mul_comm, ← Nat.div_div_eq_div_mul, ← Nat.div_div_eq_div_mul, e]
/-- One block holds all: it is sorted. -/
theorem Bq.sorted {lt : Nat → Nat → Bool} {W V n : Nat} {f : Nat → Nat} (h : Bq lt W V n n f) (hn : n ≤ V) : Srt lt 0 n f := fun k l _ kl hl => h.low k l kl hl (by rw [Nat.div_eq_of_lt (by omega), Nat.div_eq_of_lt (by omega)])
/-- The list as it was handed in: blocks of one place each. -/
theorem Bq.start (lt : Nat → Nat → Bool) (V n : Nat) : Bq lt 1 V n (0 * V) id :=
  ⟨Pm.refl _ _ _, fun _ _ => rfl, fun k l kl hl _ => absurd hl (by omega), fun _ _ _ => rfl, fun k l _ kl _ e => by rw [Nat.div_one, Nat.div_one] at e; omega⟩
/-- Where blocks of one place are left they lie as they were handed in. -/
theorem Bq.same {lt : Nat → Nat → Bool} {V n c : Nat} {f : Nat → Nat} (h : Bq lt 1 V n c f) : ∀ k, c ≤ k → k < n → f k = k := fun k h1 h2 => by
  have := h.small k h1 h2
  rwa [Nat.div_one, Nat.div_one] at this
end Go.Proofs.Ytbjibmfehphffaa.ST
