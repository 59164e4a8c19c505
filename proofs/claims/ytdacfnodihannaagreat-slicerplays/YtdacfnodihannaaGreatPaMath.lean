/-
  Plain mathematics of layer 24: a pace's first error, how much of the span has gone by, a target along the curve, which never falls, is nothing at the beginning and all at the end, and is the even share where all weights are the same; a goal.
-/
import Derived.Test.YtdacfnodihannaaGreatKU
import Derived.Test.YtdacfnodihannaaGreatGrain
namespace Go.Proofs.YtdacfnodihannaaGreat.PA
open Go.ChangeShapes Go.WideShapes Go.ChangeAt Go.RowKit

def inB (n low high : Int) : Bool := decide (low ≤ n ∧ n ≤ high)
theorem inB_yes {n low high : Int} (h1 : low ≤ n) (h2 : n ≤ high) : inB n low high = true := decide_eq_true ⟨h1, h2⟩
theorem inB_no {n low high : Int} (h : n < low ∨ high < n) : inB n low high = false := decide_eq_false (by omega)
theorem inB_iff {n low high : Int} : inB n low high = true ↔ low ≤ n ∧ n ≤ high := by unfold inB; exact decide_eq_true_iff
def timeB (n : Int) : Bool := inB n 0 1099511627776
/-- A pace's first error, but for the curve's. -/
def pacE (qty st en nw : Int) : Int := if timeB qty && (timeB st && (timeB en && timeB nw)) then (if inB (en - st) 1 1073741824 then 0 else 282) else 2
/-- How much of the span has gone by. -/
def gone (st en nw : Int) : Int := min (max (nw - st) 0) (en - st)
/-- All that a pace wants is right. -/
structure Fine (qty st en nw : Int) : Prop where
  q0 : 0 ≤ qty
  q1 : qty ≤ 1099511627776
  s0 : 0 ≤ st
  s1 : st ≤ 1099511627776
  e0 : 0 ≤ en
  e1 : en ≤ 1099511627776
  n0 : 0 ≤ nw
  n1 : nw ≤ 1099511627776
  a0 : 1 ≤ en - st
  a1 : en - st ≤ 1073741824
theorem fine_of {qty st en nw : Int} (h : pacE qty st en nw = 0) : Fine qty st en nw := by
  unfold pacE at h
  split at h
  · rename_i c
    simp only [Bool.and_eq_true, timeB, inB_iff] at c
    split at h
    · rename_i d
      rw [inB_iff] at d
      exact ⟨c.1.1, c.1.2, c.2.1.1, c.2.1.2, c.2.2.1.1, c.2.2.1.2, c.2.2.2.1, c.2.2.2.2, d.1, d.2⟩
    · exact absurd h (by decide)
  · exact absurd h (by decide)
theorem of_fine {qty st en nw : Int} (h : Fine qty st en nw) : pacE qty st en nw = 0 := by
  unfold pacE timeB
  rw [inB_yes h.q0 h.q1, inB_yes h.s0 h.s1, inB_yes h.e0 h.e1, inB_yes h.n0 h.n1, inB_yes h.a0 h.a1]; rfl
/-- Any time that may be has the same error. -/
theorem pacE_same {qty st en nw nw' : Int} (h : timeB nw = timeB nw') : pacE qty st en nw = pacE qty st en nw' := by unfold pacE; rw [h]
theorem gone_bd {qty st en nw : Int} (h : Fine qty st en nw) : 0 ≤ gone st en nw ∧ gone st en nw ≤ en - st := by
  have := h.a0
  unfold gone; omega
theorem gone_asked {qty st en nw : Int} (h : Fine qty st en nw) : Asked (gone st en nw) (en - st) := ⟨⟨h.a0, h.a1⟩, gone_bd h⟩
theorem gone_mono {st en nw : Int} (_h : 1 ≤ en - st) : gone st en nw ≤ gone st en (nw + 1) := by unfold gone; omega
theorem gone_start {st en nw : Int} (h : 1 ≤ en - st) (hn : nw ≤ st) : gone st en nw = 0 := by unfold gone; omega
theorem gone_end {st en nw : Int} (_h : 1 ≤ en - st) (hn : en ≤ nw) : gone st en nw = en - st := by unfold gone; omega
theorem gone_in {st en nw : Int} (h1 : st < nw) (h2 : nw < en) : gone st en nw = nw - st := by unfold gone; omega

theorem done_zero (zs : Nat → Int) (span : Int) (h : 1 ≤ span) : doneOf zs 0 span = 0 := by
  rw [doneOf_at zs 0 span 0 0 (Int.le_refl _) (by omega) (by simp)]; simp [sumTo]
theorem done_mono {zs : Nat → Int} {n : Nat} (hc : Curve zs n) {L L' span : Int} (hs : 1 ≤ span) (h0 : 0 ≤ L) (h : L ≤ L') : doneOf zs L span ≤ doneOf zs L' span := by
  have m0 := Int.emod_nonneg L (by omega : span ≠ 0)
  have m1 := Int.emod_lt_of_pos L (by omega : 0 < span)
  have m0' := Int.emod_nonneg L' (by omega : span ≠ 0)
  have hq := Int.ediv_le_ediv (by omega : 0 < span) h
  have q0 := Int.ediv_nonneg h0 (by omega : 0 ≤ span)
  have d := Int.mul_ediv_add_emod L span
  have d' := Int.mul_ediv_add_emod L' span
  unfold doneOf
  by_cases e : L / span = L' / span
  · rw [← e] at d' ⊢
    have : zs (L / span).toNat * (L % span) ≤ zs (L / span).toNat * (L' % span) := Int.mul_le_mul_of_nonneg_left (by omega) (hc.each _).1
    omega
  · have hk := hc.each (L / span).toNat
    have hk' := hc.each (L' / span).toNat
    have a3 : zs (L / span).toNat * (L % span) ≤ zs (L / span).toNat * span := Int.mul_le_mul_of_nonneg_left (by omega) hk.1
    have a4 : sumTo zs ((L / span).toNat + 1) * span ≤ sumTo zs (L' / span).toNat * span := Int.mul_le_mul_of_nonneg_right (sumTo_mono zs (fun i => (hc.each i).1) _ _ (by omega)) (by omega)
    have a5 : sumTo zs ((L / span).toNat + 1) * span = sumTo zs (L / span).toNat * span + zs (L / span).toNat * span := by simp only [sumTo]; rw [Int.add_mul]
    have a6 : 0 ≤ zs (L' / span).toNat * (L' % span) := Int.mul_nonneg hk'.1 m0'
    omega
theorem target_zero {zs : Nat → Int} {n : Nat} {qty span : Int} (hs : 1 ≤ span) : targetOf zs n qty 0 span = 0 := by
  unfold targetOf; rw [Int.zero_mul, done_zero zs span hs]; simp
theorem target_all {zs : Nat → Int} {n : Nat} (hc : Curve zs n) {qty span : Int} (hs : 1 ≤ span) : targetOf zs n qty span span = qty := by
  unfold targetOf
  rw [doneOf_at zs (span * (n : Int)) span n 0 (Int.le_refl _) (by omega) (by omega)]
  have : 0 < sumTo zs n * span := Int.mul_pos hc.some (by omega)
  rw [Int.mul_zero, Int.add_zero, Int.mul_ediv_cancel _ (by omega)]
theorem target_bd {zs : Nat → Int} {n : Nat} (hc : Curve zs n) {qty t span : Int} (q0 : 0 ≤ qty) (ha : Asked t span) : 0 ≤ targetOf zs n qty t span ∧ targetOf zs n qty t span ≤ qty := by
  have hd := doneOf_bd hc (pieces ha hc.len).1 ha.1.1
  exact share_bd q0 hd.1 hd.2 (Int.mul_pos hc.some (by have := ha.1.1; omega))
theorem target_mono {zs : Nat → Int} {n : Nat} (hc : Curve zs n) {qty t t' span : Int} (q0 : 0 ≤ qty) (hs : 1 ≤ span) (t0 : 0 ≤ t) (h : t ≤ t') : targetOf zs n qty t span ≤ targetOf zs n qty t' span := by
  have hp : 0 < sumTo zs n * span := Int.mul_pos hc.some (by omega)
  refine Int.ediv_le_ediv hp (Int.mul_le_mul_of_nonneg_left (done_mono hc hs (Int.mul_nonneg t0 (by omega)) (Int.mul_le_mul_of_nonneg_right h (by omega))) q0)

/-- n weights that are all the same. -/
def flat (n : Nat) (c : Int) (i : Nat) : Int := if i < n then c else 0
theorem flat_sum (n : Nat) (c : Int) : ∀ k, k ≤ n → sumTo (flat n c) k = c * (k : Int)
  | 0, _ => by simp [sumTo]
  | k + 1, h => by
    simp only [sumTo]
    rw [flat_sum n c k (by omega), show flat n c k = c from if_pos (by omega)]
    rw [show ((k + 1 : Nat) : Int) = (k : Int) + 1 by omega, Int.mul_add]; omega
theorem flat_curve (n : Nat) (c : Int) (h1 : 1 ≤ n) (h2 : n ≤ 64) (c1 : 1 ≤ c) (c2 : c ≤ 1048576) : Curve (flat n c) n where
  len := h2
  each := fun i => by unfold flat; split <;> omega
  beyond := fun i hi => if_neg (by omega)
  some := by rw [flat_sum n c n (Nat.le_refl _)]; exact Int.mul_pos (by omega) (by omega)
theorem flat_done (n : Nat) (c L span : Int) (s1 : 1 ≤ span) (h0 : 0 ≤ L) (h1 : L ≤ span * (n : Int)) : doneOf (flat n c) L span = c * L := by
  have m0 := Int.emod_nonneg L (by omega : span ≠ 0)
  have m1 := Int.emod_lt_of_pos L (by omega : 0 < span)
  have q0 := Int.ediv_nonneg h0 (by omega : 0 ≤ span)
  have d := Int.mul_ediv_add_emod L span
  unfold doneOf
  generalize L % span = l at *
  obtain ⟨k, hk⟩ : ∃ k : Nat, L / span = (k : Int) := ⟨(L / span).toNat, (Int.toNat_of_nonneg q0).symm⟩
  rw [hk] at d ⊢
  rw [Int.toNat_natCast]
  have hkn : k ≤ n := by
    apply Nat.le_of_not_lt
    intro hlt
    have : span * ((n : Int) + 1) ≤ span * (k : Int) := Int.mul_le_mul_of_nonneg_left (by omega) (by omega)
    rw [Int.mul_add] at this
    omega
  rw [flat_sum n c k hkn, ← d, Int.mul_add]
  have e1 : c * (k : Int) * span = c * (span * (k : Int)) := by rw [Int.mul_assoc, Int.mul_comm (k : Int) span]
  rw [e1]
  by_cases e : k = n
  · subst e
    have : l = 0 := by omega
    subst this
    simp
  · rw [show flat n c k = c from if_pos (by omega)]
/-- Along weights that are all the same a target is the even share. -/
theorem flat_target (n : Nat) (c : Int) (h1 : 1 ≤ n) (c1 : 1 ≤ c) {qty t span : Int} (ha : Asked t span) : targetOf (flat n c) n qty t span = qty * t / span := by
  have p := Int.mul_nonneg ha.2.1 (by omega : (0 : Int) ≤ (n : Int))
  have p2 : t * (n : Int) ≤ span * (n : Int) := Int.mul_le_mul_of_nonneg_right ha.2.2 (by omega)
  unfold targetOf
  rw [flat_done n c _ span ha.1.1 p p2, flat_sum n c n (Nat.le_refl _)]
  have e1 : qty * (c * (t * (n : Int))) = c * (n : Int) * (qty * t) := by
    rw [Int.mul_comm t, ← Int.mul_assoc c, ← Int.mul_assoc qty, Int.mul_comm qty, Int.mul_assoc]
  rw [e1, Int.mul_ediv_mul_of_pos _ _ (Int.mul_pos (by omega) (by omega))]

/-- A goal's error. -/
def goE (target lot qty : Int) : Int := if timeB qty && (inB target 0 qty && decide (1 ≤ lot)) then 0 else 2
/-- A goal. -/
def goN (target lot qty : Int) : Int := if timeB qty && (inB target 0 qty && decide (1 ≤ lot)) then min (ceV target lot) qty else 0
theorem ce_facts (n s : Int) (hs : 1 ≤ s) (_hn : 0 ≤ n) : n ≤ ceV n s ∧ ceV n s - n < s ∧ ceV n s % s = 0 ∧ (n % s = 0 → ceV n s = n) ∧ (n % s ≠ 0 → ceV n s = n - n % s + s) := by
  have m0 := Int.emod_nonneg n (by omega : s ≠ 0)
  have m1 := Int.emod_lt_of_pos n (by omega : 0 < s)
  unfold ceV
  by_cases h : n % s = 0
  · rw [h, Int.sub_zero, Int.emod_self, Int.add_zero]
    exact ⟨Int.le_refl _, by omega, h, fun _ => rfl, fun k => absurd rfl k⟩
  · rw [Int.emod_eq_of_lt (by omega : 0 ≤ s - n % s) (by omega)]
    refine ⟨by omega, by omega, ?_, fun k => absurd k h, fun _ => by omega⟩
    have d := Int.mul_ediv_add_emod n s
    have : n + (s - n % s) = s * (n / s + 1) := by rw [Int.mul_add]; omega
    rw [this, Int.mul_emod_right]
end Go.Proofs.YtdacfnodihannaaGreat.PA
