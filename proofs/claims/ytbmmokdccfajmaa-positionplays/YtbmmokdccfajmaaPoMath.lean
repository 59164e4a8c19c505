/-
  Plain mathematics, no program: positions (of each account and symbol four numbers: what was bought, its worth, what was sold, its worth), and what an execution, or one that is taken back, makes of them.
-/
import Derived.Test.YtbmmokdccfajmaaOwnRows
namespace Go.Proofs.Ytbmmokdccfajmaa.PO
open Go.ChangeShapes Go.WideShapes Go.ChangeAt Go.RowKit Go.Lib

/-- How many accounts and symbols; of account a the cells of its row: of symbol s the cells 4s to 4s + 3. -/
structure Pk where
  nA : Nat
  nS : Nat
  V : Nat → Nat → Int
def hasB (b : Pk) (a s : Int) : Bool := decide (0 ≤ a) && decide (a < (b.nA : Int)) && decide (0 ≤ s) && decide (s < (b.nS : Int))
def isB (d : Int) : Bool := d == 1 || d == 2
def upB (n m : Int) : Bool := decide (1 ≤ n) && decide (n ≤ m)
/-- Is there such an account and symbol, a side, a quantity, a price? -/
def okB (b : Pk) (a s d q p : Int) : Bool := hasB b a s && isB d && upB q 1099511627776 && upB p 1099511627776
/-- Where a side of a symbol lies in its account's row. -/
def pl (s d : Int) : Nat := s.toNat * 4 + (d - 1).toNat * 2
def vQ (b : Pk) (a s d : Int) : Int := b.V a.toNat (pl s d)
def vW (b : Pk) (a s d : Int) : Int := b.V a.toNat (pl s d + 1)
/-- What is told of a side. -/
def toQ (b : Pk) (a s d : Int) : Int := if hasB b a s = true then vQ b a s d else 0
def toW (b : Pk) (a s d : Int) : Int := if hasB b a s = true then vW b a s d else 0
/-- Has a side's sum of quantities x and of worths y no room for q and v more (k: is there less than q or v)? -/
def badB (k : Bool) (x y q v : Int) : Bool := if k then decide (x < q) || decide (y < v) else decide (9223372036854775807 < x + q) || decide (9223372036854775807 < y + v)
def nxt (k : Bool) (x q : Int) : Int := if k then x - q else x + q
/-- A call's answer. -/
def chE (b : Pk) (k : Bool) (a s d q p : Int) : Int :=
  if okB b a s d q p = true then (if 9223372036854775807 < q * p then 10 else if badB k (vQ b a s d) (vW b a s d) q (q * p) = true then 10 else 0) else 2
/-- Another sum of quantities and of worths of a side. -/
def setP (b : Pk) (a j : Nat) (x y : Int) : Pk := { b with V := upd b.V a (upd (upd (b.V a) j x) (j + 1) y) }
/-- The positions behind it. -/
def chB (b : Pk) (k : Bool) (a s d q p : Int) : Pk :=
  if chE b k a s d q p = 0 then setP b a.toNat (pl s d) (nxt k (vQ b a s d) q) (nxt k (vW b a s d) (q * p)) else b
structure Good (b : Pk) : Prop where
  a1 : 1 ≤ b.nA
  a2 : b.nA ≤ 16
  s1 : 1 ≤ b.nS
  s2 : b.nS ≤ 16
  lo : ∀ a j, a < b.nA → j < b.nS * 4 → 0 ≤ b.V a j
  hi : ∀ a j, a < b.nA → j < b.nS * 4 → b.V a j ≤ 9223372036854775807
def newP (n m : Nat) : Pk := ⟨n, m, fun _ _ => 0⟩
theorem new_good {n m : Nat} (a1 : 1 ≤ n) (a2 : n ≤ 16) (s1 : 1 ≤ m) (s2 : m ≤ 16) : Good (newP n m) := ⟨a1, a2, s1, s2, fun _ _ _ _ => Int.le_refl _, fun _ _ _ _ => by show (0 : Int) ≤ 9223372036854775807; omega⟩
theorem has_iff (b : Pk) (a s : Int) : hasB b a s = true ↔ 0 ≤ a ∧ a < (b.nA : Int) ∧ 0 ≤ s ∧ s < (b.nS : Int) := by
  simp [hasB, and_assoc]
theorem is_iff (d : Int) : isB d = true ↔ d = 1 ∨ d = 2 := by simp [isB]
theorem up_iff (n m : Int) : upB n m = true ↔ 1 ≤ n ∧ n ≤ m := by simp [upB]
theorem ok_iff (b : Pk) (a s d q p : Int) : okB b a s d q p = true ↔ (0 ≤ a ∧ a < (b.nA : Int) ∧ 0 ≤ s ∧ s < (b.nS : Int)) ∧ (d = 1 ∨ d = 2) ∧ (1 ≤ q ∧ q ≤ 1099511627776) ∧ 1 ≤ p ∧ p ≤ 1099511627776 := by
  unfold okB
  rw [Bool.and_eq_true, Bool.and_eq_true, Bool.and_eq_true, has_iff, is_iff, up_iff, up_iff, and_assoc, and_assoc]
theorem pl_lt {b : Pk} {a s d : Int} (h : hasB b a s = true) (hd : d = 1 ∨ d = 2) : a.toNat < b.nA ∧ pl s d + 1 < b.nS * 4 := by
  have h := (has_iff b a s).1 h
  unfold pl
  omega
theorem mul_pos_le {q p : Int} (hq : 1 ≤ q) (hp : 1 ≤ p) : q ≤ q * p ∧ p ≤ q * p := by
  have h1 := Int.mul_le_mul_of_nonneg_left hp (show (0 : Int) ≤ q by omega)
  have h2 := Int.mul_le_mul_of_nonneg_right hq (show (0 : Int) ≤ p by omega)
  rw [Int.mul_one] at h1
  rw [Int.one_mul] at h2
  exact ⟨h1, h2⟩
theorem setP_at (b : Pk) (a j : Nat) (x y : Int) (c i : Nat) : (setP b a j x y).V c i = if c = a then (if i = j + 1 then y else if i = j then x else b.V a i) else b.V c i := by
  show upd b.V a (upd (upd (b.V a) j x) (j + 1) y) c i = _
  by_cases e : c = a
  · subst e
    rw [upd_same, if_pos rfl]
    by_cases e1 : i = j + 1
    · subst e1; rw [upd_same, if_pos rfl]
    · rw [upd_other _ _ e1, if_neg e1]
      by_cases e2 : i = j
      · subst e2; rw [upd_same, if_pos rfl]
      · rw [upd_other _ _ e2, if_neg e2]
  · rw [upd_other _ _ e, if_neg e]
/-- What both sums are behind a call that is not refused. -/
theorem nxt_bounds {k : Bool} {x y q v : Int} (hx : 0 ≤ x ∧ x ≤ 9223372036854775807) (hy : 0 ≤ y ∧ y ≤ 9223372036854775807) (hq : 0 ≤ q) (hv : 0 ≤ v) (h : badB k x y q v = false) :
    (0 ≤ nxt k x q ∧ nxt k x q ≤ 9223372036854775807) ∧ 0 ≤ nxt k y v ∧ nxt k y v ≤ 9223372036854775807 := by
  unfold badB at h
  unfold nxt
  cases k <;> simp at h ⊢ <;> omega
theorem Good.val {b : Pk} (h : Good b) {a s d : Int} (ha : hasB b a s = true) (hd : d = 1 ∨ d = 2) : (0 ≤ vQ b a s d ∧ vQ b a s d ≤ 9223372036854775807) ∧ 0 ≤ vW b a s d ∧ vW b a s d ≤ 9223372036854775807 := by
  obtain ⟨h1, h2⟩ := pl_lt ha hd
  exact ⟨⟨h.lo _ _ h1 (by omega), h.hi _ _ h1 (by omega)⟩, h.lo _ _ h1 h2, h.hi _ _ h1 h2⟩
theorem Good.setP {b : Pk} (h : Good b) {a j : Nat} {x y : Int} (hx : 0 ≤ x ∧ x ≤ 9223372036854775807) (hy : 0 ≤ y ∧ y ≤ 9223372036854775807) (ha : a < b.nA) : Good (setP b a j x y) := by
  refine ⟨h.a1, h.a2, h.s1, h.s2, fun c i hc hi => ?_, fun c i hc hi => ?_⟩
  · rw [setP_at]
    have h1 := h.lo c i hc hi
    have h2 := h.lo a i ha hi
    split
    · split
      · exact hy.1
      · split
        · exact hx.1
        · exact h2
    · exact h1
  · rw [setP_at]
    have h1 := h.hi c i hc hi
    have h2 := h.hi a i ha hi
    split
    · split
      · exact hy.2
      · split
        · exact hx.2
        · exact h2
    · exact h1
theorem chE_ok {b : Pk} {k : Bool} {a s d q p : Int} (h : chE b k a s d q p = 0) : okB b a s d q p = true ∧ q * p ≤ 9223372036854775807 ∧ badB k (vQ b a s d) (vW b a s d) q (q * p) = false := by
  unfold chE at h
  split at h
  · rename_i h1
    split at h
    · omega
    · rename_i h2
      split at h
      · omega
      · rename_i h3
        exact ⟨h1, by omega, by simpa using h3⟩
  · omega
theorem ch_good {b : Pk} (h : Good b) (k : Bool) (a s d q p : Int) : Good (chB b k a s d q p) := by
  unfold chB
  split
  · rename_i e
    obtain ⟨h1, h2, h3⟩ := chE_ok e
    have ho := (ok_iff b a s d q p).1 h1
    have hh := (has_iff b a s).2 ho.1
    obtain ⟨v1, v2⟩ := h.val hh ho.2.1
    have m := mul_pos_le ho.2.2.1.1 ho.2.2.2.1
    obtain ⟨n1, n2⟩ := nxt_bounds v1 v2 (by omega) (by omega) h3
    exact h.setP n1 n2 (pl_lt hh ho.2.1).1
  · exact h
theorem ch_sizes (b : Pk) (k : Bool) (a s d q p : Int) : (chB b k a s d q p).nA = b.nA ∧ (chB b k a s d q p).nS = b.nS := by
  unfold chB
  split <;> exact ⟨rfl, rfl⟩
end Go.Proofs.Ytbmmokdccfajmaa.PO
