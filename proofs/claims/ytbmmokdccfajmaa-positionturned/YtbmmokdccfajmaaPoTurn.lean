/-
  Plain mathematics, no program: fills of small quantities and prices add up, whatever their order; one that is taken back leaves what was.
-/
import Derived.Test.YtbmmokdccfajmaaPoMath
import Derived.Test.YtbmmokdccfajmaaFrame18
namespace Go.Proofs.Ytbmmokdccfajmaa.PO
open Go.ChangeShapes Go.WideShapes Go.ChangeAt Go.RowKit Go.Lib

/-- Is it an execution of two accounts and two symbols? -/
def ok2 (x : Ex) : Bool := okB (newP 2 2) x.a x.s x.d x.q x.p
theorem ok2_of {b : Pk} (h1 : b.nA = 2) (h2 : b.nS = 2) (x : Ex) : okB b x.a x.s x.d x.q x.p = ok2 x := by
  unfold ok2 okB hasB
  rw [h1, h2]
  rfl
/-- What it adds to a cell of an account. -/
def amt (x : Ex) (a j : Nat) : Int := if ok2 x = true ∧ a = x.a.toNat then (if j = pl x.s x.d + 1 then x.q * x.p else if j = pl x.s x.d then x.q else 0) else 0
def Small (x : Ex) : Prop := x.q ≤ 1048576 ∧ x.p ≤ 1048576
theorem mul_small {q p : Int} (_hq : 1 ≤ q) (hp : 1 ≤ p) (h1 : q ≤ 1048576) (h2 : p ≤ 1048576) : q * p ≤ 1099511627776 := by
  have h3 := Int.mul_le_mul h1 h2 (by omega) (by omega)
  omega
theorem amt_bounds {x : Ex} (h : Small x) (a j : Nat) : 0 ≤ amt x a j ∧ amt x a j ≤ 1099511627776 := by
  unfold amt
  split
  · rename_i e
    have o := (ok_iff _ _ _ _ _ _).1 e.1
    have m := mul_pos_le o.2.2.1.1 o.2.2.2.1
    have m2 := mul_small o.2.2.1.1 o.2.2.2.1 h.1 h.2
    have h1 := h.1
    split
    · omega
    · split <;> omega
  · omega
/-- Two accounts and two symbols, no sum of which is near the end. -/
structure Two (b : Pk) : Prop where
  good : Good b
  nA : b.nA = 2
  nS : b.nS = 2
  lo : ∀ a j, a < 2 → j < 8 → b.V a j ≤ 4611686018427387904
/-- A small fill adds what it adds. -/
theorem fill_small {b : Pk} (h : Two b) {x : Ex} (hx : Small x) :
    chE b false x.a x.s x.d x.q x.p = (if ok2 x = true then 0 else 2) ∧ (chB b false x.a x.s x.d x.q x.p).nA = 2 ∧ (chB b false x.a x.s x.d x.q x.p).nS = 2 ∧ Good (chB b false x.a x.s x.d x.q x.p) ∧ ∀ a j, a < 2 → j < 8 → (chB b false x.a x.s x.d x.q x.p).V a j = b.V a j + amt x a j := by
  have sz := ch_sizes b false x.a x.s x.d x.q x.p
  refine ⟨?_, sz.1.trans h.nA, sz.2.trans h.nS, ch_good h.good _ _ _ _ _ _, fun a j ha hj => ?_⟩
  · unfold chE
    rw [ok2_of h.nA h.nS]
    by_cases e : ok2 x = true
    · rw [if_pos e, if_pos e]
      have o := (ok_iff _ _ _ _ _ _).1 e
      have m := mul_pos_le o.2.2.1.1 o.2.2.2.1
      have m2 := mul_small o.2.2.1.1 o.2.2.2.1 hx.1 hx.2
      have hh : hasB b x.a x.s = true := by
        have := e
        rw [← ok2_of h.nA h.nS] at this
        exact (has_iff _ _ _).2 ((ok_iff _ _ _ _ _ _).1 this).1
      have hp := pl_lt hh o.2.1
      rw [h.nA, h.nS] at hp
      have l1 : vQ b x.a x.s x.d ≤ 4611686018427387904 := h.lo _ _ hp.1 (by omega)
      have l2 : vW b x.a x.s x.d ≤ 4611686018427387904 := h.lo _ _ hp.1 (by omega)
      have h1 := hx.1
      rw [if_neg (by omega), if_neg]
      simp [badB]
      omega
    · rw [if_neg e, if_neg e]
  · by_cases e : chE b false x.a x.s x.d x.q x.p = 0
    · have hc := chE_ok e
      have e2 : ok2 x = true := by rw [← ok2_of h.nA h.nS]; exact hc.1
      unfold chB
      rw [if_pos e, setP_at]
      unfold amt
      by_cases e3 : a = x.a.toNat
      · rw [if_pos e3, if_pos (show ok2 x = true ∧ a = x.a.toNat from ⟨e2, e3⟩)]
        by_cases e4 : j = pl x.s x.d + 1
        · rw [if_pos e4, if_pos e4, e3, e4]; rfl
        · rw [if_neg e4, if_neg e4]
          by_cases e5 : j = pl x.s x.d
          · rw [if_pos e5, if_pos e5, e3, e5]; rfl
          · rw [if_neg e5, if_neg e5, e3]; omega
      · rw [if_neg e3, if_neg (fun h => e3 h.2)]; omega
    · have e2 : ¬ ok2 x = true := fun e2 => by
        apply e
        unfold chE
        rw [ok2_of h.nA h.nS, if_pos e2]
        have o := (ok_iff _ _ _ _ _ _).1 e2
        have m := mul_pos_le o.2.2.1.1 o.2.2.2.1
        have m2 := mul_small o.2.2.1.1 o.2.2.2.1 hx.1 hx.2
        have hh : hasB b x.a x.s = true := by
          have := e2
          rw [← ok2_of h.nA h.nS] at this
          exact (has_iff _ _ _).2 ((ok_iff _ _ _ _ _ _).1 this).1
        have hp := pl_lt hh o.2.1
        rw [h.nA, h.nS] at hp
        have l1 : vQ b x.a x.s x.d ≤ 4611686018427387904 := h.lo _ _ hp.1 (by omega)
        have l2 : vW b x.a x.s x.d ≤ 4611686018427387904 := h.lo _ _ hp.1 (by omega)
        have h1 := hx.1
        rw [if_neg (by omega), if_neg]
        simp [badB]
        omega
      unfold chB amt
      rw [if_neg e, if_neg (fun h => e2 h.1)]
      omega
/-- And taken back leaves what was. -/
theorem bust_small {b : Pk} (h : Two b) {x : Ex} (hx : Small x) (hk : ok2 x = true) :
    chE (chB b false x.a x.s x.d x.q x.p) true x.a x.s x.d x.q x.p = 0 ∧ ∀ a j, a < 2 → j < 8 → (chB (chB b false x.a x.s x.d x.q x.p) true x.a x.s x.d x.q x.p).V a j = b.V a j := by
  obtain ⟨_, n1, n2, g, v⟩ := fill_small h hx
  have o := (ok_iff _ _ _ _ _ _).1 hk
  have m := mul_pos_le o.2.2.1.1 o.2.2.2.1
  have m2 := mul_small o.2.2.1.1 o.2.2.2.1 hx.1 hx.2
  have hh : hasB b x.a x.s = true := by
    have := hk
    rw [← ok2_of h.nA h.nS] at this
    exact (has_iff _ _ _).2 ((ok_iff _ _ _ _ _ _).1 this).1
  have hp := pl_lt hh o.2.1
  rw [h.nA, h.nS] at hp
  generalize chB b false x.a x.s x.d x.q x.p = c at *
  have q1 : vQ c x.a x.s x.d = b.V x.a.toNat (pl x.s x.d) + x.q := by
    unfold vQ
    rw [v _ _ hp.1 (by omega)]
    unfold amt
    rw [if_pos ⟨hk, rfl⟩, if_neg (by omega), if_pos rfl]
  have q2 : vW c x.a x.s x.d = b.V x.a.toNat (pl x.s x.d + 1) + x.q * x.p := by
    unfold vW
    rw [v _ _ hp.1 (by omega)]
    unfold amt
    rw [if_pos ⟨hk, rfl⟩, if_pos rfl]
  have g1 := h.good.lo x.a.toNat (pl x.s x.d) (by rw [h.nA]; omega) (by rw [h.nS]; omega)
  have g2 := h.good.lo x.a.toNat (pl x.s x.d + 1) (by rw [h.nA]; omega) (by rw [h.nS]; omega)
  have e : chE c true x.a x.s x.d x.q x.p = 0 := by
    unfold chE
    rw [ok2_of n1 n2, if_pos hk, if_neg (by omega), if_neg]
    rw [q1, q2]
    simp [badB]
    omega
  refine ⟨e, fun a j ha hj => ?_⟩
  unfold chB
  rw [if_pos e, setP_at, q1, q2]
  by_cases e3 : a = x.a.toNat
  · rw [if_pos e3]
    by_cases e4 : j = pl x.s x.d + 1
    · rw [if_pos e4, e3, e4]; show _ - _ = _; omega
    · rw [if_neg e4]
      by_cases e5 : j = pl x.s x.d
      · rw [if_pos e5, e3, e5]; show _ - _ = _; omega
      · rw [if_neg e5, v _ _ hp.1 hj, e3]
        unfold amt
        rw [if_pos ⟨hk, rfl⟩, if_neg e4, if_neg e5]
        omega
  · rw [if_neg e3, v _ _ ha hj]
    unfold amt
    rw [if_neg (fun h => e3 h.2)]
    omega
/-- Positions that are the sums of the first k fills. -/
structure St (b : Pk) (f : Nat → Ex) (k : Nat) : Prop where
  good : Good b
  nA : b.nA = 2
  nS : b.nS = 2
  sm : ∀ i, i < k → Small (f i)
  v : ∀ a j, a < 2 → j < 8 → b.V a j = sumTo (fun i => amt (f i) a j) k
theorem sum_le {g : Nat → Int} {m : Int} : ∀ {k : Nat}, (∀ i, i < k → g i ≤ m) → sumTo g k ≤ (k : Int) * m
  | 0, _ => by show (0 : Int) ≤ ((0 : Nat) : Int) * m; simp
  | k + 1, h => by
    have h1 := sum_le (k := k) (fun i hi => h i (by omega))
    have h2 := h k (by omega)
    show sumTo g k + g k ≤ ((k + 1 : Nat) : Int) * m
    rw [show ((k + 1 : Nat) : Int) = (k : Int) + 1 by omega, Int.add_mul, Int.one_mul]
    omega
theorem St.two {b : Pk} {f : Nat → Ex} {k : Nat} (h : St b f k) (hk : k ≤ 60) : Two b := by
  refine ⟨h.good, h.nA, h.nS, fun a j ha hj => ?_⟩
  rw [h.v a j ha hj]
  have h1 := sum_le (g := fun i => amt (f i) a j) (m := 1099511627776) (k := k) (fun i hi => (amt_bounds (h.sm i hi) a j).2)
  omega
theorem St.start (f : Nat → Ex) : St (newP 2 2) f 0 := ⟨new_good (by omega) (by omega) (by omega) (by omega), rfl, rfl, fun _ h => absurd h (by omega), fun _ _ _ _ => rfl⟩
theorem St.next {b : Pk} {f : Nat → Ex} {k : Nat} (h : St b f k) (hk : k ≤ 60) {x : Ex} (ex : f k = x) (hx : Small x) : St (chB b false x.a x.s x.d x.q x.p) f (k + 1) := by
  obtain ⟨_, n1, n2, g, v⟩ := fill_small (h.two hk) hx
  refine ⟨g, n1, n2, fun i hi => ?_, fun a j ha hj => ?_⟩
  · by_cases e : i = k
    · subst e; rw [ex]; exact hx
    · exact h.sm i (by omega)
  · rw [v a j ha hj, h.v a j ha hj, ← ex]; rfl
theorem sum_first (g : Nat → Int) : ∀ k, sumTo g (k + 1) = g 0 + sumTo (fun i => g (i + 1)) k
  | 0 => by show (0 : Int) + g 0 = g 0 + 0; omega
  | k + 1 => by
    have h := sum_first g k
    show sumTo g (k + 1) + g (k + 1) = g 0 + (sumTo (fun i => g (i + 1)) k + g (k + 1))
    omega
/-- A sum from behind is the same. -/
theorem sum_rev (g : Nat → Int) : ∀ n, sumTo (fun i => g (n - 1 - i)) n = sumTo g n
  | 0 => rfl
  | n + 1 => by
    rw [sum_first]
    have h := sum_rev g n
    rw [sumTo_same (g := fun i => g (n - 1 - i)) n (fun i hi => by show g (n + 1 - 1 - (i + 1)) = g (n - 1 - i); congr 1; omega), h]
    show g (n + 1 - 1 - 0) + sumTo g n = sumTo g n + g n
    rw [show n + 1 - 1 - 0 = n by omega]
    omega
theorem St.turned {b c : Pk} {X : Nat → Ex} {n : Nat} (h : St b X n) (k : St c (fun i => X (n - 1 - i)) n) : ∀ a j, a < 2 → j < 8 → b.V a j = c.V a j := fun a j ha hj => by
  rw [h.v a j ha hj, k.v a j ha hj, sum_rev (fun i => amt (X i) a j) n]
theorem to_same {b c : Pk} (b1 : b.nA = 2) (b2 : b.nS = 2) (c1 : c.nA = 2) (c2 : c.nS = 2) (h : ∀ a j, a < 2 → j < 8 → b.V a j = c.V a j) (a s d : Int) (hd : d = 1 ∨ d = 2) : toQ c a s d = toQ b a s d ∧ toW c a s d = toW b a s d := by
  have e : hasB c a s = hasB b a s := by unfold hasB; rw [b1, b2, c1, c2]
  unfold toQ toW
  rw [e]
  by_cases hh : hasB b a s = true
  · rw [if_pos hh, if_pos hh, if_pos hh, if_pos hh]
    have hp := pl_lt hh hd
    rw [b1, b2] at hp
    exact ⟨(h _ _ hp.1 (by omega)).symm, (h _ _ hp.1 (by omega)).symm⟩
  · rw [if_neg hh, if_neg hh, if_neg hh, if_neg hh]
    exact ⟨rfl, rfl⟩
end Go.Proofs.Ytbmmokdccfajmaa.PO
