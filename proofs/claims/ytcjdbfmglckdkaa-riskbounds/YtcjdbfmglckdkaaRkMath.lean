/-
  Plain mathematics, no program: a book (accounts with a limit and what was realised, slots that hold an amount of an account or nothing), what an account uses, and what each call makes of a book.
-/
import Derived.Test.YtcjdbfmglckdkaaOwnRows
namespace Go.Proofs.Ytcjdbfmglckdkaa.RK
open Go.ChangeShapes Go.WideShapes Go.ChangeAt Go.RowKit Go.Lib

/-- Accounts: how many, each one's limit, what was realised of it; slots: how many, what each holds (an account's number, an amount), if anything. -/
structure Bk where
  nA : Nat
  L : Nat → Int
  D : Nat → Int
  nS : Nat
  S : Nat → Option (Nat × Int)
def slA : Option (Nat × Int) → Int
  | none => 0
  | some x => (x.1 : Int)
def slN : Option (Nat × Int) → Int
  | none => 0
  | some x => x.2
/-- The reference's number of the account: -1, where nothing is held. -/
def slR : Option (Nat × Int) → Int
  | none => -1
  | some x => (x.1 : Int)
/-- What a slot holds of an account. -/
def amt (s : Option (Nat × Int)) (a : Nat) : Int := if slA s = (a : Int) then slN s else 0
theorem amt_none (a : Nat) : amt none a = 0 := by simp [amt, slN]
theorem amt_some (c : Nat) (n : Int) (a : Nat) : amt (some (c, n)) a = if c = a then n else 0 := by
  have e : slA (some (c, n)) = (c : Int) := rfl
  unfold amt
  by_cases h : c = a
  · rw [if_pos h, if_pos (by rw [e, h])]; rfl
  · rw [if_neg h, if_neg (by rw [e]; omega)]
/-- The reference adds the same. -/
theorem amt_ref (s : Option (Nat × Int)) (a : Nat) : amt s a = if slR s = (a : Int) then slN s else 0 := by
  cases s with
  | none => simp [amt_none, slN]
  | some x => rfl
/-- What the first k slots hold of an account. -/
def part (b : Bk) (a k : Nat) : Int := sumTo (fun i => amt (b.S i) a) k
def used (b : Bk) (a : Nat) : Int := b.D a + part b a b.nS
structure Good (b : Bk) : Prop where
  a1 : 1 ≤ b.nA
  a2 : b.nA ≤ 16
  s1 : 1 ≤ b.nS
  s2 : b.nS ≤ 64
  l0 : ∀ a, a < b.nA → 0 ≤ b.L a
  l1 : ∀ a, a < b.nA → b.L a ≤ 4611686018427387904
  d0 : ∀ a, a < b.nA → 0 ≤ b.D a
  u1 : ∀ a, a < b.nA → used b a ≤ b.L a
  s : ∀ i, i < b.nS → ∀ a n, b.S i = some (a, n) → a < b.nA ∧ 0 ≤ n
theorem sum_nonneg {f : Nat → Int} : ∀ {k : Nat}, (∀ i, i < k → 0 ≤ f i) → 0 ≤ sumTo f k
  | 0, _ => Int.le_refl _
  | k + 1, h => by
    simp only [sumTo]
    have h1 := sum_nonneg (f := f) (k := k) (fun i hi => h i (by omega))
    have h2 := h k (by omega)
    omega
theorem sum_mono {f : Nat → Int} {n : Nat} (h : ∀ i, i < n → 0 ≤ f i) : ∀ {k : Nat}, k ≤ n → sumTo f k ≤ sumTo f n := by
  induction n with
  | zero => intro k hk; obtain rfl : k = 0 := by omega
            exact Int.le_refl _
  | succ n ih =>
    intro k hk
    by_cases e : k = n + 1
    · rw [e]; exact Int.le_refl _
    · have h1 := ih (fun i hi => h i (by omega)) (k := k) (by omega)
      have h2 := h n (by omega)
      simp only [sumTo]
      omega
/-- One place is another: the sum changes by just that. -/
theorem sum_upd (g : Nat → Option (Nat × Int)) (a i : Nat) (x : Option (Nat × Int)) : ∀ k, sumTo (fun j => amt (upd g i x j) a) k = sumTo (fun j => amt (g j) a) k + if i < k then amt x a - amt (g i) a else 0
  | 0 => by simp [sumTo]
  | k + 1 => by
    simp only [sumTo]
    rw [sum_upd g a i x k]
    by_cases e : k = i
    · subst e
      rw [upd_same, if_neg (by omega), if_pos (by omega)]
      omega
    · rw [upd_other _ _ e]
      by_cases e2 : i < k
      · rw [if_pos e2, if_pos (by omega)]; omega
      · rw [if_neg e2, if_neg (by omega)]; omega
theorem amt_nonneg {b : Bk} (h : Good b) {i : Nat} (hi : i < b.nS) (a : Nat) : 0 ≤ amt (b.S i) a := by
  cases e : b.S i with
  | none => rw [amt_none]; exact Int.le_refl _
  | some x =>
    obtain ⟨c, n⟩ := x
    have := (h.s i hi c n e).2
    rw [amt_some]
    split <;> omega
theorem part_bounds {b : Bk} (h : Good b) {a k : Nat} (hk : k ≤ b.nS) : 0 ≤ part b a k ∧ part b a k ≤ part b a b.nS :=
  ⟨sum_nonneg (fun i hi => amt_nonneg h (by omega) a), sum_mono (fun i hi => amt_nonneg h hi a) hk⟩
theorem part_succ (b : Bk) (a k : Nat) : part b a (k + 1) = part b a k + amt (b.S k) a := rfl
/-- What one slot holds of its account is no more than what the account uses less what was realised. -/
theorem held_le {b : Bk} (h : Good b) {i c : Nat} {n : Int} (hi : i < b.nS) (e : b.S i = some (c, n)) : n ≤ part b c b.nS := by
  have h1 := (part_bounds h (a := c) (k := i + 1) (by omega)).2
  have h2 := (part_bounds h (a := c) (k := i) (by omega)).1
  rw [part_succ, e, amt_some, if_pos rfl] at h1
  omega
theorem used_bounds {b : Bk} (h : Good b) {a : Nat} (ha : a < b.nA) : 0 ≤ used b a ∧ used b a ≤ b.L a := by
  have h1 := (part_bounds h (a := a) (k := b.nS) (Nat.le_refl _)).1
  have h2 := h.d0 a ha
  exact ⟨by unfold used; omega, h.u1 a ha⟩
/-- A slot that holds another thing. -/
def setS (b : Bk) (i : Nat) (x : Option (Nat × Int)) : Bk := { b with S := upd b.S i x }
/-- Another sum that was realised. -/
def setD (b : Bk) (a : Nat) (x : Int) : Bk := { b with D := upd b.D a x }
theorem used_setS (b : Bk) {i : Nat} (hi : i < b.nS) (x : Option (Nat × Int)) (a : Nat) : used (setS b i x) a = used b a + (amt x a - amt (b.S i) a) := by
  show b.D a + sumTo (fun j => amt (upd b.S i x j) a) b.nS = b.D a + sumTo (fun j => amt (b.S j) a) b.nS + (amt x a - amt (b.S i) a)
  rw [sum_upd, if_pos hi]
  omega
theorem used_setD (b : Bk) (c : Nat) (x : Int) (a : Nat) : used (setD b c x) a = if a = c then used b a - b.D a + x else used b a := by
  show upd b.D c x a + part b a b.nS = _
  by_cases e : a = c
  · subst e
    rw [upd_same, if_pos rfl]
    unfold used
    omega
  · rw [upd_other _ _ e, if_neg e]
    rfl
theorem Good.setS {b : Bk} (h : Good b) {i : Nat} (hi : i < b.nS) (x : Option (Nat × Int)) (hx : ∀ a n, x = some (a, n) → a < b.nA ∧ 0 ≤ n) (hu : ∀ a, a < b.nA → used b a + (amt x a - amt (b.S i) a) ≤ b.L a) : Good (setS b i x) := by
  refine ⟨h.a1, h.a2, h.s1, h.s2, h.l0, h.l1, h.d0, fun a ha => ?_, fun j hj a n e => ?_⟩
  · rw [used_setS b hi]; exact hu a ha
  · by_cases ej : j = i
    · subst ej
      exact hx a n (by rw [← e]; exact (upd_same _ _ _).symm)
    · refine h.s j hj a n ?_
      rw [← e]; exact (upd_other _ _ ej).symm
theorem Good.setD {b : Bk} (h : Good b) (c : Nat) (x : Int) (hx : 0 ≤ x) (hu : c < b.nA → used b c - b.D c + x ≤ b.L c) : Good (setD b c x) := by
  refine ⟨h.a1, h.a2, h.s1, h.s2, h.l0, h.l1, fun a ha => ?_, fun a ha => ?_, h.s⟩
  · show 0 ≤ upd b.D c x a
    by_cases e : a = c
    · rw [e, upd_same]; exact hx
    · rw [upd_other _ _ e]; exact h.d0 a ha
  · rw [used_setD]
    by_cases e : a = c
    · subst e; rw [if_pos rfl]; exact hu ha
    · rw [if_neg e]; exact h.u1 a ha

/-- Is there such an account, such a slot, such an amount? -/
def hasA (b : Bk) (a : Int) : Bool := decide (0 ≤ a) && decide (a < (b.nA : Int))
def hasS (b : Bk) (s : Int) : Bool := decide (0 ≤ s) && decide (s < (b.nS : Int))
def inL (n : Int) : Bool := decide (0 ≤ n) && decide (n ≤ 4611686018427387904)
/-- Reserve's answer, and the book behind it. -/
def resE (b : Bk) (a s n : Int) : Int :=
  if hasA b a = false then 2 else if hasS b s = false then 2 else if inL n = false then 2 else if (b.S s.toNat).isSome = true then 41 else if b.L a.toNat - used b a.toNat < n then 170 else 0
def resB (b : Bk) (a s n : Int) : Bk := if resE b a s n = 0 then setS b s.toNat (some (a.toNat, n)) else b
/-- Resize's. -/
def rszE (b : Bk) (s n : Int) : Int :=
  if hasS b s = false then 2 else if inL n = false then 2 else match b.S s.toNat with
    | none => 42
    | some x => if b.L x.1 - used b x.1 + x.2 < n then 170 else 0
def rszB (b : Bk) (s n : Int) : Bk := if rszE b s n = 0 then setS b s.toNat ((b.S s.toNat).map fun x => (x.1, n)) else b
/-- Settle's. -/
def stlE (b : Bk) (s n : Int) : Int :=
  if hasS b s = false then 2 else if n < 0 then 2 else match b.S s.toNat with
    | none => 42
    | some x => if x.2 < n then 2 else 0
def stlB (b : Bk) (s n : Int) : Bk := if stlE b s n = 0 then setS (setD b (slA (b.S s.toNat)).toNat (b.D (slA (b.S s.toNat)).toNat + n)) s.toNat none else b
/-- Undo's. -/
def undE (b : Bk) (a n : Int) : Int :=
  if hasA b a = false then 2 else if n < 0 then 2 else if b.D a.toNat < n then 2 else 0
def undB (b : Bk) (a n : Int) : Bk := if undE b a n = 0 then setD b a.toNat (b.D a.toNat - n) else b
theorem tr {x : Bool} (h : ¬ x = false) : x = true := by cases x <;> simp_all
theorem hasA_nat {b : Bk} {a : Int} (h : hasA b a = true) : ∃ k : Nat, a = (k : Int) ∧ k < b.nA := by
  simp only [hasA, Bool.and_eq_true, decide_eq_true_eq] at h
  exact ⟨a.toNat, by omega, by omega⟩
theorem hasS_nat {b : Bk} {a : Int} (h : hasS b a = true) : ∃ k : Nat, a = (k : Int) ∧ k < b.nS := by
  simp only [hasS, Bool.and_eq_true, decide_eq_true_eq] at h
  exact ⟨a.toNat, by omega, by omega⟩
theorem inL_iff {n : Int} (h : inL n = true) : 0 ≤ n ∧ n ≤ 4611686018427387904 := by
  simpa only [inL, Bool.and_eq_true, decide_eq_true_eq] using h
theorem res_good {b : Bk} (h : Good b) (a s n : Int) : Good (resB b a s n) := by
  unfold resB
  split
  case isFalse => exact h
  case isTrue e =>
    unfold resE at e
    by_cases h1 : hasA b a = false
    · rw [if_pos h1] at e; omega
    rw [if_neg h1] at e
    by_cases h2 : hasS b s = false
    · rw [if_pos h2] at e; omega
    rw [if_neg h2] at e
    by_cases h3 : inL n = false
    · rw [if_pos h3] at e; omega
    rw [if_neg h3] at e
    by_cases h4 : (b.S s.toNat).isSome = true
    · rw [if_pos h4] at e; omega
    rw [if_neg h4] at e
    by_cases h5 : b.L a.toNat - used b a.toNat < n
    · rw [if_pos h5] at e; omega
    obtain ⟨i, rfl, hi⟩ := hasA_nat (tr h1)
    obtain ⟨j, rfl, hj⟩ := hasS_nat (tr h2)
    obtain ⟨n0, n1⟩ := inL_iff (tr h3)
    simp only [Int.toNat_natCast] at *
    have h6 : b.S j = none := by simpa using h4
    refine h.setS hj _ (fun a m e => ?_) (fun a ha => ?_)
    · injection e with e; injection e with e1 e2; subst e1 e2; exact ⟨hi, n0⟩
    · rw [h6, amt_none, amt_some]
      have := h.u1 a ha
      split
      case isTrue e => subst e; omega
      case isFalse e => omega
theorem rsz_good {b : Bk} (h : Good b) (s n : Int) : Good (rszB b s n) := by
  unfold rszB
  split
  case isFalse => exact h
  case isTrue e =>
    unfold rszE at e
    by_cases h2 : hasS b s = false
    · rw [if_pos h2] at e; omega
    rw [if_neg h2] at e
    by_cases h3 : inL n = false
    · rw [if_pos h3] at e; omega
    rw [if_neg h3] at e
    obtain ⟨j, rfl, hj⟩ := hasS_nat (tr h2)
    obtain ⟨n0, n1⟩ := inL_iff (tr h3)
    simp only [Int.toNat_natCast] at *
    cases eS : b.S j with
    | none => rw [eS] at e; simp at e
    | some x =>
      obtain ⟨c, m⟩ := x
      rw [eS] at e
      by_cases h5 : b.L c - used b c + m < n
      · simp only [if_pos h5] at e; omega
      obtain ⟨hc, hm⟩ := h.s j hj c m eS
      refine h.setS hj _ (fun a q e => ?_) (fun a ha => ?_)
      · injection e with e; injection e with e1 e2; subst e1 e2; exact ⟨hc, n0⟩
      · rw [eS, Option.map_some, amt_some, amt_some]
        have := h.u1 a ha
        by_cases ec : c = a
        · subst ec; rw [if_pos rfl, if_pos rfl]; omega
        · rw [if_neg ec, if_neg ec]; omega
theorem stl_good {b : Bk} (h : Good b) (s n : Int) : Good (stlB b s n) := by
  unfold stlB
  split
  case isFalse => exact h
  case isTrue e =>
    unfold stlE at e
    by_cases h2 : hasS b s = false
    · rw [if_pos h2] at e; omega
    rw [if_neg h2] at e
    by_cases h3 : n < 0
    · rw [if_pos h3] at e; omega
    rw [if_neg h3] at e
    obtain ⟨j, rfl, hj⟩ := hasS_nat (tr h2)
    simp only [Int.toNat_natCast] at *
    cases eS : b.S j with
    | none => rw [eS] at e; simp at e
    | some x =>
      obtain ⟨c, m⟩ := x
      rw [eS] at e
      by_cases h5 : m < n
      · simp only [if_pos h5] at e; omega
      obtain ⟨hc, hm⟩ := h.s j hj c m eS
      simp only [slA, Int.toNat_natCast]
      have hd := h.d0 c hc
      have h7 := held_le h hj eS
      have hz : Good (RK.setS b j none) := h.setS hj none (fun a q e => nomatch e) (fun a ha => by
        have := h.u1 a ha
        have := amt_nonneg h hj a
        rw [amt_none]; omega)
      have hw : Good (RK.setD (RK.setS b j none) c (b.D c + n)) := by
        refine hz.setD c _ (by omega) (fun _ => ?_)
        rw [used_setS b hj, amt_none, eS, amt_some, if_pos rfl]
        have := h.u1 c hc
        show used b c + (0 - m) - b.D c + (b.D c + n) ≤ b.L c
        omega
      exact hw
theorem und_good {b : Bk} (h : Good b) (a n : Int) : Good (undB b a n) := by
  unfold undB
  split
  case isFalse => exact h
  case isTrue e =>
    unfold undE at e
    by_cases h2 : hasA b a = false
    · rw [if_pos h2] at e; omega
    rw [if_neg h2] at e
    by_cases h3 : n < 0
    · rw [if_pos h3] at e; omega
    rw [if_neg h3] at e
    by_cases h4 : b.D a.toNat < n
    · rw [if_pos h4] at e; omega
    refine h.setD _ _ (by omega) (fun ha => ?_)
    have := h.u1 a.toNat ha
    omega
/-- A book in which nothing is reserved. -/
def newB (nA : Nat) (L : Nat → Int) (nS : Nat) : Bk := ⟨nA, L, fun _ => 0, nS, fun _ => none⟩
theorem part_new (nA : Nat) (L : Nat → Int) (nS a : Nat) : ∀ k, part (newB nA L nS) a k = 0
  | 0 => rfl
  | k + 1 => by rw [part_succ, part_new nA L nS a k, Int.zero_add]; exact amt_none a
theorem used_new (nA : Nat) (L : Nat → Int) (nS a : Nat) : used (newB nA L nS) a = 0 := by
  unfold used
  rw [part_new]; rfl
/-- What limits and slots may be. -/
structure Fit (nA : Nat) (L : Nat → Int) (nS : Nat) : Prop where
  a1 : 1 ≤ nA
  a2 : nA ≤ 16
  s1 : 1 ≤ nS
  s2 : nS ≤ 64
  l : ∀ a, a < nA → inL (L a) = true
theorem new_good {nA : Nat} {L : Nat → Int} {nS : Nat} (h : Fit nA L nS) : Good (newB nA L nS) :=
  ⟨h.a1, h.a2, h.s1, h.s2, fun a ha => (inL_iff (h.l a ha)).1, fun a ha => (inL_iff (h.l a ha)).2, fun _ _ => Int.le_refl _, fun a ha => by rw [used_new]; exact (inL_iff (h.l a ha)).1, fun _ _ _ _ e => nomatch e⟩
end Go.Proofs.Ytcjdbfmglckdkaa.RK
