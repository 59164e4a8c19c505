/-
  Plain lists of bits, the lowest first, no program: the number that a list stands for, lists without noughts at the upper end, and what sums, differences and comparisons bit by bit come to.
-/
namespace Go.Proofs.Ytkphchldoionjaa

def val : List Bool → Nat
  | [] => 0
  | b :: l => b.toNat + 2 * val l
/-- Without noughts at the upper end. -/
def Canon (l : List Bool) : Prop := l.getLast? ≠ some false

theorem val_append (l m : List Bool) : val (l ++ m) = val l + 2 ^ l.length * val m := by
  induction l with
  | nil => simp [val]
  | cons b l ih =>
    simp only [List.cons_append, val, ih, List.length_cons, Nat.pow_succ]
    rw [Nat.mul_add, Nat.mul_comm (2 ^ l.length) 2, Nat.mul_assoc]
    omega
theorem val_lt (l : List Bool) : val l < 2 ^ l.length := by
  induction l with
  | nil => simp [val]
  | cons b l ih =>
    simp only [val, List.length_cons, Nat.pow_succ]
    cases b <;> simp <;> omega
theorem val_snoc (l : List Bool) (b : Bool) : val (l ++ [b]) = val l + 2 ^ l.length * b.toNat := by
  rw [val_append]; simp [val]
theorem canon_nil : Canon [] := by simp [Canon]
theorem canon_snoc (l : List Bool) : Canon (l ++ [true]) := by simp [Canon]
theorem canon_ge (l : List Bool) (h : Canon l) (hn : l ≠ []) : 2 ^ (l.length - 1) ≤ val l := by
  obtain ⟨m, b, rfl⟩ : ∃ m b, l = m ++ [b] := ⟨l.dropLast, l.getLast hn, (List.dropLast_concat_getLast hn).symm⟩
  have hb : b = true := by
    cases b
    · exact absurd (by simp) h
    · rfl
  subst hb
  rw [val_snoc]
  simp
theorem canon_zero (l : List Bool) (h : Canon l) : l = [] ↔ val l = 0 := by
  constructor
  · intro e; subst e; rfl
  · intro e
    apply Decidable.byContradiction
    intro hn
    have := canon_ge l h hn
    have := Nat.two_pow_pos (l.length - 1)
    omega
theorem val_take_succ (l : List Bool) (k : Nat) (hk : k < l.length) : val (l.take (k + 1)) = val (l.take k) + 2 ^ k * (l.getD k false).toNat := by
  rw [List.take_succ_eq_append_getElem hk, val_snoc]
  simp [hk, Nat.min_eq_left (Nat.le_of_lt hk)]
/-- The same where the list may have ended. -/
theorem val_take_next (l : List Bool) (k : Nat) : val (l.take (k + 1)) = val (l.take k) + 2 ^ k * (l.getD k false).toNat := by
  by_cases hk : k < l.length
  · exact val_take_succ l k hk
  · have h1 : l.take (k + 1) = l := List.take_of_length_le (by omega)
    have h2 : l.take k = l := List.take_of_length_le (by omega)
    have h3 : l.getD k false = false := by simp [List.getD, List.getElem?_eq_none (Nat.le_of_not_lt hk)]
    rw [h1, h2, h3]; simp
theorem val_falses (l : List Bool) (h : ∀ i, i < l.length → l.getD i false = false) : val l = 0 := by
  induction l with
  | nil => rfl
  | cons b l ih =>
    have hb : b = false := by simpa using h 0 (by simp)
    have := ih (fun i hi => by simpa using h (i + 1) (by simp; omega))
    simp [val, hb, this]
/-- Cut off where all that follows is nought. -/
theorem val_trim (l : List Bool) (n : Nat) (h : ∀ i, n ≤ i → i < l.length → l.getD i false = false) : val (l.take n) = val l := by
  have e : val l = val (l.take n ++ l.drop n) := by rw [List.take_append_drop]
  have z : val (l.drop n) = 0 := val_falses _ (fun i hi => by
    have hl : i < l.length - n := by simpa using hi
    have := h (n + i) (by omega) (by omega)
    simpa using this)
  rw [e, val_append, z]; simp
theorem canon_trim (l : List Bool) (n : Nat) (hn : n ≤ l.length) (h : n = 0 ∨ l.getD (n - 1) false = true) : Canon (l.take n) := by
  rcases h with rfl | h
  · simp [Canon]
  · unfold Canon
    rcases Nat.eq_zero_or_pos n with rfl | hp
    · simp
    · have hl : n - 1 < l.length := by omega
      have : (l.take n).getLast? = some (l.getD (n - 1) false) := by
        rw [List.getLast?_eq_getElem?]
        simp [Nat.min_eq_left hn, hl, List.getElem?_take]
        omega
      rw [this, h]; simp
theorem val_ext : ∀ (x y : List Bool), (∀ j, x.getD j false = y.getD j false) → val x = val y
  | [], y, h => by
    have : val y = 0 := val_falses y (fun i _ => by have := h i; simpa using this.symm)
    rw [this]; rfl
  | b :: x, [], h => by
    have : val (b :: x) = 0 := val_falses (b :: x) (fun i _ => by have := h i; simpa using this)
    rw [this]; rfl
  | b :: x, c :: y, h => by
    have e : b = c := by simpa using h 0
    have := val_ext x y (fun j => by simpa using h (j + 1))
    simp [val, e, this]
theorem val_split (l : List Bool) (k : Nat) : val l = val (l.take k) + 2 ^ k * val (l.drop k) := by
  have e : val l = val (l.take k ++ l.drop k) := by rw [List.take_append_drop]
  rw [e, val_append]
  by_cases hk : k ≤ l.length
  · simp [Nat.min_eq_left hk]
  · have : l.drop k = [] := List.drop_eq_nil_of_le (by omega)
    rw [this]; simp [val]
theorem val_take_lt (l : List Bool) (k : Nat) : val (l.take k) < 2 ^ k := by
  have := val_lt (l.take k)
  have h2 : 2 ^ (l.take k).length ≤ 2 ^ k := Nat.pow_le_pow_right (by omega) (by simp; omega)
  omega
theorem drop_same (x y : List Bool) (k : Nat) (h : ∀ j, k ≤ j → x.getD j false = y.getD j false) : val (x.drop k) = val (y.drop k) :=
  val_ext _ _ (fun j => by have := h (k + j) (by omega); simpa using this)
/-- The uppermost bit in which two lists part says which is greater. -/
theorem val_part (x y : List Bool) (k : Nat) (h : ∀ j, k + 1 ≤ j → x.getD j false = y.getD j false) (hx : x.getD k false = true) (hy : y.getD k false = false) : val y < val x := by
  have e1 := val_split x (k + 1)
  have e2 := val_split y (k + 1)
  have e3 := drop_same x y (k + 1) h
  have e4 := val_take_next x k
  have e5 := val_take_next y k
  have e6 := val_take_lt y k
  rw [hx] at e4
  rw [hy] at e5
  rw [e3] at e1
  simp at e4 e5
  omega
def maj (a b c : Bool) : Bool := a && b || c && (a || b)
theorem plus_step (x y l : List Bool) (q : Bool) (h : val l + 2 ^ l.length * q.toNat = val (x.take l.length) + val (y.take l.length)) :
    val (l ++ [(x.getD l.length false != y.getD l.length false) != q]) + 2 ^ (l ++ [(x.getD l.length false != y.getD l.length false) != q]).length * (maj (x.getD l.length false) (y.getD l.length false) q).toNat =
      val (x.take (l.length + 1)) + val (y.take (l.length + 1)) := by
  rw [val_take_next, val_take_next, val_snoc, List.length_append, List.length_singleton, Nat.pow_succ, Nat.mul_assoc]
  generalize x.getD l.length false = a
  generalize y.getD l.length false = b
  generalize 2 ^ l.length = p at *
  cases a <;> cases b <;> cases q <;> simp [maj] at * <;> omega
def bor (a b c : Bool) : Bool := !a && (b || c) || a && b && c
theorem minus_step (x y l : List Bool) (q : Bool) (h : val (x.take l.length) + 2 ^ l.length * q.toNat = val l + val (y.take l.length)) :
    val (x.take (l.length + 1)) + 2 ^ (l ++ [(x.getD l.length false != y.getD l.length false) != q]).length * (bor (x.getD l.length false) (y.getD l.length false) q).toNat =
      val (l ++ [(x.getD l.length false != y.getD l.length false) != q]) + val (y.take (l.length + 1)) := by
  rw [val_take_next, val_take_next, val_snoc, List.length_append, List.length_singleton, Nat.pow_succ, Nat.mul_assoc]
  generalize x.getD l.length false = a
  generalize y.getD l.length false = b
  generalize 2 ^ l.length = p at *
  cases a <;> cases b <;> cases q <;> simp [bor] at * <;> omega
/-- At the end nothing is borrowed any more. -/
theorem minus_end (x y l : List Bool) (q : Bool) (hl : l.length = x.length) (h : val (x.take l.length) + 2 ^ l.length * q.toNat = val l + val (y.take l.length)) (hle : val y ≤ val x) : val l = val x - val y := by
  have e1 : x.take l.length = x := List.take_of_length_le (by omega)
  rw [e1] at h
  have e2 := val_split y l.length
  have e3 := val_lt l
  have e4 := val_lt x
  rw [← hl] at e4
  have hp := Nat.two_pow_pos l.length
  have hd : val (y.drop l.length) = 0 := by
    rcases Nat.eq_zero_or_pos (val (y.drop l.length)) with h0 | h0
    · exact h0
    · have := Nat.le_mul_of_pos_right (2 ^ l.length) h0
      omega
  rw [hd] at e2
  generalize 2 ^ l.length = p at *
  cases q <;> simp at * <;> omega
theorem take_all (x : List Bool) (k : Nat) (h : x.length ≤ k) : x.take k = x := List.take_of_length_le h
theorem getD_end (x : List Bool) (k : Nat) (h : x.length ≤ k) : x.getD k false = false := by simp [List.getElem?_eq_none h]
theorem val_same (x y : List Bool) (h : ∀ j, x.getD j false = y.getD j false) : val x = val y := val_ext x y h
end Go.Proofs.Ytkphchldoionjaa
