/-
  A body of which every field is asked for: which fields count as asked for on the way (plain).
-/
import Derived.Test.YtdacmhnniecmhaaDoorBodyRead
import Derived.Test.YtdacmhnniecmhaaDoorTagLaws
import Derived.Test.YtdacmhnniecmhaaDoorRefDigits
namespace Go.Proofs.YtdacmhnniecmhaaDoor
open Go.Lib

abbrev tX : ByteArray := ⟨#[120]⟩
abbrev tY : ByteArray := ⟨#[121]⟩
/-- The names' fields. -/
def namesF (f : Nat → ByteArray) : Nat → List Fd
  | 0 => []
  | n + 1 => namesF f n ++ [(100 + (n : Int), f n)]
theorem namesF_len (f : Nat → ByteArray) : ∀ n, (namesF f n).length = n
  | 0 => rfl
  | n + 1 => by rw [namesF, List.length_append, namesF_len f n]; rfl
theorem namesF_mem (f : Nat → ByteArray) : ∀ (n : Nat) (p : Fd), p ∈ namesF f n ↔ ∃ i, i < n ∧ p = (100 + (i : Int), f i)
  | 0, p => by simp [namesF]
  | n + 1, p => by
    rw [namesF, List.mem_append, namesF_mem f n, List.mem_singleton]
    constructor
    · rintro (⟨i, hi, e⟩ | e)
      · exact ⟨i, by omega, e⟩
      · exact ⟨n, by omega, e⟩
    · rintro ⟨i, hi, e⟩
      by_cases h : i = n
      · subst h; exact .inr e
      · exact .inl ⟨i, by omega, e⟩
theorem namesF_nodup (f : Nat → ByteArray) : ∀ n, ((namesF f n).map Prod.fst).Nodup
  | 0 => by simp [namesF]
  | n + 1 => by
    rw [namesF, List.map_append, List.nodup_append]
    refine ⟨namesF_nodup f n, by simp, ?_⟩
    intro a ha b hb e
    obtain ⟨p, hp, rfl⟩ := List.mem_map.1 ha
    obtain ⟨i, hi, rfl⟩ := (namesF_mem f n p).1 hp
    simp at hb
    subst hb
    simp at e
    omega
/-- The whole body's fields. -/
def wholeF (D : ByteArray) (f : Nat → ByteArray) (n : Nat) : List Fd := (35, tX) :: (400, D) :: namesF f n
theorem wholeF_len (D : ByteArray) (f : Nat → ByteArray) (n : Nat) : (wholeF D f n).length = n + 2 := by simp [wholeF, namesF_len]
theorem wholeF_more (D : ByteArray) (f : Nat → ByteArray) (n : Nat) : wholeF D f (n + 1) = wholeF D f n ++ [(100 + (n : Int), f n)] := rfl
theorem wholeF_tag {D : ByteArray} {f : Nat → ByteArray} {n : Nat} {t : Int} (h : t ∈ (wholeF D f n).map Prod.fst) : t = 35 ∨ t = 400 ∨ ∃ i : Nat, i < n ∧ t = 100 + (i : Int) := by
  unfold wholeF at h
  simp only [List.map_cons, List.mem_cons] at h
  rcases h with h | h | h
  · exact .inl h
  · exact .inr (.inl h)
  · obtain ⟨p, hp, rfl⟩ := List.mem_map.1 h
    obtain ⟨i, hi, rfl⟩ := (namesF_mem f n p).1 hp
    exact .inr (.inr ⟨i, hi, rfl⟩)
theorem wholeF_nodup {D : ByteArray} {f : Nat → ByteArray} {n : Nat} (hn : n ≤ 20) : ((wholeF D f n).map Prod.fst).Nodup := by
  have no : ∀ t : Int, t ∈ (namesF f n).map Prod.fst → 100 ≤ t ∧ t < 120 := by
    intro t ht
    obtain ⟨p, hp, rfl⟩ := List.mem_map.1 ht
    obtain ⟨i, hi, rfl⟩ := (namesF_mem f n p).1 hp
    dsimp only
    omega
  unfold wholeF
  simp only [List.map_cons, List.nodup_cons, List.mem_cons, not_or]
  refine ⟨⟨by decide, fun h => ?_⟩, fun h => ?_, namesF_nodup f n⟩
  · have := no _ h; omega
  · have := no _ h; omega
theorem lookF_mem {l : List Fd} (h : (l.map Prod.fst).Nodup) {p : Fd} (hp : p ∈ l) : lookF l p.1 = some (p.2, p.1 == 35) := by
  induction l with
  | nil => simp at hp
  | cons q r ih =>
    rw [List.map_cons, List.nodup_cons] at h
    unfold lookF
    rw [List.find?_cons]
    rcases List.mem_cons.1 hp with rfl | hp
    · simp
    · have hne : (q.1 == p.1) = false := beq_false_of_ne (fun e => h.1 (by rw [e]; exact List.mem_map.2 ⟨p, hp, rfl⟩))
      rw [hne]
      have := ih h.2 hp
      unfold lookF at this
      exact this
/-- A body's fields in which all that is wanted lies. -/
structure Whole (l : List Fd) (D : ByteArray) (f : Nat → ByteArray) (n : Nat) : Prop where
  nodup : (l.map Prod.fst).Nodup
  range : ∀ p ∈ l, 1 ≤ p.1 ∧ p.1 ≤ 999
  head : ∃ r, l = (35, tX) :: r
  num : (400, D) ∈ l
  names : ∀ i, i < n → (100 + (i : Int), f i) ∈ l
theorem whole_0 (D : ByteArray) (f : Nat → ByteArray) (n : Nat) (hn : n ≤ 20) : Whole (wholeF D f n) D f n where
  nodup := wholeF_nodup hn
  range := fun p hp => by
    have := wholeF_tag (D := D) (f := f) (n := n) (t := p.1) (List.mem_map.2 ⟨p, hp, rfl⟩)
    rcases this with h | h | ⟨i, hi, h⟩ <;> rw [h] <;> omega
  head := ⟨_, rfl⟩
  num := by unfold wholeF; simp
  names := fun i hi => by unfold wholeF; simp only [List.mem_cons]; exact .inr (.inr ((namesF_mem f n _).2 ⟨i, hi, rfl⟩))
theorem whole_1 (D : ByteArray) (f : Nat → ByteArray) (n : Nat) (hn : n ≤ 20) (m : Int) (h1 : 500 ≤ m) (h2 : m ≤ 999) : Whole (wholeF D f n ++ [(m, tY)]) D f n where
  nodup := by
    rw [List.map_append, List.nodup_append]
    refine ⟨wholeF_nodup hn, by simp, ?_⟩
    intro a ha b hb e
    simp at hb
    subst hb
    rcases wholeF_tag ha with h | h | ⟨i, hi, h⟩ <;> omega
  range := fun p hp => by
    rcases List.mem_append.1 hp with h | h
    · exact (whole_0 D f n hn).range p h
    · simp at h
      subst h
      exact ⟨by show (1 : Int) ≤ m; omega, by show m ≤ 999; omega⟩
  head := ⟨_, rfl⟩
  num := List.mem_append.2 (.inl (whole_0 D f n hn).num)
  names := fun i hi => List.mem_append.2 (.inl ((whole_0 D f n hn).names i hi))
/-- The form once the number and j names were asked for. -/
def markF (l : List Fd) (j : Nat) (t : Int) : Option (ByteArray × Bool) := match lookF l t with
  | some (v, b) => some (v, b || (t == 400) || decide (100 ≤ t ∧ t < 100 + (j : Int)))
  | none => none
theorem mark_0 {l : List Fd} {D : ByteArray} (h : lookF l 400 = some (D, false)) : updI (lookF l) 400 (D, true) = markF l 0 := by
  funext t
  unfold markF
  by_cases e : t = 400
  · subst e
    rw [updI_same, h]
    rfl
  · rw [updI_other _ _ e]
    cases lookF l t with
    | none => rfl
    | some p =>
      have e1 : (t == 400) = false := beq_false_of_ne e
      have e2 : decide (100 ≤ t ∧ t < 100 + ((0 : Nat) : Int)) = false := decide_eq_false (by omega)
      show some p = some (p.1, p.2 || (t == 400) || decide (100 ≤ t ∧ t < 100 + ((0 : Nat) : Int)))
      rw [e1, e2, Bool.or_false, Bool.or_false]
theorem mark_at {l : List Fd} {j : Nat} {s : ByteArray} (hj : j < 20) (h : lookF l (100 + (j : Int)) = some (s, false)) : markF l j (100 + (j : Int)) = some (s, false) := by
  unfold markF
  rw [h]
  have e1 : ((100 + (j : Int)) == 400) = false := beq_false_of_ne (by omega)
  have e2 : decide (100 ≤ 100 + (j : Int) ∧ 100 + (j : Int) < 100 + (j : Int)) = false := decide_eq_false (by omega)
  show some (s, false || ((100 + (j : Int)) == 400) || decide (100 ≤ 100 + (j : Int) ∧ 100 + (j : Int) < 100 + (j : Int))) = _
  rw [e1, e2]
  rfl
theorem mark_step {l : List Fd} {j : Nat} {s : ByteArray} (h : lookF l (100 + (j : Int)) = some (s, false)) : updI (markF l j) (100 + (j : Int)) (s, true) = markF l (j + 1) := by
  funext t
  by_cases e : t = 100 + (j : Int)
  · subst e
    rw [updI_same]
    unfold markF
    rw [h]
    have e2 : decide (100 ≤ 100 + (j : Int) ∧ 100 + (j : Int) < 100 + ((j + 1 : Nat) : Int)) = true := decide_eq_true (by omega)
    show some (s, true) = some (s, false || ((100 + (j : Int)) == 400) || decide (100 ≤ 100 + (j : Int) ∧ 100 + (j : Int) < 100 + ((j + 1 : Nat) : Int)))
    rw [e2, Bool.or_true]
  · rw [updI_other _ _ e]
    unfold markF
    cases lookF l t with
    | none => rfl
    | some p =>
      have e2 : decide (100 ≤ t ∧ t < 100 + ((j + 1 : Nat) : Int)) = decide (100 ≤ t ∧ t < 100 + (j : Int)) := decide_eq_decide.2 (by omega)
      rw [e2]
theorem spare_all {L : Int → Option (ByteArray × Bool)} : ∀ tags : List Int, (∀ t ∈ tags, askedB L t = true) → spareE L tags = (0, 0)
  | [], _ => rfl
  | t :: r, h => by rw [spareE, if_pos (h t (by simp)), spare_all r (fun u hu => h u (by simp [hu]))]
theorem spare_last {L : Int → Option (ByteArray × Bool)} {x : Int} (hx : askedB L x = false) : ∀ tags : List Int, (∀ t ∈ tags, askedB L t = true) → spareE L (tags ++ [x]) = (x, 113)
  | [], _ => by rw [List.nil_append, spareE, if_neg (by rw [hx]; decide)]
  | t :: r, h => by rw [List.cons_append, spareE, if_pos (h t (by simp)), spare_last hx r (fun u hu => h u (by simp [hu]))]
theorem asked_mark {l : List Fd} {D : ByteArray} {f : Nat → ByteArray} {n : Nat} (W : Whole l D f n) {t : Int} (ht : t = 35 ∨ t = 400 ∨ ∃ i : Nat, i < n ∧ t = 100 + (i : Int)) : askedB (markF l n) t = true := by
  unfold askedB markF
  rcases ht with rfl | rfl | ⟨i, hi, rfl⟩
  · obtain ⟨r, hr⟩ := W.head
    have := lookF_mem W.nodup (p := (35, tX)) (by rw [hr]; simp)
    rw [this]
    rfl
  · have := lookF_mem W.nodup W.num
    rw [this]
    rfl
  · have := lookF_mem W.nodup (W.names i hi)
    dsimp only at this
    rw [this]
    have e2 : decide (100 ≤ 100 + (i : Int) ∧ 100 + (i : Int) < 100 + (n : Int)) = true := decide_eq_true (by omega)
    show (((100 + (i : Int)) == 35) || ((100 + (i : Int)) == 400) || decide (100 ≤ 100 + (i : Int) ∧ 100 + (i : Int) < 100 + (n : Int))) = true
    rw [e2, Bool.or_true]
theorem whole_done_0 (D : ByteArray) (f : Nat → ByteArray) (n : Nat) (hn : n ≤ 20) : spareE (markF (wholeF D f n) n) ((wholeF D f n).map Prod.fst) = (0, 0) :=
  spare_all _ (fun _ ht => asked_mark (whole_0 D f n hn) (wholeF_tag ht))
theorem whole_done_1 (D : ByteArray) (f : Nat → ByteArray) (n : Nat) (hn : n ≤ 20) (m : Int) (h1 : 500 ≤ m) (h2 : m ≤ 999) : spareE (markF (wholeF D f n ++ [(m, tY)]) n) ((wholeF D f n ++ [(m, tY)]).map Prod.fst) = (m, 113) := by
  have W := whole_1 D f n hn m h1 h2
  rw [List.map_append]
  refine spare_last ?_ _ (fun _ ht => asked_mark W (wholeF_tag ht))
  unfold askedB markF
  have := lookF_mem W.nodup (p := (m, tY)) (List.mem_append.2 (.inr (by simp)))
  dsimp only at this
  rw [this]
  have e0 : (m == 35) = false := beq_false_of_ne (by omega)
  have e1 : (m == 400) = false := beq_false_of_ne (by omega)
  have e2 : decide (100 ≤ m ∧ m < 100 + (n : Int)) = false := decide_eq_false (by omega)
  show ((m == 35) || (m == 400) || decide (100 ≤ m ∧ m < 100 + (n : Int))) = false
  rw [e0, e1, e2]
  rfl
/-- The whole body's fields with one more. -/
def wholeM (D : ByteArray) (f : Nat → ByteArray) (n : Nat) (m : Int) : List Fd := wholeF D f n ++ [(m, tY)]
theorem whole_M (D : ByteArray) (f : Nat → ByteArray) (n : Nat) (hn : n ≤ 20) (m : Int) (h1 : 500 ≤ m) (h2 : m ≤ 999) : Whole (wholeM D f n m) D f n := whole_1 D f n hn m h1 h2
theorem whole_done_M (D : ByteArray) (f : Nat → ByteArray) (n : Nat) (hn : n ≤ 20) (m : Int) (h1 : 500 ≤ m) (h2 : m ≤ 999) : spareE (markF (wholeM D f n m) n) ((wholeM D f n m).map Prod.fst) = (m, 113) := whole_done_1 D f n hn m h1 h2
theorem wholeM_len (D : ByteArray) (f : Nat → ByteArray) (n : Nat) (m : Int) : (wholeM D f n m).length = n + 3 := by rw [wholeM, List.length_append, wholeF_len]; rfl
theorem cat_len : ∀ {L : List Fd}, AllOk L → (cat L).length ≤ 600 * L.length
  | [], _ => by simp [cat]
  | f :: r, h => by
    obtain ⟨h1, h2⟩ := AllOk.cons.1 h
    have ih := cat_len h2
    obtain ⟨a1, a2, a3, a4⟩ := formE_ok (ok_form h1)
    have hd := digits_short 4 f.1.toNat (by omega)
    have hv : f.2.data.toList.length ≤ 512 := a3.2.1
    rw [cat, List.length_append, a4, List.length_cons]
    simp only [List.length_append, List.length_cons, List.length_nil]
    omega
end Go.Proofs.YtdacmhnniecmhaaDoor
