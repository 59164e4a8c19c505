/-
  A body of which every field is asked for: which fields count as asked for on the way (plain).
-/
import Derived.Test.YtdbkoflejimibaaGreatDoorGD
import Derived.Test.YtdbkoflejimibaaGreatDoorGB
namespace Go.Proofs.YtdbkoflejimibaaGreatDoor
open Go.Lib

abbrev tX : ByteArray := ⟨#[120]⟩
abbrev tY : ByteArray := ⟨#[121]⟩
/-- The names' fields. -/
def namesF (f : Nat → ByteArray) : Nat → List Fd
  | 0 => []
  | n + 1 => namesF f n ++ [(100 + (n : Int), f n)]
theorem namesF_len (f : Nat → ByteArray) : ∀ n, (namesF f n).length = n
  | 0 => rfl
  | n + 1 => by rw [namesF, List.length_append, namesF_len f n]; rfl
theorem namesF_mem (f : Nat → ByteArray) : ∀ (n : Nat) (p : Fd), p ∈ namesF f n ↔ ∃ i, i < n ∧ p = (100 + (i : Int), f i)
  | 0, p => by simp [namesF]
  | n + 1, p => by
    rw [namesF, List.mem_append, namesF_mem f n, List.mem_singleton]
    constructor
    · rintro (⟨i, hi, e⟩ | e)
      · exact ⟨i, by omega, e⟩
      · exact ⟨n, by omega, e⟩
    · rintro ⟨i, hi, e⟩
      by_cases h : i = n
      · subst h; exact .inr e
      · exact .inl ⟨i, by omega, e⟩
theorem namesF_nodup (f : Nat → ByteArray) : ∀ n, ((namesF f n).map Prod.fst).Nodup
  | 0 => by simp [namesF]
  | n + 1 => by
    rw [namesF, List.map_append, List.nodup_append]
    refine ⟨namesF_nodup f n, by simp, ?_⟩
    intro a ha b hb e
    obtain ⟨p, hp, rfl⟩ := List.mem_map.1 ha
    obtain ⟨i, hi, rfl⟩ := (namesF_mem f n p).1 hp
    simp at hb
    subst hb
    simp at e
    omega
/-- The whole body's fields. -/
def wholeF (D : ByteArray) (f : Nat → ByteArray) (n : Nat) : List Fd := (35, tX) :: (400, D) :: namesF f n
theorem wholeF_len (D : ByteArray) (f : Nat → ByteArray) (n : Nat) : (wholeF D f n).length = n + 2 := by simp [wholeF, namesF_len]
theorem wholeF_more (D : ByteArray) (f : Nat → ByteArray) (n : Nat) : wholeF D f (n + 1) = wholeF D f n ++ [(100 + (n : Int), f n)] := rfl
theorem wholeF_tag {D : ByteArray} {f : Nat → ByteArray} {n : Nat} {t : Int} (h : t ∈ (wholeF D f n).map Prod.fst) : t = 35 ∨ t = 400 ∨ ∃ i : Nat, i < n ∧ t = 100 + (i : Int) := by
  unfold wholeF at h
  simp only [List.map_cons, List.mem_cons] at h
  rcases h with h | h | h
  · exact .inl h
  · exact .inr (.inl h)
  · obtain ⟨p, hp, rfl⟩ := List.mem_map.1 h
    obtain ⟨i, hi, rfl⟩ := (namesF_mem f n p).1 hp
    exact .inr (.inr ⟨i, hi, rfl⟩)
theorem wholeF_nodup {D : ByteArray} {f : Nat → ByteArray} {n : Nat} (hn : n ≤ 20) : ((wholeF D f n).map Prod.fst).Nodup := by
  have no : ∀ t : Int, t ∈ (namesF f n).map Prod.fst → 100 ≤ t ∧ t < 120 := by
    intro t ht
    obtain ⟨p, hp, rfl⟩ := List.mem_map.1 ht
    obtain ⟨i, hi, rfl⟩ := (namesF_mem f n p).1 hp
    dsimp only
    omega
  unfold wholeF
  simp only [List.map_cons, List.nodup_cons, List.mem_cons, not_or]
  refine ⟨⟨by decide, fun h => ?_⟩, fun h => ?_, namesF_nodup f n⟩
  · have := no _ h; omega
  · have := no _ h; omega
theorem lookF_mem {l : List Fd} (h : (l.map Prod.fst).Nodup) {p : Fd} (hp : p ∈ l) : lookF l p.1 = some (p.2, p.1 == 35) := by
  induction l with
  | nil => simp at hp
  | cons q r ih =>
    rw [List.map_cons, List.nodup_cons] at h
    unfold lookF
    rw [List.find?_cons]
    rcases List.mem_cons.1 hp with rfl | hp
    · simp
    · have hne : (q.1 == p.1) = false := beq_false_of_ne (fun e => h.1 (by rw [e]; exact List.mem_map.2 ⟨p, hp, rfl⟩))
      rw [hne]
      have := ih h.2 hp
      unfold lookF at this
      exact this
/-- A body's fields in which all that is wanted lies. -/
structure Whole (l : List Fd) (D : ByteArray) (f : Nat → ByteArray) (n : Nat) : Prop where
  nodup : (l.map Prod.fst).Nodup
  range : ∀ p ∈ l, 1 ≤ p.1 ∧ p.1 ≤ 999
  head : ∃ r, l = (35, tX) :: r
  num : (400, D) ∈ l
  names : ∀ i, i < n → (100 + (i : Int), f i) ∈ l
theorem whole_0 (D : ByteArray) (f : Nat → ByteArray) (n : Nat) (hn : n ≤ 20) : Whole (wholeF D f n) D f n where
  nodup := wholeF_nodup hn
  range := fun p hp => by
    have := wholeF_tag (D := D) (f := f) (n := n) (t := p.1) (List.mem_map.2 ⟨p, hp, rfl⟩)
    rcases this with h | h | ⟨i, hi, h⟩ <;> rw [h] <;> omega
  head := ⟨_, rfl⟩
  num := by unfold wholeF; simp
  names := fun i hi => by unfold wholeF; simp only [List.mem_cons]; exact .inr (.inr ((namesF_mem f n _).2 ⟨i, hi, rfl⟩))
theorem whole_1 (D : ByteArray) (f : Nat → ByteArray) (n : Nat) (hn : n ≤ 20) (m : Int) (h1 : 500 ≤ m) (h2 : m ≤ 999) : Whole (wholeF D f n ++ [(m, tY)]) D f n where
  nodup := by
    rw [List.map_append, List.nodup_append]
    refine ⟨wholeF_nodup hn, by simp, ?_⟩
    intro a ha b hb e
    simp at hb
    subst hb
    rcases wholeF_tag ha with h | h | ⟨i, hi, h⟩ <;> omega
  range := fun p hp => by
    rcases List.mem_append.1 hp with h | h
    · exact (whole_0 D f n hn).range p h
    · simp at h
      subst h
      exact ⟨by show (1 : Int) ≤ m; omega, by show m ≤ 999; omega⟩
  head := ⟨_, rfl⟩
  num := List.mem_append.2 (.inl (whole_0 D f n hn).num)
  names := fun i hi => List.mem_append.2 (.inl ((whole_0 D f n hn).names i hi))
/-- The form once the number and j names were asked for. -/
def markF (l : List Fd) (j : Nat) (t : Int) : Option (ByteArray × Bool) := match lookF l t with
  | some (v, b) => some (v, b || (t == 400) || decide (100 ≤ t ∧ t < 100 + (j : Int)))
  | none => none
theorem mark_0 {l : List Fd} {D : ByteArray} (h : lookF l 400 = some (D, false)) : updI (lookF l) 400 (D, true) = markF l 0 := by
  funext t
  unfold markF
  by_cases e : t = 400
  · subst e
    rw [updI_same, h]
    rfl
  · rw [updI_other _ _ e]
    cases lookF l t with
    | none => rfl
    | some p =>
      have e1 : (t == 400) = false := beq_false_of_ne e
      have e2 : decide (100 ≤ t ∧ t < 100 + ((0 : Nat) : Int)) = false := decide_eq_false (by omega)
      show some p = some (p.1, p.2 || (t == 400) || decide (100 ≤ t ∧ t < 100 + ((0 : Nat) : Int)))
      rw [e1, e2, Bool.or_false, Bool.or_false]
theorem mark_at {l : List Fd} {j : Nat} {s : ByteArray} (hj : j < 20) (h : lookF l (100 + (j : Int)) = some (s, false)) : markF l j (100 + (j : Int)) = some (s, false) := by
  unfold markF
  rw [h]
  have e1 : ((100 + (j : Int)) == 400) = false := beq_false_of_ne (by omega)
  have e2 : decide (100 ≤ 100 + (j : Int) ∧ 100 + (j : Int) < 100 + (j : Int)) = false := decide_eq_false (by omega)
  show some (s, false || ((100 + (j : Int)) == 400) || decide (100 ≤ 100 + (j : Int) ∧ 100 + (j : Int) < 100 + (j : Int))) = _
  rw [e1, e2]
  rfl
theorem mark_step {l : List Fd} {j : Nat} {s : ByteArray} (h : lookF l (100 + (j : Int)) = some (s, false)) : updI (markF l j) (100 + (j : Int)) (s, true) = markF l (j + 1) := by
  funext t
  by_cases e : t = 100 + (j : Int)
  · subst e
    rw [updI_same]
    unfold markF
    rw [h]
    have e2 : decide (100 ≤ 100 + (j : Int) ∧ 100 + (j : Int) < 100 + ((j + 1 : Nat) : Int)) = true := decide_eq_true (by omega)
    show some (s, true) = some (s, false || ((100 + (j : Int)) == 400) || decide (100 ≤ 100 + (j : Int) ∧ 100 + (j : Int) < 100 + ((j + 1 : Nat) : Int)))
    rw [e2, Bool.or_true]
  · rw [updI_other _ _ e]
    unfold markF
    cases lookF l t with
    | none => rfl
    | some p =>
      have e2 : decide (100 ≤ t ∧ t < 100 + ((j + 1 : Nat) : Int)) = decide (100 ≤ t ∧ t < 100 + (j : Int)) := decide_eq_decide.2 (by omega)
      rw [e2]
theorem spare_all {L : Int → Option (ByteArray × Bool)} : ∀ tags : List Int, (∀ t ∈ tags, askedB L t = true) → spareE L tags = (0, 0)
  | [], _ => rfl
  | t :: r, h => by rw [spareE, if_pos (h t (by simp)), spare_all r (fun u hu => h u (by simp [hu]))]
theorem spare_last {L : Int → Option (ByteArray × Bool)} {x : Int} (hx : askedB L x = false) : ∀ tags : List Int, (∀ t ∈ tags, askedB L t = true) → spareE L (tags ++ [x]) = (x, 113)
  | [], _ => by rw [List.nil_append, spareE, if_neg (by rw [hx]; decide)]
  | t :: r, h => by rw [List.cons_append, spareE, if_pos (h t (by simp)), spare_last hx r (fun u hu => h u (by simp [hu]))]
theorem asked_mark {l : List Fd} {D : ByteArray} {f : Nat → ByteArray} {n : Nat} (W : Whole l D f n) {t : Int} (ht : t = 35 ∨ t = 400 ∨ ∃ i : Nat, i < n ∧ t = 100 + (i : Int)) : askedB (markF l n) t = true := by
  unfold askedB markF
  rcases ht with rfl | rfl | ⟨i, hi, rfl⟩
  · obtain ⟨r, hr⟩ := W.head
    have := lookF_mem W.nodup (p := (35, tX)) (by rw [hr]; simp)
    rw [this]
    rfl
  · have := lookF_mem W.nodup W.num
    rw [this]
    rfl
  · have := lookF_mem W.nodup (W.names i hi)
    dsimp only at this
    rw [this]
    have e2 : decide (100 ≤ 100 + (i : Int) ∧ 100 + (i : Int) < 100 + (n : Int)) = true := decide_eq_true (by omega)
    show (((100 + (i : Int)) == 35) || ((100 + (i : Int)) == 400) || decide (100 ≤ 100 + (i : Int) ∧ 100 + (i : Int) < 100 + (n : Int))) = true
    rw [e2, Bool.or_true]
theorem whole_done_0 (D : ByteArray) (f : Nat → ByteArray) (n : Nat) (hn : n ≤ 20) : spareE (markF (wholeF D f n) n) ((wholeF D f n).map Prod.fst) = (0, 0) :=
  spare_all _ (fun _ ht => asked_mark (whole_0 D f n hn) (wholeF_tag ht))
theorem whole_done_1 (D : ByteArray) (f : Nat → ByteArray) (n : Nat) (hn : n ≤ 20) (m : Int) (h1 : 500 ≤ m) (h2 : m ≤ 999) : spareE (markF (wholeF D f n ++ [(m, tY)]) n) ((wholeF D f n ++ [(m, tY)]).map Prod.fst) = (m, 113) := by
  have W := whole_1 D f n hn m h1 h2
  rw [List.map_append]
  refine spare_last ?_ _ (fun _ ht => asked_mark W (wholeF_tag ht))
  unfold askedB markF
  have := lookF_mem W.nodup (p := (m, tY)) (List.mem_append.2 (.inr (by simp)))
  dsimp only at this
  rw [this]
  have e0 : (m == 35) = false := beq_false_of_ne (by omega)
  have e1 : (m == 400) = false := beq_false_of_ne (by omega)
  have e2 : decide (100 ≤ m ∧ m < 100 + (n : Int)) = false := decide_eq_false (by omega)
  show ((m == 35) || (m == 400) || decide (100 ≤ m ∧ m < 100 + (n : Int))) = false
  rw [e0, e1, e2]
  rfl
/-- The whole body's fields with one more. -/
def wholeM (D : ByteArray) (f : Nat → ByteArray) (n : Nat) (m : Int) : List Fd := wholeF D f n ++ [(m, tY)]
theorem whole_M (D : ByteArray) (f : Nat → ByteArray) (n : Nat) (hn : n ≤ 20) (m : Int) (h1 : 500 ≤ m) (h2 : m ≤ 999) : Whole (wholeM D f n m) D f n := whole_1 D f n hn m h1 h2
theorem whole_done_M (D : ByteArray) (f : Nat → ByteArray) (n : Nat) (hn : n ≤ 20) (m : Int) (h1 : 500 ≤ m) (h2 : m ≤ 999) : spareE (markF (wholeM D f n m) n) ((wholeM D f n m).map Prod.fst) = (m, 113) := whole_done_1 D f n hn m h1 h2
theorem wholeM_len (D : ByteArray) (f : Nat → ByteArray) (n : Nat) (m : Int) : (wholeM D f n m).length = n + 3 := by rw [wholeM, List.length_append, wholeF_len]; rfl
theorem cat_len : ∀ {L : List Fd}, AllOk L → (cat L).length ≤ 600 * L.length
  | [], _ => by simp [cat]
  | f :: r, h => by
    obtain ⟨h1, h2⟩ := AllOk.cons.1 h
    have ih := cat_len h2
    obtain ⟨a1, a2, a3, a4⟩ := formE_ok (ok_form h1)
    have hd := digits_short 4 f.1.toNat (by omega)
    have hv : f.2.data.toList.length ≤ 512 := a3.2.1
    rw [cat, List.length_append, a4, List.length_cons]
    simp only [List.length_append, List.length_cons, List.length_nil]
    omega
end Go.Proofs.YtdbkoflejimibaaGreatDoor
/-
  Names, numbers and lists of numbers as fields' values: they may be values, and are read as what they were (plain).
-/
namespace Go.Proofs.YtdbkoflejimibaaGreatDoor
open Go.Lib

theorem runes_list (s : ByteArray) : ∀ (b i : Nat), s.size ≤ i + b → runesOf s b i = runesL (s.data.toList.drop i)
  | 0, i, h => by
    rw [runesOf, List.drop_eq_nil_of_le (by rw [← size_eq]; omega), runesL_nil]
  | b + 1, i, h => by
    rw [runesOf]
    by_cases hi : i < s.size
    · have hne : s.data.toList.drop i ≠ [] := drop_ne (by rw [← size_eq]; exact hi)
      have hd := decodeL_drop s i
      have hw := width_pos s i hi
      rw [if_pos hi, runesL_step hne, hd, List.drop_drop, runes_list s b _ (by omega)]
    · rw [if_neg hi, List.drop_eq_nil_of_le (by rw [← size_eq]; omega), runesL_nil]
theorem runes_eq (s : ByteArray) : runes s = runesL s.data.toList := by
  have := runes_list s s.size 0 (by omega)
  rw [List.drop_zero] at this
  exact this
theorem bytes_runes : ∀ l : List UInt8, l.length ≤ 4 * (runesL l).length := by
  refine byRunes (by simp) ?_
  intro l hne ih
  rw [runesL_step hne, List.length_cons]
  have hd := decodeL_drop (mk l) 0
  rw [mk_list, List.drop_zero] at hd
  have h4 := width_four (mk l) 0
  rw [← hd] at h4
  rw [List.length_drop] at ih
  omega
/-- A name may be a value. -/
theorem name_val {s : ByteArray} (h : vldB s = true) : ValOk s.data.toList := by
  have hn := vld_size h
  unfold vldB goodB at h
  rw [runes_eq, Bool.and_eq_true, decide_eq_true_eq, List.all_eq_true] at h
  obtain ⟨⟨h1, h2⟩, h3⟩ := h
  have hb := bytes_runes s.data.toList
  refine ⟨by rw [← size_eq]; omega, by omega, fun c hc => ?_⟩
  have := h3 c hc
  unfold barB at this
  unfold mayB
  simp at this
  simp
  omega
theorem ascii_may : ∀ l : List UInt8, (∀ c ∈ l, 31 < c.toNat ∧ c.toNat < 127) → AllMay l
  | [], _ => AllMay.nil
  | c :: l, h => by
    have hc := h c (by simp)
    rw [AllMay.step (by simp), decode_one c l (by omega)]
    refine ⟨?_, ?_⟩
    · unfold mayB
      simp
      omega
    · exact ascii_may l (fun d hd => h d (by simp [hd]))
theorem digits_val {n : Nat} (h : n ≤ 9223372036854775807) : ValOk (decDigits n) := by
  have h1 := digits_pos n
  have h2 := digits_short 18 n (by omega)
  exact ⟨h1, by omega, ascii_may _ (fun c hc => by have := dec_digits n c hc; omega)⟩
/-- A number as a text. -/
def numT (n : Int) : ByteArray := mk (decDigits n.toNat)
theorem numT_val {n : Int} (h2 : n ≤ 9223372036854775807) : ValOk (numT n).data.toList := by
  unfold numT
  rw [mk_list]
  exact digits_val (by omega)
theorem numT_read {n low high : Int} (h0 : 0 ≤ n) (h2 : n ≤ 9223372036854775807) (h : low ≤ n ∧ n ≤ high) : intVE (numT n) low high = (n.toNat, 0) := by
  unfold intVE numT
  rw [mk_list, num_dec (by omega), if_pos rfl, if_pos (by dsimp only; omega)]
/-- What is read as a number from low to high is a number's digits. -/
theorem int_back {s : ByteArray} {low high : Int} (h : (intVE s low high).2 = 0) : low ≤ ((intVE s low high).1 : Int) ∧ ((intVE s low high).1 : Int) ≤ high ∧ (intVE s low high).1 ≤ 9223372036854775807 := by
  unfold intVE at *
  by_cases h0 : (numE s.data.toList).2 = 0
  · rw [if_pos h0] at h ⊢
    by_cases hr : low ≤ ((numE s.data.toList).1 : Int) ∧ ((numE s.data.toList).1 : Int) ≤ high
    · rw [if_pos hr]
      exact ⟨hr.1, hr.2, numE_le _⟩
    · rw [if_neg hr] at h
      simp at h
  · rw [if_neg h0] at h
    simp at h
/-- A field that may be has a form. -/
theorem form_val {t : Int} {v : ByteArray} (h1 : 1 ≤ t) (h2 : t ≤ 99999) (hv : ValOk v.data.toList) : (formE (t, v)).2 = 0 := by
  unfold formE
  dsimp only
  rw [if_neg (by omega), if_neg (by rw [valB_true.2 hv]; simp)]
/-- A form in which the tags of a list count as asked for. -/
def markAll (L : Int → Option (ByteArray × Bool)) (ts : List Int) (t : Int) : Option (ByteArray × Bool) := match L t with
  | some (v, b) => some (v, b || ts.contains t)
  | none => none
theorem markAll_nil (L : Int → Option (ByteArray × Bool)) : markAll L [] = L := by
  funext t
  unfold markAll
  cases L t with
  | none => rfl
  | some p => simp
theorem markAll_at {L : Int → Option (ByteArray × Bool)} {ts : List Int} {t : Int} {s : ByteArray} {b : Bool} (h : L t = some (s, b)) : markAll L ts t = some (s, b || ts.contains t) := by
  unfold markAll
  rw [h]
theorem markAll_none {L : Int → Option (ByteArray × Bool)} {ts : List Int} {t : Int} (h : L t = none) : markAll L ts t = none := by
  unfold markAll
  rw [h]
theorem markAll_more {L : Int → Option (ByteArray × Bool)} {ts : List Int} {t : Int} {s : ByteArray} {b : Bool} (h : L t = some (s, b)) : updI (markAll L ts) t (s, true) = markAll L (ts ++ [t]) := by
  funext u
  by_cases e : u = t
  · subst e
    rw [updI_same, markAll_at h]
    simp
  · rw [updI_other _ _ e]
    unfold markAll
    cases L u with
    | none => rfl
    | some p =>
      have : (ts ++ [t]).contains u = ts.contains u := by
        simp [e]
      rw [this]
/-- An ask that has no error behind it had none ahead, and the field is there and right. -/
theorem ask_ok {L : Int → Option (ByteArray × Bool)} {at_ e t : Int} {err : ByteArray → Int} (h : (askS L at_ e t err).2.2 = 0) : e = 0 ∧ ∃ s b, L t = some (s, b) ∧ err s = 0 ∧ askS L at_ e t err = (updI L t (s, true), at_, 0) := by
  by_cases he : e = 0
  · subst he
    refine ⟨rfl, ?_⟩
    cases hL : L t with
    | none =>
      rw [askS_miss err hL] at h
      simp at h
    | some p =>
      obtain ⟨s, b⟩ := p
      by_cases hs : err s = 0
      · exact ⟨s, b, rfl, hs, askS_good hL hs⟩
      · rw [askS_bad hL hs] at h
        exact absurd h hs
  · rw [askS_err err he] at h
    exact absurd h he
end Go.Proofs.YtdbkoflejimibaaGreatDoor
/-
  A form asked for one field after another: what it comes to, whether an error comes (plain).
-/
namespace Go.Proofs.YtdbkoflejimibaaGreatDoor
open Go.Lib

/-- What a field is asked for as: the error of each text. -/
structure Want where
  err : ByteArray → Int
abbrev Want.name : Want := ⟨nameVE⟩
abbrev Want.int (low high : Int) : Want := ⟨fun s => (intVE s low high).2⟩
/-- A form's fields, the first error's tag, the first error. -/
abbrev StP := (Int → Option (ByteArray × Bool)) × Int × Int
/-- The form behind one ask. -/
def stepW (st : StP) (p : Int × Want) : StP := askS st.1 st.2.1 st.2.2 p.1 p.2.err
/-- The form behind many. -/
def runS (st : StP) (ws : List (Int × Want)) : StP := ws.foldl stepW st
theorem runS_nil (st : StP) : runS st [] = st := rfl
theorem runS_cons (st : StP) (p : Int × Want) (ws : List (Int × Want)) : runS st (p :: ws) = runS (stepW st p) ws := rfl
theorem runS_append (st : StP) (a b : List (Int × Want)) : runS st (a ++ b) = runS (runS st a) b := by unfold runS; rw [List.foldl_append]
/-- A field is there and is what it is asked for as. -/
def Fits (L : Int → Option (ByteArray × Bool)) (p : Int × Want) : Prop := ∃ s b, L p.1 = some (s, b) ∧ p.2.err s = 0
theorem step_fits {L : Int → Option (ByteArray × Bool)} {ts : List Int} {at_ : Int} {p : Int × Want} (h : Fits L p) : stepW (markAll L ts, at_, 0) p = (markAll L (ts ++ [p.1]), at_, 0) := by
  obtain ⟨s, b, h1, h2⟩ := h
  unfold stepW
  dsimp only
  rw [askS_good (markAll_at h1) h2, markAll_more h1]
theorem runS_good {L : Int → Option (ByteArray × Bool)} {at_ : Int} : ∀ (ws : List (Int × Want)) (ts : List Int), (∀ p ∈ ws, Fits L p) → runS (markAll L ts, at_, 0) ws = (markAll L (ts ++ ws.map Prod.fst), at_, 0)
  | [], ts, _ => by simp [runS_nil]
  | p :: ws, ts, h => by
    rw [runS_cons, step_fits (h p (by simp)), runS_good ws _ (fun q hq => h q (by simp [hq]))]
    simp
theorem step_err {st : StP} {p : Int × Want} (h : st.2.2 ≠ 0) : stepW st p = st := by
  unfold stepW
  rw [askS_err _ h]
theorem runS_err {st : StP} (h : st.2.2 ≠ 0) : ∀ ws : List (Int × Want), runS st ws = st
  | [] => rfl
  | p :: ws => by rw [runS_cons, step_err h, runS_err h ws]
theorem step_ok {L : Int → Option (ByteArray × Bool)} {ts : List Int} {at_ : Int} {p : Int × Want} (h : (stepW (markAll L ts, at_, 0) p).2.2 = 0) : Fits L p := by
  obtain ⟨_, s, b, h1, h2, _⟩ := ask_ok h
  dsimp only at h1
  cases hL : L p.1 with
  | none =>
    rw [markAll_none hL] at h1
    simp at h1
  | some q =>
    obtain ⟨s', b'⟩ := q
    rw [markAll_at hL] at h1
    simp only [Option.some.injEq, Prod.mk.injEq] at h1
    exact ⟨s', b', hL, by rw [h1.1]; exact h2⟩
theorem runS_ok {L : Int → Option (ByteArray × Bool)} {at_ : Int} : ∀ (ws : List (Int × Want)) (ts : List Int), (runS (markAll L ts, at_, 0) ws).2.2 = 0 → ∀ p ∈ ws, Fits L p
  | [], _, _ => fun p hp => by simp at hp
  | p :: ws, ts, h => by
    rw [runS_cons] at h
    by_cases he : (stepW (markAll L ts, at_, 0) p).2.2 = 0
    · have hf := step_ok he
      rw [step_fits hf] at h
      intro q hq
      rcases List.mem_cons.1 hq with rfl | hq
      · exact hf
      · exact runS_ok ws _ h q hq
    · rw [runS_err he] at h
      exact absurd h he
/-- A form that is new has nothing asked for but its kind. -/
theorem runS_fresh {L : Int → Option (ByteArray × Bool)} {at_ : Int} (ws : List (Int × Want)) (h : ∀ p ∈ ws, Fits L p) : runS (L, at_, 0) ws = (markAll L (ws.map Prod.fst), at_, 0) := by
  have := runS_good (at_ := at_) ws [] h
  rw [markAll_nil] at this
  simpa using this
theorem runS_fresh_ok {L : Int → Option (ByteArray × Bool)} {at_ : Int} (ws : List (Int × Want)) (h : (runS (L, at_, 0) ws).2.2 = 0) : ∀ p ∈ ws, Fits L p := by
  have := runS_ok (L := L) (at_ := at_) ws []
  rw [markAll_nil] at this
  exact this h
/-- What an ask tells, where all ahead of it was right. -/
theorem told_fits {α : Type} {L : Int → Option (ByteArray × Bool)} {ts : List Int} {t : Int} {err : ByteArray → Int} {val : ByteArray → α} {zero : α} {s : ByteArray} {b : Bool} (h : L t = some (s, b)) (hs : err s = 0) : askV (markAll L ts) 0 t err val zero = val s := askV_good (markAll_at h) hs
/-- What Done tells of a form that has no error. -/
theorem spare_cases (L : Int → Option (ByteArray × Bool)) : ∀ tags : List Int, (spareE L tags = (0, 0) ∧ ∀ t ∈ tags, askedB L t = true) ∨ (spareE L tags).2 = 113
  | [] => .inl ⟨rfl, fun t h => by simp at h⟩
  | t :: r => by
    rw [spareE]
    by_cases h : askedB L t = true
    · rw [if_pos h]
      rcases spare_cases L r with ⟨h1, h2⟩ | h1
      · refine .inl ⟨h1, fun u hu => ?_⟩
        rcases List.mem_cons.1 hu with rfl | hu
        · exact h
        · exact h2 u hu
      · exact .inr h1
    · rw [if_neg h]
      exact .inr rfl
theorem asked_all {l : List Fd} (hn : (l.map Prod.fst).Nodup) {ts : List Int} {t : Int} (ht : t ∈ l.map Prod.fst) : askedB (markAll (lookF l) ts) t = ((t == 35) || ts.contains t) := by
  obtain ⟨p, hp, rfl⟩ := List.mem_map.1 ht
  have := lookF_mem hn hp
  unfold askedB
  rw [markAll_at this]
/-- A body whose fields are those of the list of asks and its kind, has none too much. -/
theorem done_all {l : List Fd} (hn : (l.map Prod.fst).Nodup) {ts : List Int} (h : ∀ t ∈ l.map Prod.fst, t = 35 ∨ t ∈ ts) : spareE (markAll (lookF l) ts) (l.map Prod.fst) = (0, 0) := by
  refine spare_all _ (fun t ht => ?_)
  rw [asked_all hn ht]
  rcases h t ht with rfl | h
  · simp
  · simp [h]
theorem done_back {l : List Fd} (hn : (l.map Prod.fst).Nodup) {ts : List Int} (h : (spareE (markAll (lookF l) ts) (l.map Prod.fst)).2 = 0) : ∀ t ∈ l.map Prod.fst, t = 35 ∨ t ∈ ts := by
  intro t ht
  rcases spare_cases (markAll (lookF l) ts) (l.map Prod.fst) with ⟨_, h2⟩ | h2
  · have := h2 t ht
    rw [asked_all hn ht] at this
    simpa using this
  · rw [h2] at h
    simp at h
/-- A field that lies in a list fits, if its text does. -/
theorem fits_mem {l : List Fd} (hn : (l.map Prod.fst).Nodup) {t : Int} {v : ByteArray} (h : (t, v) ∈ l) {w : Want} (hv : w.err v = 0) : Fits (lookF l) (t, w) := ⟨v, _, lookF_mem hn h, hv⟩
end Go.Proofs.YtdbkoflejimibaaGreatDoor
