/-
  A body of which every field is asked for: which fields count as asked for on the way (plain).
-/
import Derived.Test.YtepkmbpadhfbmaaGreatDoorGD
import Derived.Test.YtepkmbpadhfbmaaGreatDoorGB
namespace Go.Proofs.YtepkmbpadhfbmaaGreatDoor
open Go.Lib

abbrev tX : ByteArray := ⟨#[120]⟩
abbrev tY : ByteArray := ⟨#[121]⟩
/-- The names' fields. -/
def namesF (f : Nat → ByteArray) : Nat → List Fd
  | 0 => []
  | n + 1 => namesF f n ++ [(100 + (n : Int), f n)]
theorem namesF_len (f : Nat → ByteArray) : ∀ n, (namesF f n).length = n
  | 0 => rfl
  | n + 1 => by rw [namesF, List.length_append, namesF_len f n]; rfl
theorem namesF_mem (f : Nat → ByteArray) : ∀ (n : Nat) (p : Fd), p ∈ namesF f n ↔ ∃ i, i < n ∧ p = (100 + (i : Int), f i)
  | 0, p => by simp [namesF]
  | n + 1, p => by
    rw [namesF, List.mem_append, namesF_mem f n, List.mem_singleton]
    constructor
    · rintro (⟨i, hi, e⟩ | e)
      · exact ⟨i, by omega, e⟩
      · exact ⟨n, by omega, e⟩
    · rintro ⟨i, hi, e⟩
      by_cases h : i = n
      · subst h; exact .inr e
      · exact .inl ⟨i, by omega, e⟩
theorem namesF_nodup (f : Nat → ByteArray) : ∀ n, ((namesF f n).map Prod.fst).Nodup
  | 0 => by simp [namesF]
  | n + 1 => by
    rw [namesF, List.map_append, List.nodup_append]
    refine ⟨namesF_nodup f n, by simp, ?_⟩
    intro a ha b hb e
    obtain ⟨p, hp, rfl⟩ := List.mem_map.1 ha
    obtain ⟨i, hi, rfl⟩ := (namesF_mem f n p).1 hp
    simp at hb
    subst hb
    simp at e
    omega
/-- The whole body's fields. -/
def wholeF (D : ByteArray) (f : Nat → ByteArray) (n : Nat) : List Fd := (35, tX) :: (400, D) :: namesF f n
theorem wholeF_len (D : ByteArray) (f : Nat → ByteArray) (n : Nat) : (wholeF D f n).length = n + 2 := by simp [wholeF, namesF_len]
theorem wholeF_more (D : ByteArray) (f : Nat → ByteArray) (n : Nat) : wholeF D f (n + 1) = wholeF D f n ++ [(100 + (n : Int), f n)] := rfl
theorem wholeF_tag {D : ByteArray} {f : Nat → ByteArray} {n : Nat} {t : Int} (h : t ∈ (wholeF D f n).map Prod.fst) : t = 35 ∨ t = 400 ∨ ∃ i : Nat, i < n ∧ t = 100 + (i : Int) := by
  unfold wholeF at h
  simp only [List.map_cons, List.mem_cons] at h
  rcases h with h | h | h
  · exact .inl h
  · exact .inr (.inl h)
  · obtain ⟨p, hp, rfl⟩ := List.mem_map.1 h
    obtain ⟨i, hi, rfl⟩ := (namesF_mem f n p).1 hp
    exact .inr (.inr ⟨i, hi, rfl⟩)
theorem wholeF_nodup {D : ByteArray} {f : Nat → ByteArray} {n : Nat} (hn : n ≤ 20) : ((wholeF D f n).map Prod.fst).Nodup := by
  have no : ∀ t : Int, t ∈ (namesF f n).map Prod.fst → 100 ≤ t ∧ t < 120 := by
    intro t ht
    obtain ⟨p, hp, rfl⟩ := List.mem_map.1 ht
    obtain ⟨i, hi, rfl⟩ := (namesF_mem f n p).1 hp
    dsimp only
    omega
  unfold wholeF
  simp only [List.map_cons, List.nodup_cons, List.mem_cons, not_or]
  refine ⟨⟨by decide, fun h => ?_⟩, fun h => ?_, namesF_nodup f n⟩
  · have := no _ h; omega
  · have := no _ h; omega
theorem lookF_mem {l : List Fd} (h : (l.map Prod.fst).Nodup) {p : Fd} (hp : p ∈ l) : lookF l p.1 = some (p.2, p.1 == 35) := by
  induction l with
  | nil => simp at hp
  | cons q r ih =>
    rw [List.map_cons, List.nodup_cons] at h
    unfold lookF
    rw [List.find?_cons]
    rcases List.mem_cons.1 hp with rfl | hp
    · simp
    · have hne : (q.1 == p.1) = false := beq_false_of_ne (fun e => h.1 (by rw [e]; exact List.mem_map.2 ⟨p, hp, rfl⟩))
      rw [hne]
      have := ih h.2 hp
      unfold lookF at this
      exact this
/-- A body's fields in which all that is wanted lies. -/
structure Whole (l : List Fd) (D : ByteArray) (f : Nat → ByteArray) (n : Nat) : Prop where
  nodup : (l.map Prod.fst).Nodup
  range : ∀ p ∈ l, 1 ≤ p.1 ∧ p.1 ≤ 999
  head : ∃ r, l = (35, tX) :: r
  num : (400, D) ∈ l
  names : ∀ i, i < n → (100 + (i : Int), f i) ∈ l
theorem whole_0 (D : ByteArray) (f : Nat → ByteArray) (n : Nat) (hn : n ≤ 20) : Whole (wholeF D f n) D f n where
  nodup := wholeF_nodup hn
  range := fun p hp => by
    have := wholeF_tag (D := D) (f := f) (n := n) (t := p.1) (List.mem_map.2 ⟨p, hp, rfl⟩)
    rcases this with h | h | ⟨i, hi, h⟩ <;> rw [h] <;> omega
  head := ⟨_, rfl⟩
  num := by unfold wholeF; simp
  names := fun i hi => by unfold wholeF; simp only [List.mem_cons]; exact .inr (.inr ((namesF_mem f n _).2 ⟨i, hi, rfl⟩))
theorem whole_1 (D : ByteArray) (f : Nat → ByteArray) (n : Nat) (hn : n ≤ 20) (m : Int) (h1 : 500 ≤ m) (h2 : m ≤ 999) : Whole (wholeF D f n ++ [(m, tY)]) D f n where
  nodup := by
    rw [List.map_append, List.nodup_append]
    refine ⟨wholeF_nodup hn, by simp, ?_⟩
    intro a ha b hb e
    simp at hb
    subst hb
    rcases wholeF_tag ha with h | h | ⟨i, hi, h⟩ <;> omega
  range := fun p hp => by
    rcases List.mem_append.1 hp with h | h
    · exact (whole_0 D f n hn).range p h
    · simp at h
      subst h
      exact ⟨by show (1 : Int) ≤ m; omega, by show m ≤ 999; omega⟩
  head := ⟨_, rfl⟩
  num := List.mem_append.2 (.inl (whole_0 D f n hn).num)
  names := fun i hi => List.mem_append.2 (.inl ((whole_0 D f n hn).names i hi))
/-- The form once the number and j names were asked for. -/
def markF (l : List Fd) (j : Nat) (t : Int) : Option (ByteArray × Bool) := match lookF l t with
  | some (v, b) => some (v, b || (t == 400) || decide (100 ≤ t ∧ t < 100 + (j : Int)))
  | none => none
theorem mark_0 {l : List Fd} {D : ByteArray} (h : lookF l 400 = some (D, false)) : updI (lookF l) 400 (D, true) = markF l 0 := by
  funext t
  unfold markF
  by_cases e : t = 400
  · subst e
    rw [updI_same, h]
    rfl
  · rw [updI_other _ _ e]
    cases lookF l t with
    | none => rfl
    | some p =>
      have e1 : (t == 400) = false := beq_false_of_ne e
      have e2 : decide (100 ≤ t ∧ t < 100 + ((0 : Nat) : Int)) = false := decide_eq_false (by omega)
      show some p = some (p.1, p.2 || (t == 400) || decide (100 ≤ t ∧ t < 100 + ((0 : Nat) : Int)))
      rw [e1, e2, Bool.or_false, Bool.or_false]
theorem mark_at {l : List Fd} {j : Nat} {s : ByteArray} (hj : j < 20) (h : lookF l (100 + (j : Int)) = some (s, false)) : markF l j (100 + (j : Int)) = some (s, false) := by
  unfold markF
  rw [h]
  have e1 : ((100 + (j : Int)) == 400) = false := beq_false_of_ne (by omega)
  have e2 : decide (100 ≤ 100 + (j : Int) ∧ 100 + (j : Int) < 100 + (j : Int)) = false := decide_eq_false (by omega)
  show some (s, false || ((100 + (j : Int)) == 400) || decide (100 ≤ 100 + (j : Int) ∧ 100 + (j : Int) < 100 + (j : Int))) = _
  rw [e1, e2]
  rfl
theorem mark_step {l : List Fd} {j : Nat} {s : ByteArray} (h : lookF l (100 + (j : Int)) = some (s, false)) : updI (markF l j) (100 + (j : Int)) (s, true) = markF l (j + 1) := by
  funext t
  by_cases e : t = 100 + (j : Int)
  · subst e
    rw [updI_same]
    unfold markF
    rw [h]
    have e2 : decide (100 ≤ 100 + (j : Int) ∧ 100 + (j : Int) < 100 + ((j + 1 : Nat) : Int)) = true := decide_eq_true (by omega)
    show some (s, true) = some (s, false || ((100 + (j : Int)) == 400) || decide (100 ≤ 100 + (j : Int) ∧ 100 + (j : Int) < 100 + ((j + 1 : Nat) : Int)))
    rw [e2, Bool.or_true]
  · rw [updI_other _ _ e]
    unfold markF
    cases lookF l t with
    | none => rfl
    | some p =>
      have e2 : decide (100 ≤ t ∧ t < 100 + ((j + 1 : Nat) : Int)) = decide (100 ≤ t ∧ t < 100 + (j : Int)) := decide_eq_decide.2 (by omega)
      rw [e2]
theorem spare_all {L : Int → Option (ByteArray × Bool)} : ∀ tags : List Int, (∀ t ∈ tags, askedB L t = true) → spareE L tags = (0, 0)
  | [], _ => rfl
  | t :: r, h => by rw [spareE, if_pos (h t (by simp)), spare_all r (fun u hu => h u (by simp [hu]))]
theorem spare_last {L : Int → Option (ByteArray × Bool)} {x : Int} (hx : askedB L x = false) : ∀ tags : List Int, (∀ t ∈ tags, askedB L t = true) → spareE L (tags ++ [x]) = (x, 113)
  | [], _ => by rw [List.nil_append, spareE, if_neg (by rw [hx]; decide)]
  | t :: r, h => by rw [List.cons_append, spareE, if_pos (h t (by simp)), spare_last hx r (fun u hu => h u (by simp [hu]))]
theorem asked_mark {l : List Fd} {D : ByteArray} {f : Nat → ByteArray} {n : Nat} (W : Whole l D f n) {t : Int} (ht : t = 35 ∨ t = 400 ∨ ∃ i : Nat, i < n ∧ t = 100 + (i : Int)) : askedB (markF l n) t = true := by
  unfold askedB markF
  rcases ht with rfl | rfl | ⟨i, hi, rfl⟩
  · obtain ⟨r, hr⟩ := W.head
    have := lookF_mem W.nodup (p := (35, tX)) (by rw [hr]; simp)
    rw [this]
    rfl
  · have := lookF_mem W.nodup W.num
    rw [this]
    rfl
  · have := lookF_mem W.nodup (W.names i hi)
    dsimp only at this
    rw [this]
    have e2 : decide (100 ≤ 100 + (i : Int) ∧ 100 + (i : Int) < 100 + (n : Int)) = true := decide_eq_true (by omega)
    show (((100 + (i : Int)) == 35) || ((100 + (i : Int)) == 400) || decide (100 ≤ 100 + (i : Int) ∧ 100 + (i : Int) < 100 + (n : Int))) = true
    rw [e2, Bool.or_true]
theorem whole_done_0 (D : ByteArray) (f : Nat → ByteArray) (n : Nat) (hn : n ≤ 20) : spareE (markF (wholeF D f n) n) ((wholeF D f n).map Prod.fst) = (0, 0) :=
  spare_all _ (fun _ ht => asked_mark (whole_0 D f n hn) (wholeF_tag ht))
theorem whole_done_1 (D : ByteArray) (f : Nat → ByteArray) (n : Nat) (hn : n ≤ 20) (m : Int) (h1 : 500 ≤ m) (h2 : m ≤ 999) : spareE (markF (wholeF D f n ++ [(m, tY)]) n) ((wholeF D f n ++ [(m, tY)]).map Prod.fst) = (m, 113) := by
  have W := whole_1 D f n hn m h1 h2
  rw [List.map_append]
  refine spare_last ?_ _ (fun _ ht => asked_mark W (wholeF_tag ht))
  unfold askedB markF
  have := lookF_mem W.nodup (p := (m, tY)) (List.mem_append.2 (.inr (by simp)))
  dsimp only at this
  rw [this]
  have e0 : (m == 35) = false := beq_false_of_ne (by omega)
  have e1 : (m == 400) = false := beq_false_of_ne (by omega)
  have e2 : decide (100 ≤ m ∧ m < 100 + (n : Int)) = false := decide_eq_false (by omega)
  show ((m == 35) || (m == 400) || decide (100 ≤ m ∧ m < 100 + (n : Int))) = false
  rw [e0, e1, e2]
  rfl
/-- The whole body's fields with one more. -/
def wholeM (D : ByteArray) (f : Nat → ByteArray) (n : Nat) (m : Int) : List Fd := wholeF D f n ++ [(m, tY)]
theorem whole_M (D : ByteArray) (f : Nat → ByteArray) (n : Nat) (hn : n ≤ 20) (m : Int) (h1 : 500 ≤ m) (h2 : m ≤ 999) : Whole (wholeM D f n m) D f n := whole_1 D f n hn m h1 h2
theorem whole_done_M (D : ByteArray) (f : Nat → ByteArray) (n : Nat) (hn : n ≤ 20) (m : Int) (h1 : 500 ≤ m) (h2 : m ≤ 999) : spareE (markF (wholeM D f n m) n) ((wholeM D f n m).map Prod.fst) = (m, 113) := whole_done_1 D f n hn m h1 h2
theorem wholeM_len (D : ByteArray) (f : Nat → ByteArray) (n : Nat) (m : Int) : (wholeM D f n m).length = n + 3 := by rw [wholeM, List.length_append, wholeF_len]; rfl
theorem cat_len : ∀ {L : List Fd}, AllOk L → (cat L).length ≤ 600 * L.length
  | [], _ => by simp [cat]
  | f :: r, h => by
    obtain ⟨h1, h2⟩ := AllOk.cons.1 h
    have ih := cat_len h2
    obtain ⟨a1, a2, a3, a4⟩ := formE_ok (ok_form h1)
    have hd := digits_short 4 f.1.toNat (by omega)
    have hv : f.2.data.toList.length ≤ 512 := a3.2.1
    rw [cat, List.length_append, a4, List.length_cons]
    simp only [List.length_append, List.length_cons, List.length_nil]
    omega
end Go.Proofs.YtepkmbpadhfbmaaGreatDoor
/-
  Names, numbers and lists of numbers as fields' values: they may be values, and are read as what they were (plain).
-/
namespace Go.Proofs.YtepkmbpadhfbmaaGreatDoor
open Go.Lib

theorem runes_list (s : ByteArray) : ∀ (b i : Nat), s.size ≤ i + b → runesOf s b i = runesL (s.data.toList.drop i)
  | 0, i, h => by
    rw [runesOf, List.drop_eq_nil_of_le (by rw [← size_eq]; omega), runesL_nil]
  | b + 1, i, h => by
    rw [runesOf]
    by_cases hi : i < s.size
    · have hne : s.data.toList.drop i ≠ [] := drop_ne (by rw [← size_eq]; exact hi)
      have hd := decodeL_drop s i
      have hw := width_pos s i hi
      rw [if_pos hi, runesL_step hne, hd, List.drop_drop, runes_list s b _ (by omega)]
    · rw [if_neg hi, List.drop_eq_nil_of_le (by rw [← size_eq]; omega), runesL_nil]
theorem runes_eq (s : ByteArray) : runes s = runesL s.data.toList := by
  have := runes_list s s.size 0 (by omega)
  rw [List.drop_zero] at this
  exact this
theorem bytes_runes : ∀ l : List UInt8, l.length ≤ 4 * (runesL l).length := by
  refine byRunes (by simp) ?_
  intro l hne ih
  rw [runesL_step hne, List.length_cons]
  have hd := decodeL_drop (mk l) 0
  rw [mk_list, List.drop_zero] at hd
  have h4 := width_four (mk l) 0
  rw [← hd] at h4
  rw [List.length_drop] at ih
  omega
/-- A name may be a value. -/
theorem name_val {s : ByteArray} (h : vldB s = true) : ValOk s.data.toList := by
  have hn := vld_size h
  unfold vldB goodB at h
  rw [runes_eq, Bool.and_eq_true, decide_eq_true_eq, List.all_eq_true] at h
  obtain ⟨⟨h1, h2⟩, h3⟩ := h
  have hb := bytes_runes s.data.toList
  refine ⟨by rw [← size_eq]; omega, by omega, fun c hc => ?_⟩
  have := h3 c hc
  unfold barB at this
  unfold mayB
  simp at this
  simp
  omega
theorem ascii_may : ∀ l : List UInt8, (∀ c ∈ l, 31 < c.toNat ∧ c.toNat < 127) → AllMay l
  | [], _ => AllMay.nil
  | c :: l, h => by
    have hc := h c (by simp)
    rw [AllMay.step (by simp), decode_one c l (by omega)]
    refine ⟨?_, ?_⟩
    · unfold mayB
      simp
      omega
    · exact ascii_may l (fun d hd => h d (by simp [hd]))
theorem digits_val {n : Nat} (h : n ≤ 9223372036854775807) : ValOk (decDigits n) := by
  have h1 := digits_pos n
  have h2 := digits_short 18 n (by omega)
  exact ⟨h1, by omega, ascii_may _ (fun c hc => by have := dec_digits n c hc; omega)⟩
/-- A number as a text. -/
def numT (n : Int) : ByteArray := mk (decDigits n.toNat)
theorem numT_val {n : Int} (h2 : n ≤ 9223372036854775807) : ValOk (numT n).data.toList := by
  unfold numT
  rw [mk_list]
  exact digits_val (by omega)
theorem numT_read {n low high : Int} (h0 : 0 ≤ n) (h2 : n ≤ 9223372036854775807) (h : low ≤ n ∧ n ≤ high) : intVE (numT n) low high = (n.toNat, 0) := by
  unfold intVE numT
  rw [mk_list, num_dec (by omega), if_pos rfl, if_pos (by dsimp only; omega)]
/-- What is read as a number from low to high is a number's digits. -/
theorem int_back {s : ByteArray} {low high : Int} (h : (intVE s low high).2 = 0) : low ≤ ((intVE s low high).1 : Int) ∧ ((intVE s low high).1 : Int) ≤ high ∧ (intVE s low high).1 ≤ 9223372036854775807 := by
  unfold intVE at *
  by_cases h0 : (numE s.data.toList).2 = 0
  · rw [if_pos h0] at h ⊢
    by_cases hr : low ≤ ((numE s.data.toList).1 : Int) ∧ ((numE s.data.toList).1 : Int) ≤ high
    · rw [if_pos hr]
      exact ⟨hr.1, hr.2, numE_le _⟩
    · rw [if_neg hr] at h
      simp at h
  · rw [if_neg h0] at h
    simp at h
/-- Numbers as a text, parted by commas. -/
def listT : List Nat → List UInt8
  | [] => []
  | [x] => decDigits x
  | x :: y :: r => decDigits x ++ 44 :: listT (y :: r)
theorem no_comma (n : Nat) : ∀ c ∈ decDigits n, c ≠ 44 := fun c hc e => by
  have := dec_digits n c hc
  rw [e] at this
  simp at this
theorem listT_segs : ∀ (x : Nat) (r : List Nat), segs (listT (x :: r)) = (x :: r).map decDigits
  | x, [] => by rw [listT, segs_none _ (no_comma x)]; rfl
  | x, y :: r => by
    rw [listT, segs_at _ (decDigits x).length (by simp) (fun j hj => by
      rw [List.getElem?_append_left hj]
      intro e
      exact no_comma x _ (List.mem_of_getElem? e) rfl)]
    rw [List.take_left, show (decDigits x ++ 44 :: listT (y :: r)).drop ((decDigits x).length + 1) = listT (y :: r) by
      rw [List.drop_append, List.drop_eq_nil_of_le (by omega)]
      simp, listT_segs y r]
    rfl
theorem numsA_digits : ∀ (L acc : List Nat), (∀ n ∈ L, n ≤ 9223372036854775807) → numsA (L.map decDigits) acc = some (acc ++ L)
  | [], acc, _ => by simp [numsA]
  | x :: r, acc, h => by
    rw [List.map_cons, numsA, num_dec (h x (by simp)), if_pos rfl, numsA_digits r _ (fun n hn => h n (by simp [hn]))]
    simp
theorem listT_nums {L : List Nat} (hne : L ≠ []) (h : ∀ n ∈ L, n ≤ 9223372036854775807) : numsO (listT L) = some L := by
  cases L with
  | nil => exact absurd rfl hne
  | cons x r =>
    unfold numsO
    rw [listT_segs, numsA_digits _ _ h]
    rfl
theorem listT_read {L : List Nat} {most low high : Int} (hne : L ≠ []) (h : ∀ n ∈ L, n ≤ 9223372036854775807) (hm : (L.length : Int) ≤ most) (hr : ∀ n ∈ L, low ≤ (n : Int) ∧ (n : Int) ≤ high) : intsVE (mk (listT L)) most low high = (L, 0) := by
  unfold intsVE
  rw [mk_list, listT_nums hne h]
  dsimp only
  rw [if_neg (by omega), if_pos (rangeE_ok hr)]
theorem listT_ascii : ∀ (L : List Nat), ∀ c ∈ listT L, 31 < c.toNat ∧ c.toNat < 127
  | [], c, h => by simp [listT] at h
  | [x], c, h => by
    rw [listT] at h
    have := dec_digits x c h
    omega
  | x :: y :: r, c, h => by
    rw [listT, List.mem_append, List.mem_cons] at h
    rcases h with h | rfl | h
    · have := dec_digits x c h
      omega
    · decide
    · exact listT_ascii (y :: r) c h
theorem listT_len {d : Nat} : ∀ (L : List Nat), (∀ n ∈ L, n < 10 ^ (d + 1)) → (listT L).length + 1 ≤ (d + 2) * L.length + 1
  | [], _ => by simp [listT]
  | [x], h => by
    have := digits_short d x (h x (by simp))
    rw [listT, List.length_singleton]
    omega
  | x :: y :: r, h => by
    have h1 := digits_short d x (h x (by simp))
    have h2 := listT_len (d := d) (y :: r) (fun n hn => h n (by simp [hn]))
    rw [listT, List.length_append, List.length_cons, List.length_cons (a := x), Nat.mul_succ]
    omega
theorem listT_pos {L : List Nat} (hne : L ≠ []) : 1 ≤ (listT L).length := by
  match L, hne with
  | [x], _ => rw [listT]; exact digits_pos x
  | x :: y :: r, _ =>
    rw [listT, List.length_append, List.length_cons]
    omega
/-- A list of at most 64 numbers of at most seven digits may be a value. -/
theorem listT_val {L : List Nat} (hne : L ≠ []) (hl : L.length ≤ 64) (h : ∀ n ∈ L, n ≤ 1048576) : ValOk (listT L) := by
  have h1 := listT_len (d := 6) L (fun n hn => by have := h n hn; omega)
  exact ⟨listT_pos hne, by omega, ascii_may _ (listT_ascii L)⟩
/-- What is read as numbers. -/
theorem ints_back {s : ByteArray} {most low high : Int} (h : (intsVE s most low high).2 = 0) : ((intsVE s most low high).1.length : Int) ≤ most ∧ (∀ n ∈ (intsVE s most low high).1, low ≤ (n : Int) ∧ (n : Int) ≤ high) ∧ (intsVE s most low high).1 ≠ [] ∧ numsO s.data.toList = some (intsVE s most low high).1 := by
  unfold intsVE at *
  cases hO : numsO s.data.toList with
  | none =>
    rw [hO] at h
    simp at h
  | some out =>
    rw [hO] at h
    dsimp only at h ⊢
    by_cases hm : most < (out.length : Int)
    · rw [if_pos hm] at h
      simp at h
    · rw [if_neg hm] at h ⊢
      by_cases hr : rangeE low high out = 0
      · rw [if_pos hr]
        dsimp only
        refine ⟨by omega, ?_, ?_, rfl⟩
        · unfold rangeE at hr
          split at hr
          · assumption
          · simp at hr
        · have := numsA_len _ _ _ hO
          intro e
          rw [e] at this
          cases hs : segs s.data.toList with
          | nil =>
            rw [segs_cut] at hs
            simp at hs
          | cons a r =>
            rw [hs] at this
            simp at this
      · rw [if_neg hr] at h
        simp at h
/-- A field that may be has a form. -/
theorem form_val {t : Int} {v : ByteArray} (h1 : 1 ≤ t) (h2 : t ≤ 99999) (hv : ValOk v.data.toList) : (formE (t, v)).2 = 0 := by
  unfold formE
  dsimp only
  rw [if_neg (by omega), if_neg (by rw [valB_true.2 hv]; simp)]
/-- A form in which the tags of a list count as asked for. -/
def markAll (L : Int → Option (ByteArray × Bool)) (ts : List Int) (t : Int) : Option (ByteArray × Bool) := match L t with
  | some (v, b) => some (v, b || ts.contains t)
  | none => none
theorem markAll_nil (L : Int → Option (ByteArray × Bool)) : markAll L [] = L := by
  funext t
  unfold markAll
  cases L t with
  | none => rfl
  | some p => simp
theorem markAll_at {L : Int → Option (ByteArray × Bool)} {ts : List Int} {t : Int} {s : ByteArray} {b : Bool} (h : L t = some (s, b)) : markAll L ts t = some (s, b || ts.contains t) := by
  unfold markAll
  rw [h]
theorem markAll_none {L : Int → Option (ByteArray × Bool)} {ts : List Int} {t : Int} (h : L t = none) : markAll L ts t = none := by
  unfold markAll
  rw [h]
theorem markAll_more {L : Int → Option (ByteArray × Bool)} {ts : List Int} {t : Int} {s : ByteArray} {b : Bool} (h : L t = some (s, b)) : updI (markAll L ts) t (s, true) = markAll L (ts ++ [t]) := by
  funext u
  by_cases e : u = t
  · subst e
    rw [updI_same, markAll_at h]
    simp
  · rw [updI_other _ _ e]
    unfold markAll
    cases L u with
    | none => rfl
    | some p =>
      have : (ts ++ [t]).contains u = ts.contains u := by
        simp [e]
      rw [this]
/-- An ask that has no error behind it had none ahead, and the field is there and right. -/
theorem ask_ok {L : Int → Option (ByteArray × Bool)} {at_ e t : Int} {err : ByteArray → Int} (h : (askS L at_ e t err).2.2 = 0) : e = 0 ∧ ∃ s b, L t = some (s, b) ∧ err s = 0 ∧ askS L at_ e t err = (updI L t (s, true), at_, 0) := by
  by_cases he : e = 0
  · subst he
    refine ⟨rfl, ?_⟩
    cases hL : L t with
    | none =>
      rw [askS_miss err hL] at h
      simp at h
    | some p =>
      obtain ⟨s, b⟩ := p
      by_cases hs : err s = 0
      · exact ⟨s, b, rfl, hs, askS_good hL hs⟩
      · rw [askS_bad hL hs] at h
        exact absurd h hs
  · rw [askS_err err he] at h
    exact absurd h he
end Go.Proofs.YtepkmbpadhfbmaaGreatDoor
/-
  A form asked for one field after another: what it comes to, whether an error comes (plain).
-/
namespace Go.Proofs.YtepkmbpadhfbmaaGreatDoor
open Go.Lib

/-- What a field is asked for as: the error of each text. -/
structure Want where
  err : ByteArray → Int
abbrev Want.name : Want := ⟨nameVE⟩
abbrev Want.int (low high : Int) : Want := ⟨fun s => (intVE s low high).2⟩
abbrev Want.ints (most low high : Int) : Want := ⟨fun s => (intsVE s most low high).2⟩
/-- A form's fields, the first error's tag, the first error. -/
abbrev StP := (Int → Option (ByteArray × Bool)) × Int × Int
/-- The form behind one ask. -/
def stepW (st : StP) (p : Int × Want) : StP := askS st.1 st.2.1 st.2.2 p.1 p.2.err
/-- The form behind many. -/
def runS (st : StP) (ws : List (Int × Want)) : StP := ws.foldl stepW st
theorem runS_nil (st : StP) : runS st [] = st := rfl
theorem runS_cons (st : StP) (p : Int × Want) (ws : List (Int × Want)) : runS st (p :: ws) = runS (stepW st p) ws := rfl
theorem runS_append (st : StP) (a b : List (Int × Want)) : runS st (a ++ b) = runS (runS st a) b := by unfold runS; rw [List.foldl_append]
/-- A field is there and is what it is asked for as. -/
def Fits (L : Int → Option (ByteArray × Bool)) (p : Int × Want) : Prop := ∃ s b, L p.1 = some (s, b) ∧ p.2.err s = 0
theorem step_fits {L : Int → Option (ByteArray × Bool)} {ts : List Int} {at_ : Int} {p : Int × Want} (h : Fits L p) : stepW (markAll L ts, at_, 0) p = (markAll L (ts ++ [p.1]), at_, 0) := by
  obtain ⟨s, b, h1, h2⟩ := h
  unfold stepW
  dsimp only
  rw [askS_good (markAll_at h1) h2, markAll_more h1]
theorem runS_good {L : Int → Option (ByteArray × Bool)} {at_ : Int} : ∀ (ws : List (Int × Want)) (ts : List Int), (∀ p ∈ ws, Fits L p) → runS (markAll L ts, at_, 0) ws = (markAll L (ts ++ ws.map Prod.fst), at_, 0)
  | [], ts, _ => by simp [runS_nil]
  | p :: ws, ts, h => by
    rw [runS_cons, step_fits (h p (by simp)), runS_good ws _ (fun q hq => h q (by simp [hq]))]
    simp
theorem step_err {st : StP} {p : Int × Want} (h : st.2.2 ≠ 0) : stepW st p = st := by
  unfold stepW
  rw [askS_err _ h]
theorem runS_err {st : StP} (h : st.2.2 ≠ 0) : ∀ ws : List (Int × Want), runS st ws = st
  | [] => rfl
  | p :: ws => by rw [runS_cons, step_err h, runS_err h ws]
theorem step_ok {L : Int → Option (ByteArray × Bool)} {ts : List Int} {at_ : Int} {p : Int × Want} (h : (stepW (markAll L ts, at_, 0) p).2.2 = 0) : Fits L p := by
  obtain ⟨_, s, b, h1, h2, _⟩ := ask_ok h
  dsimp only at h1
  cases hL : L p.1 with
  | none =>
    rw [markAll_none hL] at h1
    simp at h1
  | some q =>
    obtain ⟨s', b'⟩ := q
    rw [markAll_at hL] at h1
    simp only [Option.some.injEq, Prod.mk.injEq] at h1
    exact ⟨s', b', hL, by rw [h1.1]; exact h2⟩
theorem runS_ok {L : Int → Option (ByteArray × Bool)} {at_ : Int} : ∀ (ws : List (Int × Want)) (ts : List Int), (runS (markAll L ts, at_, 0) ws).2.2 = 0 → ∀ p ∈ ws, Fits L p
  | [], _, _ => fun p hp => by simp at hp
  | p :: ws, ts, h => by
    rw [runS_cons] at h
    by_cases he : (stepW (markAll L ts, at_, 0) p).2.2 = 0
    · have hf := step_ok he
      rw [step_fits hf] at h
      intro q hq
      rcases List.mem_cons.1 hq with rfl | hq
      · exact hf
      · exact runS_ok ws _ h q hq
    · rw [runS_err he] at h
      exact absurd h he
/-- A form that is new has nothing asked for but its kind. -/
theorem runS_fresh {L : Int → Option (ByteArray × Bool)} {at_ : Int} (ws : List (Int × Want)) (h : ∀ p ∈ ws, Fits L p) : runS (L, at_, 0) ws = (markAll L (ws.map Prod.fst), at_, 0) := by
  have := runS_good (at_ := at_) ws [] h
  rw [markAll_nil] at this
  simpa using this
theorem runS_fresh_ok {L : Int → Option (ByteArray × Bool)} {at_ : Int} (ws : List (Int × Want)) (h : (runS (L, at_, 0) ws).2.2 = 0) : ∀ p ∈ ws, Fits L p := by
  have := runS_ok (L := L) (at_ := at_) ws []
  rw [markAll_nil] at this
  exact this h
/-- What an ask tells, where all ahead of it was right. -/
theorem told_fits {α : Type} {L : Int → Option (ByteArray × Bool)} {ts : List Int} {t : Int} {err : ByteArray → Int} {val : ByteArray → α} {zero : α} {s : ByteArray} {b : Bool} (h : L t = some (s, b)) (hs : err s = 0) : askV (markAll L ts) 0 t err val zero = val s := askV_good (markAll_at h) hs
/-- What Done tells of a form that has no error. -/
theorem spare_cases (L : Int → Option (ByteArray × Bool)) : ∀ tags : List Int, (spareE L tags = (0, 0) ∧ ∀ t ∈ tags, askedB L t = true) ∨ (spareE L tags).2 = 113
  | [] => .inl ⟨rfl, fun t h => by simp at h⟩
  | t :: r => by
    rw [spareE]
    by_cases h : askedB L t = true
    · rw [if_pos h]
      rcases spare_cases L r with ⟨h1, h2⟩ | h1
      · refine .inl ⟨h1, fun u hu => ?_⟩
        rcases List.mem_cons.1 hu with rfl | hu
        · exact h
        · exact h2 u hu
      · exact .inr h1
    · rw [if_neg h]
      exact .inr rfl
theorem asked_all {l : List Fd} (hn : (l.map Prod.fst).Nodup) {ts : List Int} {t : Int} (ht : t ∈ l.map Prod.fst) : askedB (markAll (lookF l) ts) t = ((t == 35) || ts.contains t) := by
  obtain ⟨p, hp, rfl⟩ := List.mem_map.1 ht
  have := lookF_mem hn hp
  unfold askedB
  rw [markAll_at this]
/-- A body whose fields are those of the list of asks and its kind, has none too much. -/
theorem done_all {l : List Fd} (hn : (l.map Prod.fst).Nodup) {ts : List Int} (h : ∀ t ∈ l.map Prod.fst, t = 35 ∨ t ∈ ts) : spareE (markAll (lookF l) ts) (l.map Prod.fst) = (0, 0) := by
  refine spare_all _ (fun t ht => ?_)
  rw [asked_all hn ht]
  rcases h t ht with rfl | h
  · simp
  · simp [h]
theorem done_back {l : List Fd} (hn : (l.map Prod.fst).Nodup) {ts : List Int} (h : (spareE (markAll (lookF l) ts) (l.map Prod.fst)).2 = 0) : ∀ t ∈ l.map Prod.fst, t = 35 ∨ t ∈ ts := by
  intro t ht
  rcases spare_cases (markAll (lookF l) ts) (l.map Prod.fst) with ⟨_, h2⟩ | h2
  · have := h2 t ht
    rw [asked_all hn ht] at this
    simpa using this
  · rw [h2] at h
    simp at h
/-- A field that lies in a list fits, if its text does. -/
theorem fits_mem {l : List Fd} (hn : (l.map Prod.fst).Nodup) {t : Int} {v : ByteArray} (h : (t, v) ∈ l) {w : Want} (hv : w.err v = 0) : Fits (lookF l) (t, w) := ⟨v, _, lookF_mem hn h, hv⟩
end Go.Proofs.YtepkmbpadhfbmaaGreatDoor
/-
  Asks, their fields, how they are read again (plain).
-/
namespace Go.Proofs.YtepkmbpadhfbmaaGreatDoor
open Go.Lib

abbrev noText : ByteArray := ⟨#[]⟩
/-- An ask. -/
structure AskP where
  kind : Int
  id : ByteArray
  target : ByteArray
  account : ByteArray
  symbol : ByteArray
  side : Int
  qty : Int
  price : Int
  algo : Int
  start : Int
  stop : Int
  rate : Int
  shown : Int
  curve : List Nat
/-- A kind's word. -/
def wordT (k : Int) : ByteArray := if k = 1 then ⟨#[68]⟩ else if k = 2 then ⟨#[70]⟩ else if k = 3 then ⟨#[71]⟩ else if k = 4 then ⟨#[85, 80]⟩ else ⟨#[85, 82]⟩
/-- The kind that a word says, or 0. -/
def kindOf (w : ByteArray) : Int := if w = ⟨#[68]⟩ then 1 else if w = ⟨#[70]⟩ then 2 else if w = ⟨#[71]⟩ then 3 else if w = ⟨#[85, 80]⟩ then 4 else if w = ⟨#[85, 82]⟩ then 5 else 0
theorem kind_word {k : Int} (h1 : 1 ≤ k) (h2 : k ≤ 5) : kindOf (wordT k) = k := by
  have : k = 1 ∨ k = 2 ∨ k = 3 ∨ k = 4 ∨ k = 5 := by omega
  rcases this with rfl | rfl | rfl | rfl | rfl <;> decide
theorem kind_range (w : ByteArray) : 0 ≤ kindOf w ∧ kindOf w ≤ 5 := by
  unfold kindOf
  repeat' split
  all_goals omega
theorem word_kind {w : ByteArray} (h : kindOf w ≠ 0) : wordT (kindOf w) = w := by
  unfold kindOf at *
  split at h
  · rename_i e; rw [if_pos e, e]; decide
  rename_i e1
  rw [if_neg e1]
  split at h
  · rename_i e; rw [if_pos e, e]; decide
  rename_i e2
  rw [if_neg e2]
  split at h
  · rename_i e; rw [if_pos e, e]; decide
  rename_i e3
  rw [if_neg e3]
  split at h
  · rename_i e; rw [if_pos e, e]; decide
  rename_i e4
  rw [if_neg e4]
  split at h
  · rename_i e; rw [if_pos e, e]; decide
  · exact absurd rfl h
theorem word_val {k : Int} (h1 : 1 ≤ k) (h2 : k ≤ 5) : ValOk (wordT k).data.toList := by
  have : k = 1 ∨ k = 2 ∨ k = 3 ∨ k = 4 ∨ k = 5 := by omega
  refine valB_true.1 ?_
  rcases this with rfl | rfl | rfl | rfl | rfl <;> decide +kernel
/-- The wanted fields of a kind, but for those that hang on the algorithm. -/
def headW (k : Int) : List (Int × Want) :=
  if k = 1 then [(11, .name), (1, .name), (55, .name), (54, .int 1 2), (38, .int 1 1099511627776), (44, .int 1 1099511627776), (5001, .int 1 4), (5002, .int 0 1099511627776), (5003, .int 0 1099511627776)]
  else if k = 3 then [(11, .name), (41, .name), (38, .int 1 1099511627776), (44, .int 1 1099511627776), (5003, .int 0 1099511627776)]
  else [(11, .name), (41, .name)]
/-- Those that do. -/
def tailW (algo : Int) : List (Int × Want) :=
  if algo = 2 then [(5006, .ints 64 0 1048576)] else if algo = 3 then [(5004, .int 1 10000)] else if algo = 4 then [(5005, .int 1 1099511627776)] else []
/-- An ask's fields. -/
def tailF (a : AskP) : List Fd := if a.algo = 2 then [(5006, mk (listT a.curve))] else if a.algo = 3 then [(5004, numT a.rate)] else if a.algo = 4 then [(5005, numT a.shown)] else []
def fieldsP (a : AskP) : List Fd :=
  (35, wordT a.kind) :: (11, a.id) ::
  (if a.kind = 1 then [(1, a.account), (55, a.symbol), (54, numT a.side), (38, numT a.qty), (44, numT a.price), (5001, numT a.algo), (5002, numT a.start), (5003, numT a.stop)] ++ tailF a
   else if a.kind = 3 then [(41, a.target), (38, numT a.qty), (44, numT a.price), (5003, numT a.stop)]
   else [(41, a.target)])
/-- A list of weights that is a curve. -/
def CurveP (l : List Nat) : Prop := 1 ≤ l.length ∧ l.length ≤ 64 ∧ (∀ n ∈ l, n ≤ 1048576) ∧ ∃ n ∈ l, 0 < n
/-- An ask that is right. -/
structure RightP (a : AskP) : Prop where
  kind : 1 ≤ a.kind ∧ a.kind ≤ 5
  id : vldB a.id = true
  other : a.kind ≠ 1 → vldB a.target = true ∧ a.account = noText ∧ a.symbol = noText ∧ a.side = 0 ∧ a.algo = 0 ∧ a.start = 0
  small : a.kind ≠ 1 → a.kind ≠ 3 → a.qty = 0 ∧ a.price = 0 ∧ a.stop = 0
  nums : a.kind = 1 ∨ a.kind = 3 → (1 ≤ a.qty ∧ a.qty ≤ 1099511627776) ∧ (1 ≤ a.price ∧ a.price ≤ 1099511627776) ∧ 0 ≤ a.stop ∧ a.stop ≤ 1099511627776
  new : a.kind = 1 → a.target = noText ∧ vldB a.account = true ∧ vldB a.symbol = true ∧ (1 ≤ a.side ∧ a.side ≤ 2) ∧ (1 ≤ a.algo ∧ a.algo ≤ 4) ∧ (0 ≤ a.start ∧ a.start ≤ 1099511627776) ∧ 1 ≤ a.stop - a.start ∧ a.stop - a.start ≤ 1073741824
  vwap : (a.algo = 2 → CurveP a.curve) ∧ (a.algo ≠ 2 → a.curve = [])
  flow : (a.algo = 3 → 1 ≤ a.rate ∧ a.rate ≤ 10000) ∧ (a.algo ≠ 3 → a.rate = 0)
  berg : (a.algo = 4 → 1 ≤ a.shown ∧ a.shown ≤ 1099511627776) ∧ (a.algo ≠ 4 → a.shown = 0)
theorem tail_tags (a : AskP) : (tailF a).map Prod.fst = (tailW a.algo).map Prod.fst := by
  unfold tailF tailW
  repeat' split
  all_goals rfl
theorem fields_tags (a : AskP) : (fieldsP a).map Prod.fst = 35 :: (headW a.kind).map Prod.fst ++ (if a.kind = 1 then (tailW a.algo).map Prod.fst else []) := by
  unfold fieldsP headW
  by_cases h1 : a.kind = 1
  · rw [if_pos h1, if_pos h1, if_pos h1, ← tail_tags a]
    simp
  · rw [if_neg h1, if_neg h1, if_neg h1]
    by_cases h3 : a.kind = 3
    · rw [if_pos h3, if_pos h3]
      rfl
    · rw [if_neg h3, if_neg h3]
      rfl
theorem tail_few (algo : Int) : (tailW algo).map Prod.fst = [] ∨ (tailW algo).map Prod.fst = [5006] ∨ (tailW algo).map Prod.fst = [5004] ∨ (tailW algo).map Prod.fst = [5005] := by
  unfold tailW
  repeat' split
  all_goals simp
theorem fields_nodup (a : AskP) : ((fieldsP a).map Prod.fst).Nodup := by
  rw [fields_tags]
  unfold headW
  by_cases h1 : a.kind = 1
  · rw [if_pos h1, if_pos h1]
    rcases tail_few a.algo with h | h | h | h <;> rw [h] <;> decide
  · rw [if_neg h1, if_neg h1]
    by_cases h3 : a.kind = 3
    · rw [if_pos h3]; decide
    · rw [if_neg h3]; decide
theorem name_fits {s : ByteArray} (h : vldB s = true) : Want.err .name s = 0 := if_pos h
theorem num_fits {n low high : Int} (h0 : 0 ≤ low) (h : low ≤ n ∧ n ≤ high) (hh : high ≤ 1099511627776) : Want.err (.int low high) (numT n) = 0 := by
  show (intVE (numT n) low high).2 = 0
  rw [numT_read (by omega) (by omega) h]
theorem curve_read {l : List Nat} (h : CurveP l) : intsVE (mk (listT l)) 64 0 1048576 = (l, 0) :=
  listT_read (fun e => by have := h.1; rw [e] at this; simp at this) (fun n hn => by have := h.2.2.1 n hn; omega) (by have := h.2.1; omega) (fun n hn => by have := h.2.2.1 n hn; omega)
/-- All that is wanted of a right ask's body fits. -/
theorem right_fits {a : AskP} (R : RightP a) : (∀ p ∈ headW a.kind, Fits (lookF (fieldsP a)) p) ∧ (a.kind = 1 → ∀ p ∈ tailW a.algo, Fits (lookF (fieldsP a)) p) := by
  have hn := fields_nodup a
  have M : ∀ (t : Int) (v : ByteArray) (w : Want), (t, v) ∈ fieldsP a → w.err v = 0 → Fits (lookF (fieldsP a)) (t, w) := fun t v w h hv => fits_mem hn h hv
  constructor
  · unfold headW
    by_cases h1 : a.kind = 1
    · obtain ⟨n1, n2, n3, n4⟩ := R.nums (.inl h1)
      obtain ⟨_, w2, w3, w4, w5, w6, _⟩ := R.new h1
      rw [if_pos h1]
      intro p hp
      simp only [List.mem_cons, List.not_mem_nil, or_false] at hp
      rcases hp with rfl | rfl | rfl | rfl | rfl | rfl | rfl | rfl | rfl
      · exact M 11 a.id _ (by unfold fieldsP; simp) (name_fits R.id)
      · exact M 1 a.account _ (by unfold fieldsP; rw [if_pos h1]; simp) (name_fits w2)
      · exact M 55 a.symbol _ (by unfold fieldsP; rw [if_pos h1]; simp) (name_fits w3)
      · exact M 54 (numT a.side) _ (by unfold fieldsP; rw [if_pos h1]; simp) (num_fits (by omega) w4 (by omega))
      · exact M 38 (numT a.qty) _ (by unfold fieldsP; rw [if_pos h1]; simp) (num_fits (by omega) n1 (by omega))
      · exact M 44 (numT a.price) _ (by unfold fieldsP; rw [if_pos h1]; simp) (num_fits (by omega) n2 (by omega))
      · exact M 5001 (numT a.algo) _ (by unfold fieldsP; rw [if_pos h1]; simp) (num_fits (by omega) w5 (by omega))
      · exact M 5002 (numT a.start) _ (by unfold fieldsP; rw [if_pos h1]; simp) (num_fits (by omega) w6 (by omega))
      · exact M 5003 (numT a.stop) _ (by unfold fieldsP; rw [if_pos h1]; simp) (num_fits (by omega) ⟨n3, n4⟩ (by omega))
    · obtain ⟨o1, _⟩ := R.other h1
      rw [if_neg h1]
      by_cases h3 : a.kind = 3
      · obtain ⟨n1, n2, n3, n4⟩ := R.nums (.inr h3)
        rw [if_pos h3]
        intro p hp
        simp only [List.mem_cons, List.not_mem_nil, or_false] at hp
        rcases hp with rfl | rfl | rfl | rfl | rfl
        · exact M 11 a.id _ (by unfold fieldsP; simp) (name_fits R.id)
        · exact M 41 a.target _ (by unfold fieldsP; rw [if_neg h1, if_pos h3]; simp) (name_fits o1)
        · exact M 38 (numT a.qty) _ (by unfold fieldsP; rw [if_neg h1, if_pos h3]; simp) (num_fits (by omega) n1 (by omega))
        · exact M 44 (numT a.price) _ (by unfold fieldsP; rw [if_neg h1, if_pos h3]; simp) (num_fits (by omega) n2 (by omega))
        · exact M 5003 (numT a.stop) _ (by unfold fieldsP; rw [if_neg h1, if_pos h3]; simp) (num_fits (by omega) ⟨n3, n4⟩ (by omega))
      · rw [if_neg h3]
        intro p hp
        simp only [List.mem_cons, List.not_mem_nil, or_false] at hp
        rcases hp with rfl | rfl
        · exact M 11 a.id _ (by unfold fieldsP; simp) (name_fits R.id)
        · exact M 41 a.target _ (by unfold fieldsP; rw [if_neg h1, if_neg h3]; simp) (name_fits o1)
  · intro h1 p hp
    have mem : ∀ q ∈ tailF a, q ∈ fieldsP a := fun q hq => by unfold fieldsP; rw [if_pos h1]; simp [hq]
    unfold tailW at hp
    unfold tailF at mem
    split at hp
    · rename_i h
      rw [if_pos h] at mem
      simp only [List.mem_cons, List.not_mem_nil, or_false] at hp
      subst hp
      refine M 5006 (mk (listT a.curve)) _ (mem _ (by simp)) ?_
      show (intsVE (mk (listT a.curve)) 64 0 1048576).2 = 0
      rw [curve_read (R.vwap.1 h)]
    · rename_i h2
      rw [if_neg h2] at mem
      split at hp
      · rename_i h
        rw [if_pos h] at mem
        simp only [List.mem_cons, List.not_mem_nil, or_false] at hp
        subst hp
        exact M 5004 (numT a.rate) _ (mem _ (by simp)) (num_fits (by omega) (R.flow.1 h) (by omega))
      · rename_i h3
        rw [if_neg h3] at mem
        split at hp
        · rename_i h
          rw [if_pos h] at mem
          simp only [List.mem_cons, List.not_mem_nil, or_false] at hp
          subst hp
          exact M 5005 (numT a.shown) _ (mem _ (by simp)) (num_fits (by omega) (R.berg.1 h) (by omega))
        · simp at hp
end Go.Proofs.YtepkmbpadhfbmaaGreatDoor
/-
  What an ask's body is read as; what is read is right; a right ask has a body (plain).
-/
namespace Go.Proofs.YtepkmbpadhfbmaaGreatDoor
open Go.Lib

/-- The text of a tag. -/
def textOf (l : List Fd) (t : Int) : ByteArray := match lookF l t with
  | some (s, _) => s
  | none => noText
theorem textOf_mem {l : List Fd} (hn : (l.map Prod.fst).Nodup) {t : Int} {v : ByteArray} (h : (t, v) ∈ l) : textOf l t = v := by
  unfold textOf
  rw [lookF_mem (p := (t, v)) hn h]
theorem fits_text {l : List Fd} {t : Int} {w : Want} (h : Fits (lookF l) (t, w)) : w.err (textOf l t) = 0 := by
  obtain ⟨s, b, h1, h2⟩ := h
  unfold textOf
  dsimp only at h1
  rw [h1]
  exact h2
/-- The algorithm that a body says. -/
def algoOf (l : List Fd) : Int := ((intVE (textOf l 5001) 1 4).1 : Int)
/-- What a body of that kind is read as. -/
def askOf (k : Int) (l : List Fd) : AskP where
  kind := k
  id := textOf l 11
  target := if k = 1 then noText else textOf l 41
  account := if k = 1 then textOf l 1 else noText
  symbol := if k = 1 then textOf l 55 else noText
  side := if k = 1 then ((intVE (textOf l 54) 1 2).1 : Int) else 0
  qty := if k = 1 ∨ k = 3 then ((intVE (textOf l 38) 1 1099511627776).1 : Int) else 0
  price := if k = 1 ∨ k = 3 then ((intVE (textOf l 44) 1 1099511627776).1 : Int) else 0
  algo := if k = 1 then algoOf l else 0
  start := if k = 1 then ((intVE (textOf l 5002) 0 1099511627776).1 : Int) else 0
  stop := if k = 1 ∨ k = 3 then ((intVE (textOf l 5003) 0 1099511627776).1 : Int) else 0
  rate := if k = 1 ∧ algoOf l = 3 then ((intVE (textOf l 5004) 1 10000).1 : Int) else 0
  shown := if k = 1 ∧ algoOf l = 4 then ((intVE (textOf l 5005) 1 1099511627776).1 : Int) else 0
  curve := if k = 1 ∧ algoOf l = 2 then (intsVE (textOf l 5006) 64 0 1048576).1 else []
theorem num_text {n low high : Int} (h0 : 0 ≤ low) (h : low ≤ n ∧ n ≤ high) (hh : high ≤ 1099511627776) : ((intVE (numT n) low high).1 : Int) = n := by
  rw [numT_read (by omega) (by omega) h]
  show ((n.toNat : Nat) : Int) = n
  omega
theorem ask_ext {a b : AskP} (h0 : a.kind = b.kind) (h1 : a.id = b.id) (h2 : a.target = b.target) (h3 : a.account = b.account) (h4 : a.symbol = b.symbol) (h5 : a.side = b.side) (h6 : a.qty = b.qty) (h7 : a.price = b.price) (h8 : a.algo = b.algo) (h9 : a.start = b.start) (h10 : a.stop = b.stop) (h11 : a.rate = b.rate) (h12 : a.shown = b.shown) (h13 : a.curve = b.curve) : a = b := by
  cases a
  cases b
  simp only at *
  subst h0 h1 h2 h3 h4 h5 h6 h7 h8 h9 h10 h11 h12 h13
  rfl
/-- A right ask's body is read as the ask. -/
theorem ask_back {a : AskP} (R : RightP a) : askOf a.kind (fieldsP a) = a := by
  have hn := fields_nodup a
  have T : ∀ (t : Int) (v : ByteArray), (t, v) ∈ fieldsP a → textOf (fieldsP a) t = v := fun t v h => textOf_mem hn h
  by_cases h1 : a.kind = 1
  · obtain ⟨n1, n2, n3, n4⟩ := R.nums (.inl h1)
    obtain ⟨w1, w2, w3, w4, w5, w6, _⟩ := R.new h1
    have m : ∀ q ∈ [(1, a.account), (55, a.symbol), (54, numT a.side), (38, numT a.qty), (44, numT a.price), (5001, numT a.algo), (5002, numT a.start), (5003, numT a.stop)] ++ tailF a, q ∈ fieldsP a := fun q hq => by
      unfold fieldsP
      rw [if_pos h1]
      exact List.mem_cons_of_mem _ (List.mem_cons_of_mem _ hq)
    have ha : algoOf (fieldsP a) = a.algo := by
      unfold algoOf
      rw [T 5001 (numT a.algo) (m _ (by simp)), num_text (by omega) w5 (by omega)]
    refine ask_ext rfl ?_ ?_ ?_ ?_ ?_ ?_ ?_ ?_ ?_ ?_ ?_ ?_ ?_
    · exact T 11 a.id (by unfold fieldsP; simp)
    · show (if a.kind = 1 then noText else _) = _
      rw [if_pos h1, w1]
    · show (if a.kind = 1 then _ else _) = _
      rw [if_pos h1, T 1 a.account (m _ (by simp))]
    · show (if a.kind = 1 then _ else _) = _
      rw [if_pos h1, T 55 a.symbol (m _ (by simp))]
    · show (if a.kind = 1 then _ else _) = _
      rw [if_pos h1, T 54 (numT a.side) (m _ (by simp)), num_text (by omega) w4 (by omega)]
    · show (if a.kind = 1 ∨ a.kind = 3 then _ else _) = _
      rw [if_pos (.inl h1), T 38 (numT a.qty) (m _ (by simp)), num_text (by omega) n1 (by omega)]
    · show (if a.kind = 1 ∨ a.kind = 3 then _ else _) = _
      rw [if_pos (.inl h1), T 44 (numT a.price) (m _ (by simp)), num_text (by omega) n2 (by omega)]
    · show (if a.kind = 1 then _ else _) = _
      rw [if_pos h1, ha]
    · show (if a.kind = 1 then _ else _) = _
      rw [if_pos h1, T 5002 (numT a.start) (m _ (by simp)), num_text (by omega) w6 (by omega)]
    · show (if a.kind = 1 ∨ a.kind = 3 then _ else _) = _
      rw [if_pos (.inl h1), T 5003 (numT a.stop) (m _ (by simp)), num_text (by omega) ⟨n3, n4⟩ (by omega)]
    · show (if a.kind = 1 ∧ algoOf (fieldsP a) = 3 then _ else _) = _
      rw [ha]
      by_cases h : a.algo = 3
      · rw [if_pos ⟨h1, h⟩, T 5004 (numT a.rate) (m _ (by unfold tailF; rw [if_neg (by omega), if_pos h]; simp)), num_text (by omega) (R.flow.1 h) (by omega)]
      · rw [if_neg (fun e => h e.2), R.flow.2 h]
    · show (if a.kind = 1 ∧ algoOf (fieldsP a) = 4 then _ else _) = _
      rw [ha]
      by_cases h : a.algo = 4
      · rw [if_pos ⟨h1, h⟩, T 5005 (numT a.shown) (m _ (by unfold tailF; rw [if_neg (by omega), if_neg (by omega), if_pos h]; simp)), num_text (by omega) (R.berg.1 h) (by omega)]
      · rw [if_neg (fun e => h e.2), R.berg.2 h]
    · show (if a.kind = 1 ∧ algoOf (fieldsP a) = 2 then _ else _) = _
      rw [ha]
      by_cases h : a.algo = 2
      · rw [if_pos ⟨h1, h⟩, T 5006 (mk (listT a.curve)) (m _ (by unfold tailF; rw [if_pos h]; simp)), curve_read (R.vwap.1 h)]
      · rw [if_neg (fun e => h e.2), R.vwap.2 h]
  · obtain ⟨o1, o2, o3, o4, o5, o6⟩ := R.other h1
    have hid : textOf (fieldsP a) 11 = a.id := T 11 a.id (by unfold fieldsP; simp)
    have htg : textOf (fieldsP a) 41 = a.target := T 41 a.target (by
      unfold fieldsP
      rw [if_neg h1]
      split <;> simp)
    refine ask_ext rfl hid ?_ ?_ ?_ ?_ ?_ ?_ ?_ ?_ ?_ ?_ ?_ ?_
    · show (if a.kind = 1 then noText else _) = _
      rw [if_neg h1, htg]
    · show (if a.kind = 1 then _ else _) = _
      rw [if_neg h1, o2]
    · show (if a.kind = 1 then _ else _) = _
      rw [if_neg h1, o3]
    · show (if a.kind = 1 then _ else _) = _
      rw [if_neg h1, o4]
    · show (if a.kind = 1 ∨ a.kind = 3 then _ else _) = _
      by_cases h3 : a.kind = 3
      · rw [if_pos (.inr h3), T 38 (numT a.qty) (by unfold fieldsP; rw [if_neg h1, if_pos h3]; simp), num_text (by omega) (R.nums (.inr h3)).1 (by omega)]
      · rw [if_neg (by rintro (e | e); exact h1 e; exact h3 e), (R.small h1 h3).1]
    · show (if a.kind = 1 ∨ a.kind = 3 then _ else _) = _
      by_cases h3 : a.kind = 3
      · rw [if_pos (.inr h3), T 44 (numT a.price) (by unfold fieldsP; rw [if_neg h1, if_pos h3]; simp), num_text (by omega) (R.nums (.inr h3)).2.1 (by omega)]
      · rw [if_neg (by rintro (e | e); exact h1 e; exact h3 e), (R.small h1 h3).2.1]
    · show (if a.kind = 1 then _ else _) = _
      rw [if_neg h1, o5]
    · show (if a.kind = 1 then _ else _) = _
      rw [if_neg h1, o6]
    · show (if a.kind = 1 ∨ a.kind = 3 then _ else _) = _
      by_cases h3 : a.kind = 3
      · rw [if_pos (.inr h3), T 5003 (numT a.stop) (by unfold fieldsP; rw [if_neg h1, if_pos h3]; simp), num_text (by omega) (R.nums (.inr h3)).2.2 (by omega)]
      · rw [if_neg (by rintro (e | e); exact h1 e; exact h3 e), (R.small h1 h3).2.2]
    · show (if a.kind = 1 ∧ _ then _ else _) = _
      rw [if_neg (fun e => h1 e.1), R.flow.2 (by omega)]
    · show (if a.kind = 1 ∧ _ then _ else _) = _
      rw [if_neg (fun e => h1 e.1), R.berg.2 (by omega)]
    · show (if a.kind = 1 ∧ _ then _ else _) = _
      rw [if_neg (fun e => h1 e.1), R.vwap.2 (by omega)]
/-- A right ask's fields all have forms. -/
theorem right_allOk {a : AskP} (R : RightP a) : AllOk (fieldsP a) ∧ (fieldsP a).length ≤ 64 := by
  have N : ∀ (t n : Int), 1 ≤ t → t ≤ 99999 → n ≤ 1099511627776 → (formE (t, numT n)).2 = 0 := fun t n h1 h2 h => form_val h1 h2 (numT_val (by omega))
  have V : ∀ (t : Int) (s : ByteArray), 1 ≤ t → t ≤ 99999 → vldB s = true → (formE (t, s)).2 = 0 := fun t s h1 h2 h => form_val h1 h2 (name_val h)
  have K := form_val (t := 35) (by omega) (by omega) (word_val R.kind.1 R.kind.2)
  have I := V 11 a.id (by omega) (by omega) R.id
  constructor
  · intro f hf
    unfold fieldsP at hf
    rcases List.mem_cons.1 hf with rfl | hf
    · exact K
    rcases List.mem_cons.1 hf with rfl | hf
    · exact I
    by_cases h1 : a.kind = 1
    · obtain ⟨n1, n2, n3, n4⟩ := R.nums (.inl h1)
      obtain ⟨w1, w2, w3, w4, w5, w6, _⟩ := R.new h1
      rw [if_pos h1, List.mem_append] at hf
      rcases hf with hf | hf
      · simp only [List.mem_cons, List.not_mem_nil, or_false] at hf
        rcases hf with rfl | rfl | rfl | rfl | rfl | rfl | rfl | rfl
        · exact V _ _ (by omega) (by omega) w2
        · exact V _ _ (by omega) (by omega) w3
        · exact N _ _ (by omega) (by omega) (by omega)
        · exact N _ _ (by omega) (by omega) (by omega)
        · exact N _ _ (by omega) (by omega) (by omega)
        · exact N _ _ (by omega) (by omega) (by omega)
        · exact N _ _ (by omega) (by omega) (by omega)
        · exact N _ _ (by omega) (by omega) (by omega)
      · unfold tailF at hf
        split at hf
        · rename_i h
          simp only [List.mem_cons, List.not_mem_nil, or_false] at hf
          subst hf
          have c := R.vwap.1 h
          refine form_val (by omega) (by omega) ?_
          rw [mk_list]
          exact listT_val (fun e => by have := c.1; rw [e] at this; simp at this) c.2.1 c.2.2.1
        · split at hf
          · rename_i h
            simp only [List.mem_cons, List.not_mem_nil, or_false] at hf
            subst hf
            have := R.flow.1 h
            exact N _ _ (by omega) (by omega) (by omega)
          · split at hf
            · rename_i h
              simp only [List.mem_cons, List.not_mem_nil, or_false] at hf
              subst hf
              have := R.berg.1 h
              exact N _ _ (by omega) (by omega) (by omega)
            · simp at hf
    · obtain ⟨o1, _⟩ := R.other h1
      rw [if_neg h1] at hf
      by_cases h3 : a.kind = 3
      · obtain ⟨n1, n2, n3, n4⟩ := R.nums (.inr h3)
        rw [if_pos h3] at hf
        simp only [List.mem_cons, List.not_mem_nil, or_false] at hf
        rcases hf with rfl | rfl | rfl | rfl
        · exact V _ _ (by omega) (by omega) o1
        · exact N _ _ (by omega) (by omega) (by omega)
        · exact N _ _ (by omega) (by omega) (by omega)
        · exact N _ _ (by omega) (by omega) (by omega)
      · rw [if_neg h3] at hf
        simp only [List.mem_cons, List.not_mem_nil, or_false] at hf
        subst hf
        exact V _ _ (by omega) (by omega) o1
  · unfold fieldsP tailF
    repeat' split
    all_goals simp
/-- What is read, and goes together, is right. -/
theorem ask_sound {k : Int} {l : List Fd} (h1 : 1 ≤ k) (h5 : k ≤ 5) (hh : ∀ p ∈ headW k, Fits (lookF l) p) (ht : k = 1 → ∀ p ∈ tailW (algoOf l), Fits (lookF l) p)
    (hw : k = 1 → 1 ≤ (askOf k l).stop - (askOf k l).start ∧ (askOf k l).stop - (askOf k l).start ≤ 1073741824) (hc : k = 1 → algoOf l = 2 → CurveP (askOf k l).curve) : RightP (askOf k l) := by
  have NM : ∀ t : Int, Fits (lookF l) (t, .name) → vldB (textOf l t) = true := fun t h => by
    have := fits_text h
    by_cases hv : vldB (textOf l t) = true
    · exact hv
    · have e : Want.err .name (textOf l t) = 43 := if_neg hv
      rw [e] at this
      simp at this
  have IN : ∀ (t lo hi : Int), Fits (lookF l) (t, .int lo hi) → lo ≤ ((intVE (textOf l t) lo hi).1 : Int) ∧ ((intVE (textOf l t) lo hi).1 : Int) ≤ hi := fun t lo hi h => by
    have := int_back (fits_text h)
    exact ⟨this.1, this.2.1⟩
  have hid : vldB (textOf l 11) = true := NM 11 (hh _ (by
    unfold headW
    split
    · simp
    · split <;> simp))
  by_cases k1 : k = 1
  · subst k1
    have F : ∀ p ∈ [(11, Want.name), (1, .name), (55, .name), (54, .int 1 2), (38, .int 1 1099511627776), (44, .int 1 1099511627776), (5001, .int 1 4), (5002, .int 0 1099511627776), (5003, .int 0 1099511627776)], Fits (lookF l) p := fun p hp => hh p (by unfold headW; rw [if_pos rfl]; exact hp)
    have a1 := NM 1 (F _ (by simp))
    have a2 := NM 55 (F _ (by simp))
    have a3 := IN 54 1 2 (F _ (by simp))
    have a4 := IN 38 1 1099511627776 (F _ (by simp))
    have a5 := IN 44 1 1099511627776 (F _ (by simp))
    have a6 := IN 5001 1 4 (F _ (by simp))
    have a7 := IN 5002 0 1099511627776 (F _ (by simp))
    have a8 := IN 5003 0 1099511627776 (F _ (by simp))
    have w := hw rfl
    have tl := ht rfl
    refine ⟨⟨h1, h5⟩, hid, fun h => absurd rfl h, fun h => absurd rfl h, fun _ => ⟨a4, a5, a8⟩, fun _ => ⟨rfl, a1, a2, a3, a6, a7, w⟩, ⟨fun h => hc rfl h, fun h => ?_⟩, ⟨fun h => ?_, fun h => ?_⟩, ⟨fun h => ?_, fun h => ?_⟩⟩
    · show (if (1 : Int) = 1 ∧ algoOf l = 2 then _ else _) = _
      rw [if_neg (fun e => h e.2)]
    · have h' : algoOf l = 3 := h
      show 1 ≤ (if (1 : Int) = 1 ∧ algoOf l = 3 then _ else _) ∧ _
      have := IN 5004 1 10000 (tl _ (by unfold tailW; rw [if_neg (by omega), if_pos h']; simp))
      show 1 ≤ (if (1 : Int) = 1 ∧ algoOf l = 3 then ((intVE (textOf l 5004) 1 10000).1 : Int) else 0) ∧ (if (1 : Int) = 1 ∧ algoOf l = 3 then ((intVE (textOf l 5004) 1 10000).1 : Int) else 0) ≤ 10000
      rw [if_pos ⟨rfl, h'⟩]
      exact this
    · show (if (1 : Int) = 1 ∧ algoOf l = 3 then _ else _) = _
      rw [if_neg (fun e => h e.2)]
    · have h' : algoOf l = 4 := h
      have := IN 5005 1 1099511627776 (tl _ (by unfold tailW; rw [if_neg (by omega), if_neg (by omega), if_pos h']; simp))
      show 1 ≤ (if (1 : Int) = 1 ∧ algoOf l = 4 then ((intVE (textOf l 5005) 1 1099511627776).1 : Int) else 0) ∧ (if (1 : Int) = 1 ∧ algoOf l = 4 then ((intVE (textOf l 5005) 1 1099511627776).1 : Int) else 0) ≤ 1099511627776
      rw [if_pos ⟨rfl, h'⟩]
      exact this
    · show (if (1 : Int) = 1 ∧ algoOf l = 4 then _ else _) = _
      rw [if_neg (fun e => h e.2)]
  · have htg : vldB (textOf l 41) = true := NM 41 (hh _ (by unfold headW; rw [if_neg k1]; split <;> simp))
    have al : (askOf k l).algo = 0 := if_neg k1
    refine ⟨⟨h1, h5⟩, hid, fun _ => ⟨?_, if_neg k1, if_neg k1, if_neg k1, al, if_neg k1⟩, fun _ k3 => ⟨?_, ?_, ?_⟩, fun hk => ?_, fun h => absurd h k1, ⟨fun h => ?_, fun _ => if_neg (fun e => k1 e.1)⟩, ⟨fun h => ?_, fun _ => if_neg (fun e => k1 e.1)⟩, ⟨fun h => ?_, fun _ => if_neg (fun e => k1 e.1)⟩⟩
    · show vldB (if k = 1 then noText else textOf l 41) = true
      rw [if_neg k1]
      exact htg
    · exact if_neg (by rintro (e | e); exact k1 e; exact k3 e)
    · exact if_neg (by rintro (e | e); exact k1 e; exact k3 e)
    · exact if_neg (by rintro (e | e); exact k1 e; exact k3 e)
    · have k3 : k = 3 := hk.resolve_left k1
      have F : ∀ p ∈ [(11, Want.name), (41, .name), (38, .int 1 1099511627776), (44, .int 1 1099511627776), (5003, .int 0 1099511627776)], Fits (lookF l) p := fun p hp => hh p (by unfold headW; rw [if_neg k1, if_pos k3]; exact hp)
      have a4 := IN 38 1 1099511627776 (F _ (by simp))
      have a5 := IN 44 1 1099511627776 (F _ (by simp))
      have a8 := IN 5003 0 1099511627776 (F _ (by simp))
      have e1 : (askOf k l).qty = ((intVE (textOf l 38) 1 1099511627776).1 : Int) := if_pos (.inr k3)
      have e2 : (askOf k l).price = ((intVE (textOf l 44) 1 1099511627776).1 : Int) := if_pos (.inr k3)
      have e3 : (askOf k l).stop = ((intVE (textOf l 5003) 0 1099511627776).1 : Int) := if_pos (.inr k3)
      rw [e1, e2, e3]
      exact ⟨a4, a5, a8⟩
    · rw [al] at h; omega
    · rw [al] at h; omega
    · rw [al] at h; omega
end Go.Proofs.YtepkmbpadhfbmaaGreatDoor
