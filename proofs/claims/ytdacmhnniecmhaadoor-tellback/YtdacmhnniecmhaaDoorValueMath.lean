/-
  Names, numbers and lists of numbers as fields' values: they may be values, and are read as what they were (plain).
-/
import Derived.Test.YtdacmhnniecmhaaDoorBodyTotal
import Derived.Test.YtdacmhnniecmhaaDoorBodyWholeMath
namespace Go.Proofs.YtdacmhnniecmhaaDoor
open Go.Lib

theorem runes_list (s : ByteArray) : ∀ (b i : Nat), s.size ≤ i + b → runesOf s b i = runesL (s.data.toList.drop i)
  | 0, i, h => by
    rw [runesOf, List.drop_eq_nil_of_le (by rw [← size_eq]; omega), runesL_nil]
  | b + 1, i, h => by
    rw [runesOf]
    by_cases hi : i < s.size
    · have hne : s.data.toList.drop i ≠ [] := drop_ne (by rw [← size_eq]; exact hi)
      have hd := decodeL_drop s i
      have hw := width_pos s i hi
      rw [if_pos hi, runesL_step hne, hd, List.drop_drop, runes_list s b _ (by omega)]
    · rw [if_neg hi, List.drop_eq_nil_of_le (by rw [← size_eq]; omega), runesL_nil]
theorem runes_eq (s : ByteArray) : runes s = runesL s.data.toList := by
  have := runes_list s s.size 0 (by omega)
  rw [List.drop_zero] at this
  exact this
theorem bytes_runes : ∀ l : List UInt8, l.length ≤ 4 * (runesL l).length := by
  refine byRunes (by simp) ?_
  intro l hne ih
  rw [runesL_step hne, List.length_cons]
  have hd := decodeL_drop (mk l) 0
  rw [mk_list, List.drop_zero] at hd
  have h4 := width_four (mk l) 0
  rw [← hd] at h4
  rw [List.length_drop] at ih
  omega
/-- A name may be a value. -/
theorem name_val {s : ByteArray} (h : vldB s = true) : ValOk s.data.toList := by
  have hn := vld_size h
  unfold vldB goodB at h
  rw [runes_eq, Bool.and_eq_true, decide_eq_true_eq, List.all_eq_true] at h
  obtain ⟨⟨h1, h2⟩, h3⟩ := h
  have hb := bytes_runes s.data.toList
  refine ⟨by rw [← size_eq]; omega, by omega, fun c hc => ?_⟩
  have := h3 c hc
  unfold barB at this
  unfold mayB
  simp at this
  simp
  omega
theorem ascii_may : ∀ l : List UInt8, (∀ c ∈ l, 31 < c.toNat ∧ c.toNat < 127) → AllMay l
  | [], _ => AllMay.nil
  | c :: l, h => by
    have hc := h c (by simp)
    rw [AllMay.step (by simp), decode_one c l (by omega)]
    refine ⟨?_, ?_⟩
    · unfold mayB
      simp
      omega
    · exact ascii_may l (fun d hd => h d (by simp [hd]))
theorem digits_val {n : Nat} (h : n ≤ 9223372036854775807) : ValOk (decDigits n) := by
  have h1 := digits_pos n
  have h2 := digits_short 18 n (by omega)
  exact ⟨h1, by omega, ascii_may _ (fun c hc => by have := dec_digits n c hc; omega)⟩
/-- A number as a text. -/
def numT (n : Int) : ByteArray := mk (decDigits n.toNat)
theorem numT_val {n : Int} (h2 : n ≤ 9223372036854775807) : ValOk (numT n).data.toList := by
  unfold numT
  rw [mk_list]
  exact digits_val (by omega)
theorem numT_read {n low high : Int} (h0 : 0 ≤ n) (h2 : n ≤ 9223372036854775807) (h : low ≤ n ∧ n ≤ high) : intVE (numT n) low high = (n.toNat, 0) := by
  unfold intVE numT
  rw [mk_list, num_dec (by omega), if_pos rfl, if_pos (by dsimp only; omega)]
/-- What is read as a number from low to high is a number's digits. -/
theorem int_back {s : ByteArray} {low high : Int} (h : (intVE s low high).2 = 0) : low ≤ ((intVE s low high).1 : Int) ∧ ((intVE s low high).1 : Int) ≤ high ∧ (intVE s low high).1 ≤ 9223372036854775807 := by
  unfold intVE at *
  by_cases h0 : (numE s.data.toList).2 = 0
  · rw [if_pos h0] at h ⊢
    by_cases hr : low ≤ ((numE s.data.toList).1 : Int) ∧ ((numE s.data.toList).1 : Int) ≤ high
    · rw [if_pos hr]
      exact ⟨hr.1, hr.2, numE_le _⟩
    · rw [if_neg hr] at h
      simp at h
  · rw [if_neg h0] at h
    simp at h
/-- A field that may be has a form. -/
theorem form_val {t : Int} {v : ByteArray} (h1 : 1 ≤ t) (h2 : t ≤ 99999) (hv : ValOk v.data.toList) : (formE (t, v)).2 = 0 := by
  unfold formE
  dsimp only
  rw [if_neg (by omega), if_neg (by rw [valB_true.2 hv]; simp)]
/-- A form in which the tags of a list count as asked for. -/
def markAll (L : Int → Option (ByteArray × Bool)) (ts : List Int) (t : Int) : Option (ByteArray × Bool) := match L t with
  | some (v, b) => some (v, b || ts.contains t)
  | none => none
theorem markAll_nil (L : Int → Option (ByteArray × Bool)) : markAll L [] = L := by
  funext t
  unfold markAll
  cases L t with
  | none => rfl
  | some p => simp
theorem markAll_at {L : Int → Option (ByteArray × Bool)} {ts : List Int} {t : Int} {s : ByteArray} {b : Bool} (h : L t = some (s, b)) : markAll L ts t = some (s, b || ts.contains t) := by
  unfold markAll
  rw [h]
theorem markAll_none {L : Int → Option (ByteArray × Bool)} {ts : List Int} {t : Int} (h : L t = none) : markAll L ts t = none := by
  unfold markAll
  rw [h]
theorem markAll_more {L : Int → Option (ByteArray × Bool)} {ts : List Int} {t : Int} {s : ByteArray} {b : Bool} (h : L t = some (s, b)) : updI (markAll L ts) t (s, true) = markAll L (ts ++ [t]) := by
  funext u
  by_cases e : u = t
  · subst e
    rw [updI_same, markAll_at h]
    simp
  · rw [updI_other _ _ e]
    unfold markAll
    cases L u with
    | none => rfl
    | some p =>
      have : (ts ++ [t]).contains u = ts.contains u := by
        simp [e]
      rw [this]
/-- An ask that has no error behind it had none ahead, and the field is there and right. -/
theorem ask_ok {L : Int → Option (ByteArray × Bool)} {at_ e t : Int} {err : ByteArray → Int} (h : (askS L at_ e t err).2.2 = 0) : e = 0 ∧ ∃ s b, L t = some (s, b) ∧ err s = 0 ∧ askS L at_ e t err = (updI L t (s, true), at_, 0) := by
  by_cases he : e = 0
  · subst he
    refine ⟨rfl, ?_⟩
    cases hL : L t with
    | none =>
      rw [askS_miss err hL] at h
      simp at h
    | some p =>
      obtain ⟨s, b⟩ := p
      by_cases hs : err s = 0
      · exact ⟨s, b, rfl, hs, askS_good hL hs⟩
      · rw [askS_bad hL hs] at h
        exact absurd h hs
  · rw [askS_err err he] at h
    exact absurd h he
end Go.Proofs.YtdacmhnniecmhaaDoor
